package fleet

import (
	"cohort/api"
	"cohort/black"
	"cohort/conf"
	"cohort/inst"
	"cohort/ledger"
	"cohort/plan"
	"cohort/sched"
	"cohort/sums"
	"cohort/want"
)

// mostVersion is the greatest version.
const mostVersion = 1 << 31

// doer does events of a kind.
type doer interface {
	do(s api.State, x api.Event) (api.State, api.Errno)
}

// act does an event as it comes.
type act func(s api.State, x api.Event) (api.State, api.Errno)

func (a act) do(s api.State, x api.Event) (api.State, api.Errno) { return a(s, x) }

// needs does an event to the instance that it is of.
type needs func(s api.State, x api.Event, i api.Inst) (api.State, api.Errno)

func (n needs) to(s api.State, x api.Event, i api.Inst) (api.State, api.Errno) { return n(s, x, i) }

// find finds the instance of an event, for what needs it.
type find struct{ needs }

func (f find) do(s api.State, x api.Event) (api.State, api.Errno) {
	i, ok := sums.Find(s.Insts, x.Id)
	if !ok {
		return s, api.ErrNone
	}
	return f.to(s, x, i)
}

// becomes tells who lets that become of an instance, by which a kind of request
// about it is answered (0: none).
func becomes(what, answers uint8) find {
	return find{func(s api.State, x api.Event, i api.Inst) (api.State, api.Errno) {
		next, e := plan.Do(s, i.Id, what, x.At)
		if e != api.OK {
			return s, e
		}
		for _, o := range next.Opens {
			if o.R.Id == i.Id && o.R.Kind == answers {
				next.Opens, _ = ledger.Close(next.Opens, o.R.Token)
			}
		}
		return next, api.OK
	}}
}

// doers tells what does the events of each kind.
func doers() map[uint8]doer {
	return map[uint8]doer{
		api.EvDesired:  act(desired),
		api.EvConfig:   act(config),
		api.EvHold:     find{hold},
		api.EvBeat:     becomes(api.DoBeat, 0),
		api.EvDone:     find{done},
		api.EvMetric:   act(metric),
		api.EvRefresh:  act(refresh),
		api.EvCancel:   act(cancel),
		api.EvRollback: act(rollback),
		api.EvGranted:  act(granted),
		api.EvRefused:  act(refused),
		api.EvReady:    becomes(api.DoReady, api.AskStart),
		api.EvNotice:   becomes(api.DoNotice, 0),
		api.EvRisk:     becomes(api.DoRisk, 0),
		api.EvGone:     find{gone},
		api.EvStopped:  becomes(api.DoStopped, api.AskStop),
		api.EvQuote:    act(quote),
	}
}

// done lets a hook go on, or be left.
func done(s api.State, x api.Event, i api.Inst) (api.State, api.Errno) {
	if x.On {
		return becomes(api.DoGoOn, 0).to(s, x, i)
	}
	return becomes(api.DoLeave, 0).to(s, x, i)
}

func desired(s api.State, x api.Event) (api.State, api.Errno) {
	n, e := want.Set(s.Config, x.A)
	if e != api.OK {
		return s, e
	}
	s.Desired = n
	return s, api.OK
}

func metric(s api.State, x api.Event) (api.State, api.Errno) {
	n, end, e := want.Metric(s.Config, s.Desired, s.Until, s.Now, x.A)
	if e != api.OK {
		return s, e
	}
	s.Desired, s.Until = n, end
	return s, api.OK
}

// another tells the state of another config: a pool's quote stays with its
// name.
func another(s api.State, c api.Config) (api.State, api.Errno) {
	if conf.Check(c) != api.OK {
		return s, api.ErrArg
	}
	if s.Version >= mostVersion {
		return s, api.ErrLimit
	}
	n, e := want.Set(c, s.Desired)
	if e != api.OK {
		return s, e
	}
	quotes := make([]api.Quote, len(c.Pools))
	for i, p := range c.Pools {
		for k, was := range s.Config.Pools {
			if was.Name == p.Name {
				quotes[i] = s.Quotes[k]
			}
		}
	}
	s.Config, s.Quotes, s.Desired = conf.Copy(c), quotes, n
	s.Next = sched.Begin(c.Plans, s.Now)
	s.Version++
	return s, api.OK
}

func config(s api.State, x api.Event) (api.State, api.Errno) {
	if s.Refresh.On {
		return s, api.ErrState
	}
	next, e := another(s, x.Config)
	if e != api.OK {
		return s, e
	}
	next.Before = s.Config
	return next, api.OK
}

func refresh(s api.State, x api.Event) (api.State, api.Errno) {
	r := s.Refresh
	switch {
	case r.On && !r.Stopped:
		return s, api.ErrState
	case r.On:
		r.Stopped = false
	case s.Version >= mostVersion:
		return s, api.ErrLimit
	default:
		r = api.Refresh{On: true}
		s.Version++
	}
	r.Least, r.Most, r.Stop = x.A, x.B, int64(x.At)
	s.Refresh = r
	return s, api.OK
}

func cancel(s api.State, _ api.Event) (api.State, api.Errno) {
	if !s.Refresh.On {
		return s, api.ErrState
	}
	s.Refresh = api.Refresh{}
	return s, api.OK
}

func rollback(s api.State, _ api.Event) (api.State, api.Errno) {
	if !s.Refresh.On || s.Refresh.Back || conf.Same(s.Before, api.Config{}) {
		return s, api.ErrState
	}
	next, e := another(s, s.Before)
	if e != api.OK {
		return s, e
	}
	next.Before = api.Config{}
	next.Refresh.Back, next.Refresh.Stop, next.Refresh.Stopped = true, 0, false
	return next, api.OK
}

func hold(s api.State, x api.Event, i api.Inst) (api.State, api.Errno) {
	i.Held = x.On
	l, e := sums.Set(s.Insts, i)
	if e != api.OK {
		return s, e
	}
	s.Insts = l
	return s, api.OK
}

func granted(s api.State, x api.Event) (api.State, api.Errno) {
	o, ok := ledger.Find(s.Opens, x.Token)
	if !ok || o.R.Kind != api.AskLaunch {
		return stray(s, x)
	}
	l, e := sums.Add(s.Insts, inst.New(x.Id, o, s.Now, s.Config))
	if e != api.OK {
		return s, e
	}
	s.Insts = l
	s.Opens, _ = ledger.Close(s.Opens, x.Token)
	return s, api.OK
}

// stray lets an instance that nobody asked for any more end.
func stray(s api.State, x api.Event) (api.State, api.Errno) {
	l, e := sums.Add(s.Insts, api.Inst{Id: x.Id, Token: x.Token, Weight: 1, Version: s.Version, State: api.Ending})
	if e != api.OK {
		return s, e
	}
	s.Insts = l
	s, _ = plan.Ask(s, api.Request{Kind: api.AskEnd, Id: x.Id})
	return s, api.OK
}

func refused(s api.State, x api.Event) (api.State, api.Errno) {
	o, ok := ledger.Find(s.Opens, x.Token)
	if !ok || o.R.Kind != api.AskLaunch {
		return s, api.ErrNone
	}
	return refuse(s, o), api.OK
}

func gone(s api.State, _ api.Event, i api.Inst) (api.State, api.Errno) {
	l, e := sums.Drop(s.Insts, i.Id)
	if e != api.OK {
		return s, e
	}
	s.Insts, s.Opens = l, ledger.Forget(s.Opens, i.Id)
	return s, api.OK
}

func quote(s api.State, x api.Event) (api.State, api.Errno) {
	if x.Pool >= len(s.Config.Pools) {
		return s, api.ErrArg
	}
	s.Quotes = black.Tell(s.Quotes, x.Pool, x.A, x.B)
	return s, api.OK
}
