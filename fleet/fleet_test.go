package fleet_test

import (
	"math"
	"reflect"
	"slices"
	"testing"

	"cohort/api"
	"cohort/box"
	"cohort/conf"
	"cohort/fleet"
)

// config is that of plan's examples, with Deadline 9.
func config() api.Config {
	return api.Config{Pools: []api.Pool{{Name: "d", Weight: 1}, {Name: "s", Spot: true, Weight: 2}}, Strategy: api.Prioritized, Spread: 1, Max: 10, Base: 1, Deadline: 9, Drain: 2, HookOut: 3, Black: 4}
}

// state is one of the tick 50, with two instances, an open launch, an AskStop
// and an AskStart.
func state() api.State {
	s, _ := box.New(config(), 50)
	s.Desired, s.Version, s.Token = 4, 3, 8
	s.Quotes = []api.Quote{{Price: 5, Score: 5}, {Price: 6, Score: 6, Until: 7}}
	s.Insts = []api.Inst{
		{Id: 1, Token: 1, Weight: 1, State: api.Serving, Version: 3},
		{Id: 2, Token: 2, Pool: 1, Weight: 2, Spot: true, State: api.Warming, Due: 55, Version: 3},
		{Id: 3, Token: 3, Pool: 1, Weight: 2, Spot: true, State: api.Waking, Due: 56, Version: 3},
		{Id: 4, Token: 4, Weight: 1, State: api.Leaving, Due: 57, Version: 3},
	}
	s.Opens = []api.Open{
		{R: api.Request{Kind: api.AskLaunch, Token: 5, Pool: 1}, Since: 48, Weight: 2, Spot: true, Version: 3},
		{R: api.Request{Kind: api.AskStop, Token: 6, Id: 2}, Since: 49},
		{R: api.Request{Kind: api.AskStart, Token: 7, Id: 3}, Since: 50},
		{R: api.Request{Kind: api.AskLaunch, Token: 8, Pool: 0, Warm: true}, Since: 50, Weight: 1, Version: 2},
	}
	return s
}

func inst(s *api.State, id uint64) *api.Inst {
	for i := range s.Insts {
		if s.Insts[i].Id == id {
			return &s.Insts[i]
		}
	}
	return &api.Inst{}
}

// without takes the open request of a token away.
func without(s *api.State, tokens ...uint64) {
	s.Opens = slices.DeleteFunc(slices.Clone(s.Opens), func(o api.Open) bool { return slices.Contains(tokens, o.R.Token) })
}

// row is an event, to a state that was changed first, and what comes of it.
type row struct {
	what  string
	first func(s *api.State)
	x     api.Event
	e     api.Errno
	then  func(s *api.State)
}

func check(t *testing.T, rows []row) {
	t.Helper()
	for _, r := range rows {
		s := state()
		if r.first != nil {
			r.first(&s)
		}
		want := box.Copy(s)
		if r.e == api.OK {
			r.then(&want)
		}
		kept := box.Copy(s)
		got, e := fleet.One(s, r.x)
		if e != r.e || !box.Same(got, want) || !box.Same(s, kept) {
			t.Errorf("%s: %d, want %d\n got %+v\nwant %+v", r.what, int(e), int(r.e), got, want)
		}
		if !box.May(got) {
			t.Errorf("%s: what comes of it may not be", r.what)
		}
	}
}

func renew(s *api.State) {
	s.Version, s.Refresh = 4, api.Refresh{On: true, Least: 50, Most: 150, Stop: 20}
}

// P30.2

func TestTold(t *testing.T) {
	metric := func(s *api.State) { s.Config.Target, s.Config.Cool = 50, 5 }
	check(t, []row{
		{"desired", nil, api.Event{Kind: api.EvDesired, A: 7}, 0, func(s *api.State) { s.Desired = 7 }},
		{"desired above Max", nil, api.Event{Kind: api.EvDesired, A: 70}, 0, func(s *api.State) { s.Desired = 10 }},
		{"desired below Min", func(s *api.State) { s.Config.Min = 3 }, api.Event{Kind: api.EvDesired}, 0, func(s *api.State) { s.Desired = 3 }},
		{"desired that may not be", nil, api.Event{Kind: api.EvDesired, A: -1}, api.ErrArg, nil},
		{"a metric without a target", nil, api.Event{Kind: api.EvMetric, A: 100}, 0, func(s *api.State) {}},
		{"a metric", metric, api.Event{Kind: api.EvMetric, A: 100}, 0, func(s *api.State) { s.Desired, s.Until = 8, 55 }},
		{"a metric in the cooldown", func(s *api.State) { metric(s); s.Until = 51 }, api.Event{Kind: api.EvMetric, A: 100}, 0, func(s *api.State) {}},
		{"no event", nil, api.Event{}, api.ErrArg, nil}, {"no event", nil, api.Event{Kind: 18}, api.ErrArg, nil}, {"an event that may not be", nil, api.Event{Kind: api.EvBeat, Id: 4, On: true}, api.ErrArg, nil},
	})
}

func TestConfigs(t *testing.T) {
	other := config()
	other.Pools = []api.Pool{{Name: "x", Weight: 3}, {Name: "s", Spot: true, Weight: 9}}
	other.Min, other.Plans = 6, []api.Plan{{At: 50, Each: 7}}
	becomes := func(s *api.State) {
		s.Config, s.Version, s.Desired, s.Next = other, s.Version+1, 6, []uint64{57}
		s.Quotes = []api.Quote{{}, {Price: 6, Score: 6, Until: 7}}
	}
	check(t, []row{
		{"another config", nil, api.Event{Kind: api.EvConfig, Config: other}, 0, func(s *api.State) { s.Before = s.Config; becomes(s) }},
		{"the same config", nil, api.Event{Kind: api.EvConfig, Config: config()}, 0, func(s *api.State) { s.Before, s.Version = s.Config, 4 }},
		{"a config that may not be", nil, api.Event{Kind: api.EvConfig}, api.ErrArg, nil},
		{"a config while a refresh is On", renew, api.Event{Kind: api.EvConfig, Config: other}, api.ErrState, nil},
		{"a config while one is Stopped, at the last version", func(s *api.State) { renew(s); s.Refresh.Stopped, s.Version = true, 1<<31 }, api.Event{Kind: api.EvConfig, Config: other}, api.ErrState, nil},
		{"a config at the last version", func(s *api.State) { s.Version = 1 << 31 }, api.Event{Kind: api.EvConfig, Config: other}, api.ErrLimit, nil},
		{"rollback", func(s *api.State) { renew(s); s.Before = other; s.Refresh.Stopped = true }, api.Event{Kind: api.EvRollback}, 0, func(s *api.State) {
			becomes(s)
			s.Before = api.Config{}
			s.Refresh = api.Refresh{On: true, Least: 50, Most: 150, Back: true}
		}},
		{"rollback of no refresh", func(s *api.State) { s.Before = other }, api.Event{Kind: api.EvRollback}, api.ErrState, nil},
		{"rollback of one that is Back", func(s *api.State) { renew(s); s.Before = other; s.Refresh.Back = true }, api.Event{Kind: api.EvRollback}, api.ErrState, nil},
		{"rollback to nothing", renew, api.Event{Kind: api.EvRollback}, api.ErrState, nil},
		{"rollback to nothing at the last version", func(s *api.State) { renew(s); s.Version = 1 << 31 }, api.Event{Kind: api.EvRollback}, api.ErrState, nil},
		{"rollback at the last version", func(s *api.State) { renew(s); s.Before = other; s.Version = 1 << 31 }, api.Event{Kind: api.EvRollback}, api.ErrLimit, nil},
	})
	s := state()
	want := box.Copy(s)
	becomes(&want)
	if got, e := fleet.Config(s, other); e != api.OK || !box.Same(got, want) {
		t.Errorf("Config = %v, %d", got, int(e))
	}
	if got, e := fleet.Config(s, api.Config{}); e != api.ErrArg || !box.Same(got, s) {
		t.Errorf("Config of none = %v, %d", got, int(e))
	}
	s.Version = 1 << 31
	if got, e := fleet.Config(s, other); e != api.ErrLimit || !box.Same(got, s) {
		t.Errorf("Config at the last version = %v, %d", got, int(e))
	}
	if _, e := fleet.Config(s, api.Config{}); e != api.ErrArg {
		t.Errorf("Config of none at the last version = %d", int(e))
	}
}

func TestRefreshes(t *testing.T) {
	x := api.Event{Kind: api.EvRefresh, A: 90, B: 110, At: 30}
	check(t, []row{
		{"refresh", nil, x, 0, func(s *api.State) { s.Version, s.Refresh = 4, api.Refresh{On: true, Least: 90, Most: 110, Stop: 30} }},
		{"refresh while one goes on", renew, x, api.ErrState, nil},
		{"refresh of what is Stopped", func(s *api.State) { renew(s); s.Refresh.Stopped, s.Refresh.Back = true, true }, x, 0, func(s *api.State) { s.Refresh = api.Refresh{On: true, Least: 90, Most: 110, Stop: 30, Back: true} }},
		{"refresh of what is Stopped, at the last version", func(s *api.State) { renew(s); s.Refresh.Stopped, s.Version = true, 1<<31 }, x, 0, func(s *api.State) { s.Refresh = api.Refresh{On: true, Least: 90, Most: 110, Stop: 30} }},
		{"refresh at the last version", func(s *api.State) { s.Version = 1 << 31 }, x, api.ErrLimit, nil},
		{"cancel", renew, api.Event{Kind: api.EvCancel}, 0, func(s *api.State) { s.Refresh = api.Refresh{} }},
		{"cancel of what is Stopped", func(s *api.State) { renew(s); s.Refresh.Stopped = true }, api.Event{Kind: api.EvCancel}, 0, func(s *api.State) { s.Refresh = api.Refresh{} }},
		{"cancel of none", nil, api.Event{Kind: api.EvCancel}, api.ErrState, nil},
	})
}

func TestInstances(t *testing.T) {
	check(t, []row{
		{"hold", nil, api.Event{Kind: api.EvHold, Id: 1, On: true}, 0, func(s *api.State) { inst(s, 1).Held = true }},
		{"hold no more", func(s *api.State) { inst(s, 4).Held = true }, api.Event{Kind: api.EvHold, Id: 4}, 0, func(s *api.State) { inst(s, 4).Held = false }},
		{"beat", nil, api.Event{Kind: api.EvBeat, Id: 4}, 0, func(s *api.State) { inst(s, 4).Due = 53 }},
		{"beat of what serves", nil, api.Event{Kind: api.EvBeat, Id: 1}, api.ErrState, nil},
		{"done, on", func(s *api.State) { inst(s, 3).State = api.Hooked }, api.Event{Kind: api.EvDone, Id: 3, On: true}, 0, func(s *api.State) { inst(s, 3).State, inst(s, 3).Due = api.Serving, 0 }},
		{"done, left", func(s *api.State) { inst(s, 3).State = api.Hooked }, api.Event{Kind: api.EvDone, Id: 3}, 0, func(s *api.State) {
			inst(s, 3).State, inst(s, 3).Due = api.Ending, 0
			without(s, 7)
			s.Token = 9
			s.Opens = append(s.Opens, api.Open{R: api.Request{Kind: api.AskEnd, Token: 9, Id: 3}, Since: 50})
		}},
		{"ready of what wakes", nil, api.Event{Kind: api.EvReady, Id: 3}, 0, func(s *api.State) { inst(s, 3).State, inst(s, 3).Due = api.Serving, 0; without(s, 7) }},
		{"ready of what warms", nil, api.Event{Kind: api.EvReady, Id: 2}, 0, func(s *api.State) { inst(s, 2).Due = 59 }},
		{"ready of what warms, whose stop was not asked", func(s *api.State) { without(s, 6) }, api.Event{Kind: api.EvReady, Id: 2}, 0, func(s *api.State) {
			inst(s, 2).Due, s.Token = 59, 9
			s.Opens = append(s.Opens, api.Open{R: api.Request{Kind: api.AskStop, Token: 9, Id: 2}, Since: 50})
		}},
		{"ready of what serves", nil, api.Event{Kind: api.EvReady, Id: 1}, api.ErrState, nil},
		{"stopped", nil, api.Event{Kind: api.EvStopped, Id: 2}, 0, func(s *api.State) { inst(s, 2).State, inst(s, 2).Due = api.Warm, 0; without(s, 6) }},
		{"stopped of what wakes", nil, api.Event{Kind: api.EvStopped, Id: 3}, api.ErrState, nil},
		{"notice", nil, api.Event{Kind: api.EvNotice, Id: 1, At: 60}, 0, func(s *api.State) {
			*inst(s, 1) = api.Inst{Id: 1, Token: 1, Weight: 1, State: api.Draining, Due: 52, Noticed: true, Kill: 60, Version: 3}
		}},
		{"risk", nil, api.Event{Kind: api.EvRisk, Id: 1}, 0, func(s *api.State) { inst(s, 1).Risk = true }},
		{"risk of what leaves", nil, api.Event{Kind: api.EvRisk, Id: 4}, api.ErrState, nil},
		{"gone", nil, api.Event{Kind: api.EvGone, Id: 2}, 0, func(s *api.State) { s.Insts = slices.Delete(slices.Clone(s.Insts), 1, 2); without(s, 6) }},
	})
	var none []row
	for _, kind := range []uint8{api.EvHold, api.EvBeat, api.EvDone, api.EvReady, api.EvNotice, api.EvRisk, api.EvGone, api.EvStopped} {
		none = append(none, row{"an instance that is not there", nil, api.Event{Kind: kind, Id: 9}, api.ErrNone, nil})
	}
	check(t, none)
}

func TestGrantsAndRefusals(t *testing.T) {
	full := func(s *api.State) {
		for id := uint64(10); len(s.Insts) < api.MaxInst; id++ {
			s.Insts = append(s.Insts, api.Inst{Id: id, Weight: 1, State: api.Ending})
		}
	}
	check(t, []row{
		{"granted", nil, api.Event{Kind: api.EvGranted, Token: 5, Id: 7}, 0, func(s *api.State) {
			s.Insts = append(s.Insts, api.Inst{Id: 7, Token: 5, Pool: 1, Weight: 2, Spot: true, State: api.Pending, Due: 59, Version: 3})
			without(s, 5)
		}},
		{"granted for the warm pool", nil, api.Event{Kind: api.EvGranted, Token: 8, Id: 7}, 0, func(s *api.State) {
			s.Insts = append(s.Insts, api.Inst{Id: 7, Token: 8, Weight: 1, State: api.Warming, Due: 59, Version: 2})
			without(s, 8)
		}},
		{"granted by an Id that is there", nil, api.Event{Kind: api.EvGranted, Token: 5, Id: 2}, api.ErrTwice, nil},
		{"a stray", nil, api.Event{Kind: api.EvGranted, Token: 99, Id: 7}, 0, func(s *api.State) {
			s.Insts = append(s.Insts, api.Inst{Id: 7, Token: 99, Weight: 1, State: api.Ending, Version: 3})
			s.Opens, s.Token = append(s.Opens, api.Open{R: api.Request{Kind: api.AskEnd, Token: 9, Id: 7}, Since: 50}), 9
		}},
		{"a stray by a token that is no launch's", nil, api.Event{Kind: api.EvGranted, Token: 6, Id: 7}, 0, func(s *api.State) {
			s.Insts = append(s.Insts, api.Inst{Id: 7, Token: 6, Weight: 1, State: api.Ending, Version: 3})
			s.Opens, s.Token = append(s.Opens, api.Open{R: api.Request{Kind: api.AskEnd, Token: 9, Id: 7}, Since: 50}), 9
		}},
		{"a stray by an Id that is there", nil, api.Event{Kind: api.EvGranted, Token: 1, Id: 1}, api.ErrTwice, nil},
		{"granted where there are too many", full, api.Event{Kind: api.EvGranted, Token: 5, Id: 7}, api.ErrFull, nil},
		{"a stray where there are too many", full, api.Event{Kind: api.EvGranted, Token: 99, Id: 7}, api.ErrFull, nil},
		{"granted by an Id that is there, where there are too many", full, api.Event{Kind: api.EvGranted, Token: 5, Id: 2}, api.ErrTwice, nil},
		{"refused", nil, api.Event{Kind: api.EvRefused, Token: 5}, 0, func(s *api.State) { without(s, 5); s.Quotes[1].Until = 54 }},
		{"refused of another version", nil, api.Event{Kind: api.EvRefused, Token: 8}, 0, func(s *api.State) { without(s, 8) }},
		{"refused of no launch", nil, api.Event{Kind: api.EvRefused, Token: 6}, api.ErrNone, nil},
		{"refused of none", nil, api.Event{Kind: api.EvRefused, Token: 9}, api.ErrNone, nil},
		{"a quote", nil, api.Event{Kind: api.EvQuote, Pool: 1, A: 77, B: 88}, 0, func(s *api.State) { s.Quotes[1] = api.Quote{Price: 77, Score: 88, Until: 7} }},
		{"a quote of no pool", nil, api.Event{Kind: api.EvQuote, Pool: 2, A: 77}, api.ErrArg, nil},
	})
}

func TestClock(t *testing.T) {
	for i, x := range []struct{ first, then func(s *api.State) }{
		{func(s *api.State) {}, func(s *api.State) {}},
		{func(s *api.State) { s.Now = 56 }, func(s *api.State) { // 2 and 3 are given up
			*inst(s, 2) = api.Inst{Id: 2, Token: 2, Pool: 1, Weight: 2, Spot: true, State: api.Ending, Version: 3}
			*inst(s, 3) = api.Inst{Id: 3, Token: 3, Pool: 1, Weight: 2, Spot: true, State: api.Ending, Version: 3}
			without(s, 6, 7)
			s.Opens = append(s.Opens, api.Open{R: api.Request{Kind: api.AskEnd, Token: 9, Id: 2}, Since: 56}, api.Open{R: api.Request{Kind: api.AskEnd, Token: 10, Id: 3}, Since: 56})
			s.Token = 10
		}},
		{func(s *api.State) { s.Insts[3].State, s.Insts[3].Due = api.Draining, 50 }, func(s *api.State) { s.Insts[3].State, s.Insts[3].Due = api.Leaving, 53 }},
		{func(s *api.State) { s.Opens[0].Since = 41 }, func(s *api.State) { without(s, 5); s.Quotes[1].Until = 54 }},                            // a launch is late
		{func(s *api.State) { s.Opens[0].Since = 42 }, func(s *api.State) {}},                                                                   // not yet
		{func(s *api.State) { s.Opens[3].Since = 0 }, func(s *api.State) { without(s, 8) }},                                                     // one of another version
		{func(s *api.State) { s.Opens[1].Since, s.Opens[2].Since = 41, 7 }, func(s *api.State) { s.Opens[1].Since, s.Opens[2].Since = 50, 50 }}, // asked again
		{func(s *api.State) {
			s.Config.Plans, s.Next = []api.Plan{{At: 40, Each: 5, Desired: 99}, {At: 60}}, []uint64{50, 60}
		}, func(s *api.State) { s.Desired, s.Next = 10, []uint64{55, 60} }},
		{func(s *api.State) { renew(s); s.Insts[0].Version = 4 }, func(s *api.State) { s.Refresh.Stopped = true }}, // 1 of 4 is renewed: 20 percent
		{func(s *api.State) { renew(s); s.Insts[0].Version, s.Refresh.Stop = 4, 26 }, func(s *api.State) {}},
		{func(s *api.State) { renew(s); s.Insts = s.Insts[3:]; s.Opens = nil; s.Refresh.Stop = 0 }, func(s *api.State) { s.Refresh = api.Refresh{} }}, // it has ended
		{func(s *api.State) { renew(s); s.Insts = s.Insts[3:]; s.Opens = nil; s.Refresh.Stopped = true }, func(s *api.State) { s.Refresh = api.Refresh{} }},
		{func(s *api.State) { renew(s); s.Insts = s.Insts[3:]; s.Opens = s.Opens[:1] }, func(s *api.State) {}},
	} {
		s := state()
		x.first(&s)
		want := box.Copy(s)
		x.then(&want)
		kept := box.Copy(s)
		if got := fleet.Clock(s); !box.Same(got, want) || !box.Same(s, kept) {
			t.Errorf("%d:\n got %+v\nwant %+v", i, got, want)
		}
	}
}

func TestStatesThatMayNotBe(t *testing.T) {
	for i, do := range []func(s *api.State){
		func(s *api.State) { s.Version = 0 }, func(s *api.State) { s.Desired = 11 }, func(s *api.State) { s.Quotes = nil }, func(s *api.State) { s.Config.Deadline = 0 }, func(s *api.State) { s.Token = 7 }, func(s *api.State) { s.Insts[1].Id = 1 }, func(s *api.State) { s.Next = []uint64{1} },
	} {
		s := state()
		do(&s)
		a, e := fleet.One(s, api.Event{Kind: api.EvDesired, A: 5})
		b, f := fleet.Config(s, config())
		c := fleet.Clock(s)
		d, out, told, g := fleet.Step(s, 60, []api.Event{{Kind: api.EvDesired, A: 5}})
		if e != api.ErrArg || f != api.ErrArg || g != api.ErrArg || out != nil || told != nil || !box.Same(a, s) || !box.Same(b, s) || !box.Same(c, s) || !box.Same(d, s) {
			t.Errorf("%d: %d, %d, %d", i, int(e), int(f), int(g))
		}
	}
}

// P30.1

func TestTheChaptersExample(t *testing.T) {
	s, _ := box.New(config(), 0)
	if next, out, told, e := fleet.Step(s, 0, nil); e != api.ErrArg || out != nil || told != nil || !box.Same(next, s) {
		t.Errorf("Step(0): %d", int(e))
	}
	l := []api.Event{{Kind: api.EvQuote, A: 5, B: 5}, {Kind: api.EvQuote, Pool: 1, A: 5, B: 5}, {Kind: api.EvDesired, A: 4}}
	s, out, told, e := fleet.Step(s, 1, l)
	if e != api.OK || len(out) != 3 || !slices.Equal(told, []api.Errno{0, 0, 0}) || s.Now != 1 {
		t.Fatalf("Step(1): %v, %v, %d", out, told, int(e))
	}
	s, out, told, e = fleet.Step(s, 2, []api.Event{{Kind: api.EvGranted, Token: 1, Id: 7}, {Kind: api.EvReady, Id: 7}})
	if e != api.OK || len(out) != 0 || !slices.Equal(told, []api.Errno{0, 0}) {
		t.Errorf("Step(2): %v, %v, %d", out, told, int(e))
	}
	if _, e := fleet.One(s, api.Event{Kind: api.EvGranted, Token: 1, Id: 7}); e != api.ErrTwice {
		t.Errorf("One(Granted 1 7): %d", int(e))
	}
	if _, e := fleet.One(s, api.Event{Kind: api.EvRefused, Token: 9}); e != api.ErrNone {
		t.Errorf("One(Refused 9): %d", int(e))
	}
	if _, _, _, e := fleet.Step(s, 2, l); e != api.ErrArg {
		t.Errorf("Step(2) again: %d", int(e))
	}
}

func TestAtTheLastTick(t *testing.T) {
	s, _ := box.New(config(), api.MaxTick-1)
	next, _, _, e := fleet.Step(s, api.MaxTick, nil)
	if e != api.OK || next.Now != api.MaxTick || !box.May(next) {
		t.Errorf("Step at the last tick: %d", int(e))
	}
}

func TestStatesAreNewMemory(t *testing.T) {
	s := state()
	s.Before = config()
	s.Config.Plans, s.Next = []api.Plan{{At: 90}}, []uint64{90}
	kept := box.Copy(s)
	for i, f := range []func() api.State{
		func() api.State { x, _ := fleet.One(s, api.Event{Kind: api.EvDesired, A: 5}); return x },
		func() api.State { x, _ := fleet.One(s, api.Event{}); return x },
		func() api.State { x, _ := fleet.Config(s, s.Before); return x },
		func() api.State { x, _ := fleet.Config(s, api.Config{}); return x },
		func() api.State { return fleet.Clock(s) },
		func() api.State { x, _, _, _ := fleet.Step(s, 0, nil); return x },
	} {
		x := f()
		for _, c := range []*api.Config{&x.Config, &x.Before} {
			clear(c.Pools)
			clear(c.Plans)
		}
		clear(x.Insts)
		clear(x.Opens)
		clear(x.Quotes)
		clear(x.Next)
		if !box.Same(s, kept) {
			t.Fatalf("%d: memory is shared: %v", i, s)
		}
	}
}

func TestStep(t *testing.T) {
	s := state()
	for _, now := range []uint64{0, 49, 50, api.MaxTick + 1, math.MaxUint64} {
		if next, out, told, e := fleet.Step(s, now, []api.Event{{}}); e != api.ErrArg || out != nil || told != nil || !box.Same(next, s) {
			t.Errorf("Step(%d): %d", now, int(e))
		}
	}
	kept := box.Copy(s)
	l := []api.Event{{Kind: api.EvGone, Id: 9}, {Kind: api.EvDesired, A: 9}, {}, {Kind: api.EvDesired, A: 10}, {Kind: api.EvReady, Id: 2}, {Kind: api.EvConfig, Config: config()}}
	next, out, told, e := fleet.Step(s, 58, l)
	if e != api.OK || !slices.Equal(told, []api.Errno{api.ErrNone, 0, api.ErrArg, 0, 0, 0}) || next.Now != 58 || next.Desired != 10 {
		t.Fatalf("Step: %v, %d", told, int(e))
	}
	last := uint64(0)
	for _, r := range out {
		if r.Token <= last {
			t.Errorf("what goes out does not rise: %v", out)
		}
		last = r.Token
	}
	for _, o := range next.Opens {
		if goes := slices.Contains(out, o.R); goes != (o.Since == 58) {
			t.Errorf("%v goes out: %t", o, goes)
		}
	}
	if !slices.ContainsFunc(out, func(r api.Request) bool { return r.Kind == api.AskStop && r.Token == 6 }) {
		t.Errorf("what is late does not go out again: %v", out)
	}
	clear(next.Config.Pools)
	clear(next.Before.Pools)
	clear(next.Insts)
	clear(next.Opens)
	clear(next.Quotes)
	if !box.Same(s, kept) || !conf.Same(l[5].Config, config()) {
		t.Errorf("Step shares memory: %v", s)
	}
	again, _, _, _ := fleet.Step(s, 58, l)
	if reflect.DeepEqual(again, next) || !box.May(again) {
		t.Errorf("Step again: %v", again)
	}
}
