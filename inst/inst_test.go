package inst_test

import (
	"math"
	"testing"

	"cohort/api"
	"cohort/inst"
)

const now = 50

// one is an instance of a state, due at a tick.
func one(state uint8, due uint64) api.Inst {
	return api.Inst{Id: 7, Token: 3, Pool: 2, Weight: 5, Spot: true, State: state, Due: due, Held: true, Version: 4}
}

func config(in, out uint64) api.Config {
	return api.Config{HookIn: in, HookOut: out, Drain: 2, Deadline: 9}
}

// becomes is the chapter's table: the instance, what is asked, or ErrState.
func becomes(i api.Inst, what uint8, at uint64, c api.Config) (api.Inst, uint8, api.Errno) {
	n := i
	end := func() (api.Inst, uint8, api.Errno) {
		n.State, n.Due = api.Ending, 0
		return n, api.AskEnd, api.OK
	}
	to := func(state uint8, due uint64, ask uint8) (api.Inst, uint8, api.Errno) {
		n.State, n.Due = state, due
		return n, ask, api.OK
	}
	s := i.State
	switch what {
	case api.DoReady:
		switch {
		case (s == api.Pending || s == api.Waking) && c.HookIn > 0:
			return to(api.Hooked, now+c.HookIn, 0)
		case s == api.Pending || s == api.Waking:
			return to(api.Serving, 0, 0)
		case s == api.Warming:
			return to(api.Warming, now+c.Deadline, api.AskStop)
		}
	case api.DoStopped:
		if s == api.Warming {
			return to(api.Warm, 0, 0)
		}
	case api.DoNotice:
		if s == api.Ending {
			break
		}
		n.Noticed, n.Kill = true, at
		switch s {
		case api.Serving:
			return to(api.Draining, now+c.Drain, 0)
		case api.Draining, api.Leaving:
			return n, 0, api.OK
		}
		return end()
	case api.DoRisk:
		if s == api.Serving {
			n.Risk = true
			return n, 0, api.OK
		}
	case api.DoBeat:
		switch {
		case s == api.Hooked:
			return to(s, now+c.HookIn, 0)
		case s == api.Leaving && i.Noticed:
			return n, 0, api.OK
		case s == api.Leaving:
			return to(s, now+c.HookOut, 0)
		}
	case api.DoGoOn:
		switch s {
		case api.Hooked:
			return to(api.Serving, 0, 0)
		case api.Leaving:
			return end()
		}
	case api.DoLeave:
		if s == api.Leaving || s == api.Hooked {
			return end()
		}
	case api.DoDrain:
		if s == api.Serving {
			return to(api.Draining, now+c.Drain, 0)
		}
	case api.DoEnd:
		switch s {
		case api.Warm, api.Warming, api.Pending, api.Hooked, api.Waking:
			return end()
		}
	case api.DoWake:
		if s == api.Warm {
			return to(api.Waking, now+c.Deadline, api.AskStart)
		}
	case api.DoTick:
		switch s {
		case api.Serving, api.Ending, api.Warm:
			return n, 0, api.OK
		}
		switch {
		case i.Due > now:
			return n, 0, api.OK
		case s == api.Draining && c.HookOut > 0:
			return to(api.Leaving, now+c.HookOut, 0)
		}
		return end()
	}
	return i, 0, api.ErrState
}

// P16.1

func TestDoAsTheTableSays(t *testing.T) {
	for _, c := range []api.Config{config(0, 0), config(4, 0), config(0, 3), config(4, 3)} {
		for what := uint8(1); what <= 11; what++ {
			for state := uint8(1); state <= 9; state++ {
				for _, due := range []uint64{0, now - 1, now, now + 1, api.MaxTick + 2*api.MaxSpan} {
					for _, noticed := range []bool{false, true} {
						i := one(state, due)
						i.Noticed, i.Risk = noticed, noticed
						if noticed {
							i.Kill = 60
						}
						want, ask, e := becomes(i, what, 77, c)
						next, a, no := inst.Do(i, what, now, 77, c)
						if next != want || a != ask || no != e {
							t.Errorf("Do(%v, %d) = %v, %d, %d, want %v, %d, %d", i, what, next, a, int(no), want, ask, int(e))
						}
					}
				}
			}
		}
	}
}

func TestTheChaptersExample(t *testing.T) {
	c := config(0, 3)
	i, _, _ := inst.Do(one(api.Pending, 9), api.DoReady, 5, 0, c)
	if i.State != api.Serving {
		t.Errorf("ready: %d", i.State)
	}
	i, _, _ = inst.Do(one(api.Serving, 0), api.DoNotice, 5, 99, c)
	if i.State != api.Draining || i.Due != 7 || i.Kill != 99 {
		t.Errorf("noticed: %v", i)
	}
	i, _, _ = inst.Do(i, api.DoTick, 6, 0, c)
	if i.State != api.Draining {
		t.Errorf("at 6: %d", i.State)
	}
	i, _, _ = inst.Do(i, api.DoTick, 7, 0, c)
	if i.State != api.Leaving || i.Due != 10 {
		t.Errorf("at 7: %v", i)
	}
	i, ask, _ := inst.Do(i, api.DoGoOn, 8, 0, c)
	if i.State != api.Ending || ask != api.AskEnd {
		t.Errorf("at 8: %v, %d", i, ask)
	}
	if _, _, e := inst.Do(one(api.Ending, 0), api.DoReady, 9, 0, c); e != api.ErrState {
		t.Errorf("what ends, ready: %d", int(e))
	}
	i, ask, _ = inst.Do(one(api.Warm, 0), api.DoWake, 5, 0, c)
	if i.State != api.Waking || i.Due != 14 || ask != api.AskStart {
		t.Errorf("woken: %v, %d", i, ask)
	}
}

// mays are changes of an instance, and whether it may be behind them.
func mays() map[string]struct {
	do func(i *api.Inst)
	ok bool
} {
	type row = struct {
		do func(i *api.Inst)
		ok bool
	}
	return map[string]row{
		"none": {func(i *api.Inst) {}, true}, "Id 0": {func(i *api.Inst) { i.Id = 0 }, false}, "Id 1": {func(i *api.Inst) { i.Id = 1 }, true}, "Id most": {func(i *api.Inst) { i.Id = 1 << 62 }, true}, "Id more": {func(i *api.Inst) { i.Id = 1<<62 + 1 }, false},
		"Token 0": {func(i *api.Inst) { i.Token = 0 }, true}, "Token most": {func(i *api.Inst) { i.Token = 1 << 62 }, true}, "Token more": {func(i *api.Inst) { i.Token = math.MaxUint64 }, false},
		"Pool -1": {func(i *api.Inst) { i.Pool = -1 }, false}, "Pool 0": {func(i *api.Inst) { i.Pool = 0 }, true}, "Pool 63": {func(i *api.Inst) { i.Pool = 63 }, true}, "Pool 64": {func(i *api.Inst) { i.Pool = 64 }, false},
		"Weight 0": {func(i *api.Inst) { i.Weight = 0 }, false}, "Weight 1": {func(i *api.Inst) { i.Weight = 1 }, true}, "Weight 100": {func(i *api.Inst) { i.Weight = 100 }, true}, "Weight 101": {func(i *api.Inst) { i.Weight = 101 }, false}, "Weight least": {func(i *api.Inst) { i.Weight = math.MinInt64 }, false},
		"State 0": {func(i *api.Inst) { i.State = 0 }, false}, "State 10": {func(i *api.Inst) { i.State = 10 }, false}, "State 255": {func(i *api.Inst) { i.State = 255 }, false},
		"Due most": {func(i *api.Inst) { i.Due = api.MaxTick + 2*api.MaxSpan }, true}, "Due more": {func(i *api.Inst) { i.Due = api.MaxTick + 2*api.MaxSpan + 1 }, false},
		"Kill": {func(i *api.Inst) { i.Kill = 1 }, false}, "Noticed": {func(i *api.Inst) { i.Noticed = true }, true}, "Noticed, Kill": {func(i *api.Inst) { i.Noticed, i.Kill = true, api.MaxTick+2*api.MaxSpan }, true}, "Noticed, Kill more": {func(i *api.Inst) { i.Noticed, i.Kill = true, api.MaxTick+2*api.MaxSpan+1 }, false},
		"Risk, Version 0": {func(i *api.Inst) { i.Risk, i.Version = true, 0 }, true},
	}
}

func TestMay(t *testing.T) {
	for name, x := range mays() {
		i := one(api.Serving, 0)
		x.do(&i)
		if inst.May(i) != x.ok {
			t.Errorf("%s: May is %t", name, !x.ok)
		}
		next, ask, e := inst.Do(i, api.DoRisk, now, 0, config(0, 0))
		if (e == api.OK) != x.ok || e != api.OK && (next != i || ask != 0 || e != api.ErrArg) {
			t.Errorf("%s: Do = %v, %d, %d", name, next, ask, int(e))
		}
	}
	for state := uint8(1); state <= 9; state++ {
		if !inst.May(one(state, 5)) {
			t.Errorf("the state %d may not be", state)
		}
	}
}

func TestErrArgOfDo(t *testing.T) {
	big := api.Config{HookIn: api.MaxSpan, HookOut: api.MaxSpan, Drain: api.MaxSpan, Deadline: api.MaxSpan}
	if n, _, e := inst.Do(one(api.Warm, 0), api.DoWake, api.MaxTick, api.MaxTick, big); e != api.OK || n.Due != api.MaxTick+api.MaxSpan {
		t.Errorf("the greatest of all: %v, %d", n, int(e))
	}
	for i, x := range []struct {
		what    uint8
		now, at uint64
		do      func(c *api.Config)
	}{
		{0, 1, 1, nil}, {12, 1, 1, nil}, {255, 1, 1, nil}, {api.DoDrain, api.MaxTick + 1, 0, nil}, {api.DoDrain, 0, api.MaxTick + 1, nil}, {api.DoTick, math.MaxUint64, 0, nil}, {api.DoReady, math.MaxUint64, 0, nil},
		{api.DoDrain, 1, 1, func(c *api.Config) { c.HookIn++ }}, {api.DoDrain, 1, 1, func(c *api.Config) { c.HookOut++ }}, {api.DoDrain, 1, 1, func(c *api.Config) { c.Drain++ }}, {api.DoDrain, 1, 1, func(c *api.Config) { c.Deadline++ }},
	} {
		c := big
		if x.do != nil {
			x.do(&c)
		}
		for _, state := range []uint8{api.Serving, api.Ending} { // ErrArg ahead of ErrState
			n, ask, e := inst.Do(one(state, 0), x.what, x.now, x.at, c)
			if n != one(state, 0) || ask != 0 || e != api.ErrArg {
				t.Errorf("%d: Do = %v, %d, %d", i, n, ask, int(e))
			}
		}
	}
}

// P16.2

func TestNew(t *testing.T) {
	o := api.Open{R: api.Request{Kind: api.AskLaunch, Token: 5, Pool: 3}, Since: 40, Weight: 6, Spot: true, Version: 2}
	want := api.Inst{Id: 9, Token: 5, Pool: 3, Weight: 6, Spot: true, Version: 2, State: api.Pending, Due: 59}
	if i := inst.New(9, o, now, config(1, 1)); i != want {
		t.Errorf("New = %v", i)
	}
	o.R.Warm, want.State = true, api.Warming
	if i := inst.New(9, o, now, config(1, 1)); i != want {
		t.Errorf("New for the warm pool = %v", i)
	}
	want.Due = api.MaxTick + api.MaxSpan
	if i := inst.New(9, o, api.MaxTick, api.Config{Deadline: api.MaxSpan}); i != want {
		t.Errorf("New at the last tick = %v", i)
	}
	if i := inst.New(9, o, api.MaxTick+1, config(1, 1)); i != (api.Inst{}) {
		t.Errorf("New behind the last tick = %v", i)
	}
	if i := inst.New(9, o, now, api.Config{Deadline: api.MaxSpan + 1}); i != (api.Inst{}) {
		t.Errorf("New of a long deadline = %v", i)
	}
}

func TestServesAndComes(t *testing.T) {
	for state := range 256 {
		s := uint8(state)
		i := api.Inst{State: s}
		if inst.Serves(i) != (s == api.Serving) || inst.Comes(i) != (s == api.Pending || s == api.Hooked || s == api.Waking) {
			t.Errorf("state %d: %t, %t", s, inst.Serves(i), inst.Comes(i))
		}
	}
}

// P16.3

func TestWhatServesNoMoreNeverServesAgain(t *testing.T) {
	for _, first := range []uint8{api.Draining, api.Leaving, api.Ending} {
		seen := map[api.Inst]int{}
		work := []api.Inst{one(first, 5)}
		for len(work) > 0 {
			i := work[0]
			work = work[1:]
			for what := uint8(1); what <= 11; what++ {
				for _, c := range []api.Config{config(0, 0), config(4, 3)} {
					n, ask, _ := inst.Do(i, what, now, 60, c)
					if inst.Serves(n) || inst.Comes(n) || i.State == api.Ending && (n != i || ask != 0) {
						t.Fatalf("Do(%v, %d) = %v, %d", i, what, n, ask)
					}
					if seen[n] == 0 {
						seen[n] = 1
						work = append(work, n)
					}
				}
			}
		}
	}
}
