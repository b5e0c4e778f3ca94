package plan_test

import (
	"math"
	"reflect"
	"testing"

	"cohort/api"
	"cohort/black"
	"cohort/extra"
	"cohort/plan"
	"cohort/rank"
	"cohort/split"
	"cohort/sums"
	"cohort/victim"
	"cohort/warm"
)

// config is the chapter's: Base 1, a pool on demand of the weight 1, a spot
// pool of the weight 2.
func config() api.Config {
	return api.Config{Pools: []api.Pool{{Name: "d", Weight: 1}, {Name: "s", Spot: true, Weight: 2}}, Strategy: api.Prioritized, Spread: 1, Max: 10, Base: 1, Deadline: 9, Drain: 2}
}

// state is one in which nothing is there.
func state(desired int64) api.State {
	return api.State{Config: config(), Version: 1, Now: 50, Desired: desired, Quotes: []api.Quote{{Price: 5, Score: 5}, {Price: 5, Score: 5}}}
}

func one(id uint64, weight int64, spot bool, state uint8) api.Inst {
	return api.Inst{Id: id, Weight: weight, Spot: spot, State: state, Version: 1}
}

func open(kind uint8, token, id uint64) api.Open {
	return api.Open{R: api.Request{Kind: kind, Token: token, Id: id}, Since: 50}
}

// pools tells the pools of the launches that are open.
func pools(s api.State) (l []int) {
	for _, o := range s.Opens {
		if o.R.Kind == api.AskLaunch {
			l = append(l, o.R.Pool)
		}
	}
	return l
}

// states tells what the instances are.
func states(s api.State) (l []uint8) {
	for _, i := range s.Insts {
		l = append(l, i.State)
	}
	return l
}

func is(t *testing.T, what string, got, want any) {
	t.Helper()
	if !reflect.DeepEqual(got, want) {
		t.Errorf("%s: %v, want %v", what, got, want)
	}
}

func TestTheChaptersExample(t *testing.T) {
	s := plan.Launches(state(4))
	is(t, "Launches", pools(s), []int{0, 1, 1})
	s.Desired = 3
	is(t, "All of that with Desired 3", len(plan.All(s).Opens), 3)
	s = state(0)
	s.Insts = []api.Inst{one(1, 2, true, api.Serving)}
	is(t, "Drains", states(plan.Drains(s)), []uint8{api.Draining})
}

// P28.1

func TestAsk(t *testing.T) {
	s := state(4)
	s.Token, s.Version = 7, 3
	for i, x := range []struct {
		r    api.Request
		want api.Open // zero: it is refused
	}{
		{api.Request{Kind: api.AskLaunch, Token: 99}, api.Open{R: api.Request{Kind: api.AskLaunch, Token: 8}, Since: 50, Weight: 1, Version: 3}},
		{api.Request{Kind: api.AskLaunch, Pool: 1, Warm: true}, api.Open{R: api.Request{Kind: api.AskLaunch, Token: 8, Pool: 1, Warm: true}, Since: 50, Weight: 2, Spot: true, Version: 3}},
		{api.Request{Kind: api.AskEnd, Id: 5}, api.Open{R: api.Request{Kind: api.AskEnd, Token: 8, Id: 5}, Since: 50}},
		{api.Request{Kind: api.AskStop, Id: 5}, api.Open{R: api.Request{Kind: api.AskStop, Token: 8, Id: 5}, Since: 50}},
		{api.Request{Kind: api.AskLaunch, Pool: 2}, api.Open{}}, {api.Request{Kind: api.AskLaunch, Pool: -1}, api.Open{}}, {api.Request{Kind: api.AskLaunch, Pool: math.MinInt}, api.Open{}}, {api.Request{Kind: api.AskLaunch, Id: 5}, api.Open{}},
		{api.Request{}, api.Open{}}, {api.Request{Kind: 5}, api.Open{}}, {api.Request{Kind: api.AskEnd}, api.Open{}}, {api.Request{Kind: api.AskEnd, Id: 5, Pool: 1}, api.Open{}}, {api.Request{Kind: api.AskEnd, Id: 5, Warm: true}, api.Open{}},
	} {
		got, ok := plan.Ask(s, x.r)
		want := s
		if x.want != (api.Open{}) {
			want.Opens, want.Token = []api.Open{x.want}, 8
		}
		if ok != (want.Token == 8) || !reflect.DeepEqual(got, want) {
			t.Errorf("%d: Ask = %v, %t", i, got, ok)
		}
	}
	s, _ = plan.Ask(s, api.Request{Kind: api.AskEnd, Id: 5})
	if got, ok := plan.Ask(s, api.Request{Kind: api.AskEnd, Id: 5}); ok || !reflect.DeepEqual(got, s) {
		t.Errorf("what is asked already: %v, %t", got, ok)
	}
	s.Token = 1 << 62
	if got, ok := plan.Ask(s, api.Request{Kind: api.AskLaunch}); ok || !reflect.DeepEqual(got, s) {
		t.Errorf("by no token: %v, %t", got, ok)
	}
}

func TestDo(t *testing.T) {
	s := state(4)
	s.Token = 4
	s.Insts = []api.Inst{one(1, 2, true, api.Serving), one(2, 2, true, api.Warm), one(3, 2, true, api.Warming), one(4, 1, false, api.Ending)}
	s.Opens = []api.Open{open(api.AskStop, 1, 3), open(api.AskLaunch, 2, 0), open(api.AskStart, 3, 2)}
	s.Opens[1].Weight = 1
	for i, x := range []struct {
		id    uint64
		what  uint8
		at    uint64
		state uint8
		opens []uint64 // the tokens
		e     api.Errno
	}{
		{1, api.DoDrain, 0, api.Draining, []uint64{1, 2, 3}, 0},
		{1, api.DoNotice, 60, api.Draining, []uint64{1, 2, 3}, 0},
		{2, api.DoWake, 0, api.Waking, []uint64{1, 2, 3}, 0},   // its start is asked already
		{2, api.DoEnd, 0, api.Ending, []uint64{1, 2, 5}, 0},    // what was asked about it is forgotten
		{3, api.DoReady, 0, api.Warming, []uint64{1, 2, 3}, 0}, // its stop is asked already
		{3, api.DoEnd, 0, api.Ending, []uint64{2, 3, 5}, 0},
		{9, api.DoEnd, 0, 0, nil, api.ErrNone}, {0, 0, 0, 0, nil, api.ErrNone}, {9, 99, math.MaxUint64, 0, nil, api.ErrNone},
		{4, api.DoReady, 0, 0, nil, api.ErrState}, {1, api.DoWake, 0, 0, nil, api.ErrState}, {1, 0, 0, 0, nil, api.ErrArg}, {1, api.DoNotice, api.MaxTick + 1, 0, nil, api.ErrArg},
	} {
		got, e := plan.Do(s, x.id, x.what, x.at)
		if e != x.e {
			t.Errorf("%d: Do = %d, want %d", i, int(e), int(x.e))
		}
		if x.e != api.OK {
			is(t, "the state", got, s)
			continue
		}
		if n, _ := sums.Find(got.Insts, x.id); n.State != x.state || x.what == api.DoNotice && (n.Kill != x.at || n.Due != 52) {
			t.Errorf("%d: %v", i, n)
		}
		var tokens []uint64
		for _, o := range got.Opens {
			tokens = append(tokens, o.R.Token)
			if o.R.Token == 5 && o != open(api.AskEnd, 5, x.id) {
				t.Errorf("%d: %v", i, o)
			}
		}
		is(t, "the tokens", tokens, x.opens)
	}
}

// odd are changes that make a state one that is not planned for.
func odd() []func(s *api.State) {
	return []func(s *api.State){
		func(s *api.State) { s.Config.Deadline = 0 }, func(s *api.State) { s.Desired = -1 }, func(s *api.State) { s.Desired = api.MaxCap + 1 }, func(s *api.State) { s.Insts[1].Id = 1 }, func(s *api.State) { s.Insts[0].Weight = 0 },
		func(s *api.State) { s.Opens = []api.Open{{}} }, func(s *api.State) { s.Token = 0 }, func(s *api.State) { s.Refresh = api.Refresh{On: true, Most: 99} }, func(s *api.State) { s.Refresh = api.Refresh{On: true, Most: 100, Least: 101} },
		func(s *api.State) { s.Version = 0 }, func(s *api.State) { s.Quotes = s.Quotes[:1] }, func(s *api.State) { s.Quotes = append(s.Quotes, api.Quote{}) }, func(s *api.State) { s.Now = api.MaxTick + 1 },
	}
}

// busy is a state of which all does something.
func busy() api.State {
	s := state(4)
	s.Config.Warm, s.Token = 3, 1
	s.Insts = []api.Inst{one(1, 2, true, api.Serving), one(2, 9, true, api.Warm), one(3, 9, true, api.Serving)}
	s.Opens = []api.Open{open(api.AskStop, 1, 2)}
	return s
}

func TestWhatIsNotPlannedFor(t *testing.T) {
	for i, do := range odd() {
		s, kept := busy(), busy()
		do(&s)
		do(&kept)
		for k, f := range []func(api.State) api.State{plan.Drains, plan.Swaps, plan.Launches, plan.Pool, plan.All} {
			if got := f(s); !reflect.DeepEqual(got, kept) {
				t.Errorf("%d, %d: %v", i, k, got)
			}
		}
		if got, ok := plan.Ask(s, api.Request{Kind: api.AskLaunch}); ok || !reflect.DeepEqual(got, kept) {
			t.Errorf("%d: Ask = %v", i, got)
		}
		if got, e := plan.Do(s, 3, api.DoDrain, 0); e != api.ErrArg || !reflect.DeepEqual(got, kept) {
			t.Errorf("%d: Do = %v, %d", i, got, int(e))
		}
	}
}

func TestStatesAreNewMemory(t *testing.T) {
	s := busy()
	s.Config.Bands, s.Config.Plans, s.Next = []api.Band{{}}, []api.Plan{{At: 9}}, []uint64{9}
	s.Before = s.Config
	s.Before.Pools = append([]api.Pool{}, s.Before.Pools...)
	first := plan.All(s)
	for _, f := range []func(api.State) api.State{
		plan.Drains, plan.Swaps, plan.Launches, plan.Pool, plan.All,
		func(s api.State) api.State { s, _ = plan.Ask(s, api.Request{}); return s },
		func(s api.State) api.State { s, _ = plan.Do(s, 1, api.DoDrain, 0); return s },
	} {
		x := f(s)
		for _, c := range []*api.Config{&x.Config, &x.Before} {
			clear(c.Pools)
			clear(c.Bands)
			c.Plans[0].At = 77
		}
		clear(x.Insts)
		clear(x.Opens)
		clear(x.Quotes)
		clear(x.Next)
		is(t, "All of what was handed in", plan.All(s), first)
	}
}

// P28.2

func TestDrains(t *testing.T) {
	s := state(5)
	s.Insts = []api.Inst{one(1, 1, false, api.Serving), one(2, 2, true, api.Serving), one(3, 2, true, api.Serving), one(4, 2, true, api.Serving), one(5, 3, true, api.Serving), one(6, 1, false, api.Serving)}
	s.Insts[1].Held = true
	d := plan.Drains(s) // live 11: 3, then what is on demand above what is wanted
	is(t, "Drains", states(d), []uint8{api.Draining, api.Serving, api.Draining, api.Draining, api.Serving, api.Serving})
	if d.Insts[2].Due != 52 || len(d.Opens) != 0 || d.Token != 0 {
		t.Errorf("Drains = %v", d)
	}
}

func TestSwaps(t *testing.T) {
	// Three spot serve, none on demand: the floor of 1 is not there.
	base := func() api.State {
		s := state(6)
		s.Insts = []api.Inst{one(1, 2, true, api.Serving), one(2, 2, true, api.Serving), one(3, 2, true, api.Serving)}
		return s
	}
	for i, x := range []struct {
		do   func(s *api.State)
		want uint64 // 0: none is swapped
	}{
		{func(s *api.State) {}, 1}, {func(s *api.State) { s.Insts[0].Held = true }, 2},
		{func(s *api.State) { s.Insts = append(s.Insts, one(4, 1, false, api.Pending)) }, 0}, // something comes
		{func(s *api.State) { s.Opens, s.Token = []api.Open{open(api.AskLaunch, 1, 0)}, 1; s.Opens[0].Weight = 1 }, 0},
		{func(s *api.State) {
			s.Opens, s.Token = []api.Open{open(api.AskLaunch, 1, 0)}, 1
			s.Opens[0].Weight = 1
			s.Opens[0].R.Warm = true
		}, 1},
		{func(s *api.State) { s.Desired = 7 }, 0}, {func(s *api.State) { s.Desired = 5 }, 1}, {func(s *api.State) { s.Config.Base = 0 }, 0}, {func(s *api.State) { s.Insts[1].Spot = false }, 0},
		{func(s *api.State) { s.Insts[1].Spot, s.Config.Base = false, 3 }, 1}, {func(s *api.State) { s.Insts[1].Spot, s.Config.Base = false, 2 }, 0},
		{func(s *api.State) { s.Quotes[0].Until = 51 }, 0}, {func(s *api.State) { s.Quotes[0].Price = 0 }, 0}, {func(s *api.State) { s.Quotes[0].Until = 50 }, 1},
		{func(s *api.State) { s.Insts[2].Risk, s.Config.Replace, s.Config.Surge = true, true, 1 }, 0}, // less than Desired and Extra
		{func(s *api.State) { s.Insts[2].Risk, s.Config.Replace, s.Config.Surge, s.Desired = true, true, 1, 5 }, 1},
		// While a refresh goes on, only what is of the version counts on demand.
		{func(s *api.State) {
			s.Insts[1].Spot, s.Version, s.Refresh, s.Desired = false, 2, api.Refresh{On: true, Most: 100}, 4
		}, 1},
		{func(s *api.State) {
			s.Insts[1].Spot, s.Version, s.Refresh, s.Desired = false, 2, api.Refresh{On: true, Most: 100, Stopped: true}, 4
		}, 0},
	} {
		s := base()
		x.do(&s)
		want := append([]api.Inst{}, s.Insts...)
		if x.want != 0 {
			want[x.want-1].State, want[x.want-1].Due = api.Draining, 52
		}
		if got := plan.Swaps(s); !reflect.DeepEqual(got.Insts, want) || len(got.Opens) != len(s.Opens) {
			t.Errorf("%d: %v, want %v", i, got.Insts, want)
		}
	}
}

func TestLaunches(t *testing.T) {
	for i, x := range []struct {
		do   func(s *api.State)
		want []int
	}{
		{func(s *api.State) {}, []int{0, 1, 1}}, {func(s *api.State) { s.Desired = 0 }, nil}, {func(s *api.State) { s.Desired = 1 }, []int{0}}, {func(s *api.State) { s.Config.Base = 0 }, []int{1, 1}}, {func(s *api.State) { s.Config.Percent = 100 }, []int{0, 0, 0, 0}}, {func(s *api.State) { s.Config.Percent = 1 }, []int{0, 0, 1}},
		{func(s *api.State) { s.Quotes[0].Until = 51 }, nil}, {func(s *api.State) { s.Quotes[1].Until = 51 }, []int{0}}, {func(s *api.State) { s.Quotes[1].Until, s.Config.Fallback = 51, true }, []int{0, 0, 0, 0}}, {func(s *api.State) { s.Quotes[0].Until, s.Config.Fallback = 51, true }, nil},
		{func(s *api.State) { s.Insts = []api.Inst{one(1, 1, false, api.Serving), one(2, 2, true, api.Hooked)} }, []int{1}}, {func(s *api.State) { s.Insts = []api.Inst{one(1, 1, false, api.Draining), one(2, 2, true, api.Ending)} }, []int{0, 1, 1}},
		{func(s *api.State) { s.Insts = []api.Inst{one(1, 4, true, api.Serving)} }, nil},
		// Something at risk gives way: there may be more.
		{func(s *api.State) {
			s.Insts = []api.Inst{one(1, 4, false, api.Serving)}
			s.Insts[0].Risk = true
			s.Config.Replace, s.Config.Surge = true, 3
		}, []int{1, 1}},
		// A refresh goes on: what is old counts not for the markets.
		{func(s *api.State) {
			s.Insts = []api.Inst{one(1, 4, false, api.Serving)}
			s.Version, s.Refresh = 2, api.Refresh{On: true, Most: 150}
		}, []int{0, 1, 1}},
		// The warm pool is drawn from ahead of any launch.
		{func(s *api.State) { s.Insts = []api.Inst{one(1, 2, true, api.Warm), one(2, 1, false, api.Warm)} }, []int{1}},
		{func(s *api.State) { s.Insts = []api.Inst{one(1, 4, true, api.Warm)} }, []int{0}},
		{func(s *api.State) { s.Token = 1<<62 - 1 }, []int{0}}, {func(s *api.State) { s.Token = 1 << 62 }, nil},
	} {
		s := state(4)
		x.do(&s)
		got := plan.Launches(s)
		if !reflect.DeepEqual(pools(got), x.want) {
			t.Errorf("%d: %v, want %v", i, pools(got), x.want)
		}
	}
}

func TestTheLastTick(t *testing.T) {
	s := state(4)
	s.Now = api.MaxTick
	is(t, "Launches", pools(plan.Launches(s)), []int{0, 1, 1})
}

func TestWaking(t *testing.T) {
	s := state(4)
	s.Insts = []api.Inst{one(1, 4, true, api.Warm), one(2, 1, false, api.Warm), one(3, 1, false, api.Warm)}
	got := plan.Launches(s)
	is(t, "states", states(got), []uint8{api.Waking, api.Waking, api.Warm})
	is(t, "opens", got.Opens, []api.Open{open(api.AskStart, 1, 2), open(api.AskStart, 2, 1)})
	is(t, "Due", got.Insts[0].Due, uint64(59))
}

func TestLaunchesUpToTheMost(t *testing.T) {
	s := state(api.MaxCap)
	s.Config.Max, s.Config.Base, s.Config.Warm = api.MaxCap, 0, api.MaxCap
	s.Insts = []api.Inst{one(1, 1, true, api.Ending), one(2, 1, true, api.Serving)}
	got := plan.All(s)
	is(t, "launches", len(got.Opens), api.MaxInst-2)
	is(t, "Many", sums.Of(got.Insts, got.Opens, 0).Many, api.MaxInst)
}

func TestPool(t *testing.T) {
	for i, x := range []struct {
		do    func(s *api.State)
		pools []int
		ended []uint64
	}{
		{func(s *api.State) {}, []int{0, 0, 0}, nil}, {func(s *api.State) { s.Quotes[0].Price = 0 }, []int{1, 1}, nil}, {func(s *api.State) { s.Quotes[0].Price, s.Quotes[1].Price = 0, 0 }, nil, nil}, {func(s *api.State) { s.Config.Warm = 0 }, nil, nil},
		{func(s *api.State) { s.Insts = []api.Inst{one(1, 2, true, api.Warming)} }, []int{0}, nil}, {func(s *api.State) { s.Insts = []api.Inst{one(1, 2, true, api.Warm), one(2, 3, true, api.Warm)} }, nil, []uint64{1}},
		{func(s *api.State) {
			s.Insts = []api.Inst{one(1, 2, true, api.Warm), one(2, 3, true, api.Warm)}
			s.Config.Warm = 0
		}, nil, []uint64{1, 2}},
		{func(s *api.State) {
			s.Insts = []api.Inst{one(1, 2, true, api.Warm), one(2, 3, true, api.Warm)}
			s.Version, s.Refresh = 2, api.Refresh{On: true, Most: 150}
		}, []int{0, 0, 0}, []uint64{1, 2}},
		{func(s *api.State) { s.Token = 1<<62 - 2 }, []int{0, 0}, nil},
	} {
		s := state(4)
		s.Config.Warm = 3
		x.do(&s)
		got := plan.Pool(s)
		var ended []uint64
		for _, o := range got.Opens {
			if o.R.Kind == api.AskEnd {
				ended = append(ended, o.R.Id)
			} else if !o.R.Warm || o.Since != 50 || o.Version != s.Version {
				t.Errorf("%d: %v", i, o)
			}
		}
		if !reflect.DeepEqual(pools(got), x.pools) || !reflect.DeepEqual(ended, x.ended) {
			t.Errorf("%d: %v, %v, want %v, %v", i, pools(got), ended, x.pools, x.ended)
		}
	}
}

// P28.3

// random is a state of a kind that next tells.
func random(next func(n uint32) uint32) api.State {
	s := state(int64(next(20)))
	c := &s.Config
	c.Pools, s.Quotes = nil, nil
	for i := range 1 + next(5) {
		c.Pools = append(c.Pools, api.Pool{Name: string([]byte{'a' + byte(i)}), Spot: next(2) == 0, Weight: 1 + int64(next(4)), Priority: int64(next(3))})
		s.Quotes = append(s.Quotes, api.Quote{Price: int64(next(5)), Score: int64(next(5)), Until: uint64(40 + next(14))})
	}
	c.Max, c.Strategy, c.Spread, c.Fallback, c.Base, c.Percent = 30, uint8(1+next(4)), 1+int64(next(3)), next(2) == 0, int64(next(6)), int64(next(101))
	c.Surge, c.Warm, c.Replace, s.Version = int64(next(6)), int64(next(6)), next(2) == 0, 1+next(2)
	if next(3) == 0 {
		s.Refresh = api.Refresh{On: true, Least: int64(next(101)), Most: 100 + int64(next(101)), Stopped: next(3) == 0}
	}
	for id := range uint64(next(9)) {
		i := one(id+1, 1+int64(next(4)), next(2) == 0, []uint8{api.Serving, api.Serving, api.Serving, api.Pending, api.Warm, api.Warming, api.Draining}[next(7)])
		i.Version, i.Risk, i.Held = 1+next(2), next(4) == 0, next(5) == 0
		s.Insts = append(s.Insts, i)
	}
	return s
}

// renews tells the weight of a version, or of all, on demand and in all.
func renews(s api.State) (demand, there int64) {
	version := uint32(0)
	if extra.Goes(s) {
		version = s.Version
	}
	of, all := sums.Of(s.Insts, s.Opens, version), sums.Of(s.Insts, s.Opens, 0)
	return of.LiveDemand + of.ComingDemand, all.Live + all.Coming
}

func TestEachLaunchIsAskedRightly(t *testing.T) {
	seed := uint32(1)
	next := func(n uint32) uint32 {
		seed = seed*1664525 + 1013904223
		return seed >> 8 % n
	}
	asked, drained := 0, 0
	for n := range 6000 {
		s := random(next)
		d := plan.Drains(s)
		if _, ok := victim.First(d); ok {
			t.Fatalf("state %d: behind Drains something may go", n)
		}
		w := plan.Swaps(d)
		l := plan.Launches(w)
		// The same, request by request.
		at := w
		for _, o := range l.Opens[len(w.Opens):] {
			demand, there := renews(at)
			wanted, _ := split.Want(s.Config, s.Desired)
			spot, ok := black.Class(s.Config, s.Quotes, demand >= wanted, s.Now)
			if !ok || there >= s.Desired+extra.Of(at) {
				t.Fatalf("state %d: %v is asked for, where there is %d", n, o, there)
			}
			if id, ok := warm.Draw(at, spot); ok {
				if o.R.Kind != api.AskStart || o.R.Id != id {
					t.Fatalf("state %d: %v is asked for, where %d stands by", n, o, id)
				}
				at, _ = plan.Do(at, id, api.DoWake, 0)
				continue
			}
			pool, ok := rank.Pick(s.Config, s.Quotes, sums.Load(at.Insts, at.Opens, s.Version, len(s.Config.Pools)), spot, s.Now)
			if !ok || o.R.Kind != api.AskLaunch || o.R.Pool != pool || o.R.Warm || !black.IsOpen(s.Quotes, pool, s.Now) {
				t.Fatalf("state %d: %v is asked for, want the pool %d (%t)", n, o, pool, ok)
			}
			at, _ = plan.Ask(at, o.R)
			asked++
		}
		if !reflect.DeepEqual(at, l) {
			t.Fatalf("state %d: %v, request by request %v", n, l, at)
		}
		a := plan.All(s)
		if !reflect.DeepEqual(a, plan.Pool(l)) {
			t.Fatalf("state %d: All = %v", n, a)
		}
		if _, ok := victim.First(a); ok {
			t.Fatalf("state %d: behind All something may go", n)
		}
		again := plan.All(a)
		swapped := plan.Swaps(plan.Drains(a))
		if reflect.DeepEqual(swapped, a) && !reflect.DeepEqual(again, a) {
			t.Fatalf("state %d: All of all changes %v to %v", n, a, again)
		}
		for i := range s.Insts {
			if d.Insts[i].State != s.Insts[i].State {
				drained++
			}
		}
	}
	if asked < 1000 || drained < 1000 {
		t.Errorf("%d launches, %d drained: too few to tell", asked, drained)
	}
}
