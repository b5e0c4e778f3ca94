package victim_test

import (
	"math"
	"slices"
	"testing"

	"cohort/api"
	"cohort/extra"
	"cohort/split"
	"cohort/victim"
)

func config() api.Config {
	return api.Config{Pools: []api.Pool{{Name: "d", Weight: 1}, {Name: "s", Spot: true, Weight: 1}}, Strategy: 1, Spread: 1, Max: 100, Base: 4, Deadline: 9, Replace: true}
}

func one(id uint64, weight int64, spot bool) api.Inst {
	return api.Inst{Id: id, Weight: weight, Spot: spot, State: api.Serving, Version: 1}
}

// state is the chapter's.
func state() api.State {
	return api.State{Config: config(), Version: 1, Desired: 6, Insts: []api.Inst{one(1, 4, false), one(2, 2, true), one(3, 3, true)}}
}

// goes tells which of the instances may go.
func goes(s api.State) (l [10]bool) {
	for i := range l {
		l[i] = victim.MayGo(s, uint64(i))
	}
	return l
}

func yes(ids ...int) (l [10]bool) {
	for _, i := range ids {
		l[i] = true
	}
	return l
}

// P26.1

func TestTheChaptersExample(t *testing.T) {
	s := state()
	first, ok := victim.First(s)
	swap, is := victim.Swap(s)
	if victim.Floor(s) != 4 || goes(s) != yes(2, 3) || first != 2 || !ok || swap != 2 || !is {
		t.Errorf("%d, %v, %d %t, %d %t", victim.Floor(s), goes(s), first, ok, swap, is)
	}
	s.Desired = 9
	if id, ok := victim.First(s); id != 0 || ok {
		t.Errorf("First of Desired 9 = %d, %t", id, ok)
	}
	s = state()
	s.Insts[1].Held = true
	if id, ok := victim.First(s); id != 3 || !ok {
		t.Errorf("First of 2 Held = %d, %t", id, ok)
	}
	if id, ok := victim.Swap(s); id != 3 || !ok {
		t.Errorf("Swap of 2 Held = %d, %t", id, ok)
	}
}

func TestFloor(t *testing.T) {
	for i, x := range []struct {
		desired, base, least, want int64
		on, stopped                bool
	}{
		{6, 4, 0, 4, false, false}, {3, 4, 0, 3, false, false}, {6, 4, 50, 2, true, false}, {6, 4, 51, 3, true, false}, {6, 4, 0, 0, true, false}, {6, 4, 100, 4, true, false}, {6, 4, 50, 4, true, true}, {6, 4, 50, 4, false, false}, {0, 4, 50, 0, true, false},
	} {
		s := state()
		s.Desired, s.Config.Base, s.Refresh = x.desired, x.base, api.Refresh{On: x.on, Stopped: x.stopped, Least: x.least, Most: 100}
		if n := victim.Floor(s); n != x.want {
			t.Errorf("%d: Floor = %d, want %d", i, n, x.want)
		}
	}
}

func TestMayGo(t *testing.T) {
	for i, x := range []struct {
		do   func(s *api.State)
		want [10]bool
	}{
		{func(s *api.State) { s.Desired = 7 }, yes(2)}, {func(s *api.State) { s.Desired = 8 }, yes()}, {func(s *api.State) { s.Desired = 0 }, yes(1, 2, 3)}, {func(s *api.State) { s.Config.Base = 0 }, yes(2, 3)}, {func(s *api.State) { s.Config.Base, s.Desired = 0, 5 }, yes(1, 2, 3)},
		{func(s *api.State) { s.Insts[2].Held = true }, yes(2)}, {func(s *api.State) { s.Insts[2].State = api.Hooked }, yes()}, {func(s *api.State) { s.Insts[1].State = api.Draining }, yes()}, {func(s *api.State) { s.Insts[1].State, s.Desired = api.Warm, 4 }, yes(3)},
		// What gives way for its risk goes where Desired is left; the others where the extra is, too.
		{func(s *api.State) { s.Insts[1].Risk, s.Config.Surge = true, 2 }, yes(2)}, {func(s *api.State) { s.Insts[2].Risk, s.Config.Surge = true, 1 }, yes(2, 3)}, {func(s *api.State) { s.Insts[2].Risk, s.Config.Surge, s.Config.Replace = true, 9, false }, yes(2, 3)}, {func(s *api.State) { s.Insts[2].Risk, s.Config.Surge = true, 9 }, yes(3)},
		// A refresh goes on: what is old goes where Least percent of Desired is left.
		{func(s *api.State) { s.Version, s.Refresh = 2, api.Refresh{On: true, Least: 100, Most: 100} }, yes(2, 3)}, {func(s *api.State) { s.Version, s.Refresh = 2, api.Refresh{On: true, Least: 50, Most: 100} }, yes(2, 3)},
		{func(s *api.State) { s.Version, s.Refresh = 2, api.Refresh{On: true, Most: 100} }, yes(1, 2, 3)}, {func(s *api.State) {
			s.Desired, s.Version, s.Refresh = 9, 2, api.Refresh{On: true, Least: 70, Most: 100}
		}, yes(2)},
		{func(s *api.State) {
			s.Desired, s.Version, s.Refresh = 9, 2, api.Refresh{On: true, Least: 66, Most: 100}
		}, yes(2, 3)}, {func(s *api.State) {
			s.Desired, s.Version, s.Refresh = 9, 2, api.Refresh{On: true, Least: 0, Most: 100, Stopped: true}
		}, yes()},
		{func(s *api.State) {
			s.Version, s.Refresh = 2, api.Refresh{On: true, Most: 100}
			s.Insts[1].Held, s.Insts[2].Version = true, 2
		}, yes(1)},
		{func(s *api.State) {
			s.Version, s.Refresh = 2, api.Refresh{On: true, Most: 100}
			s.Insts[0].Version, s.Insts[1].Version, s.Desired, s.Config.Base = 2, 2, 3, 0
		}, yes(2, 3)},
	} {
		s := state()
		x.do(&s)
		if got := goes(s); got != x.want {
			t.Errorf("%d: %v, want %v", i, got, x.want)
		}
	}
	if victim.MayGo(state(), math.MaxUint64) || victim.MayGo(state(), 0) {
		t.Errorf("what is not there may go")
	}
}

func TestFirst(t *testing.T) {
	for i, x := range []struct {
		do   func(s *api.State)
		want uint64
	}{
		{func(s *api.State) {}, 2},
		{func(s *api.State) { s.Insts[2].Risk = true }, 3},          // it gives way
		{func(s *api.State) { s.Desired, s.Config.Base = 2, 0 }, 1}, // more on demand than is wanted
		{func(s *api.State) { s.Desired, s.Config.Base = 5, 0 }, 1},
		{func(s *api.State) { s.Desired, s.Config.Base, s.Config.Percent = 5, 0, 80 }, 2}, // just what is wanted on demand
		{func(s *api.State) { s.Desired, s.Config.Base, s.Config.Percent = 5, 0, 60 }, 1},
		{func(s *api.State) { s.Desired, s.Config.Base, s.Insts[2].Risk = 2, 0, true }, 3},
		{func(s *api.State) { s.Insts[1].Spot, s.Insts[2].Spot = false, false }, 2},
	} {
		s := state()
		x.do(&s)
		if id, ok := victim.First(s); id != x.want || !ok {
			t.Errorf("%d: First = %d, %t, want %d", i, id, ok, x.want)
		}
	}
}

func TestSwap(t *testing.T) {
	for i, x := range []struct {
		do   func(s *api.State)
		want uint64
	}{
		{func(s *api.State) { s.Desired = 99 }, 2}, {func(s *api.State) { s.Insts[1].State = api.Draining }, 3}, {func(s *api.State) { s.Insts[1].Spot = false }, 3}, {func(s *api.State) { s.Insts[1].Spot, s.Insts[2].Spot = false, false }, 0},
		{func(s *api.State) { s.Insts[1].Held, s.Insts[2].State = true, api.Hooked }, 0}, {func(s *api.State) { s.Insts = nil }, 0}, {func(s *api.State) { s.Insts[0].Spot = true }, 1},
	} {
		s := state()
		x.do(&s)
		if id, ok := victim.Swap(s); id != x.want || ok != (x.want != 0) {
			t.Errorf("%d: Swap = %d, %t, want %d", i, id, ok, x.want)
		}
	}
}

func TestWhatIsAskedInVain(t *testing.T) {
	good := func() api.State {
		s := state()
		s.Version, s.Token = 2, 5
		s.Refresh = api.Refresh{On: true, Least: 100, Most: 100}
		return s
	}
	if s := good(); victim.Floor(s) != 4 || goes(s) != yes(2, 3) {
		t.Fatalf("of what may be: %d, %v", victim.Floor(s), goes(s))
	}
	for i, do := range []func(s *api.State){
		func(s *api.State) { s.Config.Deadline = 0 }, func(s *api.State) { s.Config.Pools = nil }, func(s *api.State) { s.Config.Base = -1 }, func(s *api.State) { s.Desired = -1 }, func(s *api.State) { s.Desired = api.MaxCap + 1 }, func(s *api.State) { s.Desired = math.MinInt64 },
		func(s *api.State) { s.Insts[0].Id = 2 }, func(s *api.State) { s.Insts[0].Weight = 0 }, func(s *api.State) { s.Opens = []api.Open{{}} },
		func(s *api.State) { s.Opens = []api.Open{{R: api.Request{Kind: api.AskEnd, Token: 6, Id: 9}}} },
		func(s *api.State) { s.Refresh.Least = -1 }, func(s *api.State) { s.Refresh.Least = 101 }, func(s *api.State) { s.Refresh.Most = 99 }, func(s *api.State) { s.Refresh.Most = 201 },
	} {
		s := good()
		do(&s)
		first, ok := victim.First(s)
		swap, is := victim.Swap(s)
		if victim.Floor(s) != 0 || goes(s) != yes() || first != 0 || ok || swap != 0 || is {
			t.Errorf("%d: %d, %v, %d %t, %d %t", i, victim.Floor(s), goes(s), first, ok, swap, is)
		}
	}
	for _, do := range []func(s *api.State){func(s *api.State) { s.Desired = api.MaxCap }, func(s *api.State) { s.Refresh.Most = 200 }, func(s *api.State) { s.Refresh.Least = 100 }} {
		s := good()
		if do(&s); victim.Floor(s) != 4 {
			t.Errorf("the greatest of all is asked about in vain")
		}
	}
	s := good()
	s.Refresh = api.Refresh{On: true, Stopped: true, Least: -5, Most: 7}
	if victim.Floor(s) != 4 {
		t.Errorf("a refresh that does not go on may be what it likes")
	}
}

// P26.2

func TestWhatFollows(t *testing.T) {
	seed := uint32(1)
	next := func(n uint32) uint32 {
		seed = seed*1664525 + 1013904223
		return seed >> 8 % n
	}
	for range 20000 {
		s := state()
		s.Version, s.Desired, s.Config.Base, s.Config.Percent, s.Config.Surge, s.Insts = 1+next(2), int64(next(40)), int64(next(10)), int64(next(101)), int64(next(9)), nil
		if next(2) == 0 {
			s.Refresh = api.Refresh{On: true, Least: int64(next(101)), Most: 100 + int64(next(101))}
		}
		var live, demand int64
		for id := range uint64(next(9)) {
			i := one(id+1, 1+int64(next(9)), next(2) == 0)
			i.State, i.Version, i.Risk, i.Held = uint8(3-next(3)/2), 1+next(2), next(3) == 0, next(5) == 0
			s.Insts = append(s.Insts, i)
			if i.State == api.Serving {
				live += i.Weight
				if !i.Spot {
					demand += i.Weight
				}
			}
		}
		some := false
		first, ok := victim.First(s)
		wanted, _ := split.Want(s.Config, s.Desired)
		least := [3]uint64{9, 9, 9}
		for _, i := range s.Insts {
			at := [3]uint64{1, 1, i.Id} // what gives way, the market there is too much of, the Id
			if extra.Gives(s, i) {
				at[0] = 0
			}
			if i.Spot != (demand > wanted) {
				at[1] = 0
			}
			if victim.MayGo(s, i.Id) && slices.Compare(at[:], least[:]) < 0 {
				least = at
			}
		}
		if ok && first != least[2] {
			t.Fatalf("%v: the first is %d, want %d", s, first, least[2])
		}
		for _, i := range s.Insts {
			if !victim.MayGo(s, i.Id) {
				if ok && i.Id == first {
					t.Fatalf("%v: %d is the first, and may not go", s, first)
				}
				continue
			}
			some = true
			if i.State != api.Serving || i.Held || !i.Spot && demand-i.Weight < victim.Floor(s) || live-i.Weight < s.Desired && (i.Version == s.Version || !s.Refresh.On) {
				t.Fatalf("%v: %d may go", s, i.Id)
			}
		}
		if some != ok {
			t.Fatalf("%v: First = %d, %t", s, first, ok)
		}
	}
}
