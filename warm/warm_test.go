package warm_test

import (
	"math"
	"testing"

	"cohort/api"
	"cohort/extra"
	"cohort/warm"
)

func one(id uint64, weight int64, spot bool, state uint8) api.Inst {
	return api.Inst{Id: id, Weight: weight, Spot: spot, State: state, Version: 1}
}

// state is the chapter's.
func state() api.State {
	return api.State{Version: 1, Config: api.Config{Warm: 3}, Insts: []api.Inst{one(1, 2, true, api.Warm), one(2, 2, false, api.Warm), one(3, 2, false, api.Warming)}}
}

// launch is an open launch for the warm pool.
func launch(weight int64, version uint32) api.Open {
	return api.Open{R: api.Request{Kind: api.AskLaunch, Token: 1, Warm: true}, Weight: weight, Version: version}
}

// renewed is a state where a refresh goes on, of the version 2.
func renewed(s *api.State) {
	s.Version, s.Refresh = 2, api.Refresh{On: true, Least: 50, Most: 150}
}

// P27.1

func TestTheChaptersExample(t *testing.T) {
	s := state()
	a, x := warm.Draw(s, true)
	b, y := warm.Draw(s, false)
	c, z := warm.Much(s)
	if a != 1 || !x || b != 2 || !y || c != 1 || !z || warm.Little(s) {
		t.Errorf("%d %t, %d %t, %d %t, %t", a, x, b, y, c, z, warm.Little(s))
	}
	s.Config.Warm = 5
	if id, ok := warm.Much(s); id != 0 || ok {
		t.Errorf("Much of Warm 5 = %d, %t", id, ok)
	}
	s.Config.Warm = 7
	if !warm.Little(s) {
		t.Errorf("Little of Warm 7 is no")
	}
}

func TestAll(t *testing.T) {
	for i, x := range []struct {
		do                 func(s *api.State)
		spot, demand, much uint64 // 0: none
		little             bool
	}{
		{func(s *api.State) { s.Insts = nil }, 0, 0, 0, true},
		{func(s *api.State) { s.Insts = nil; s.Config.Warm = 0 }, 0, 0, 0, false},
		{func(s *api.State) { s.Config.Warm = 6 }, 1, 2, 0, false},
		{func(s *api.State) { s.Config.Warm = 4 }, 1, 2, 1, false},
		{func(s *api.State) { s.Config.Warm, s.Insts[0].Weight = 4, 9 }, 1, 2, 1, false},
		{func(s *api.State) { s.Config.Warm, s.Insts[0].Weight = 5, 9 }, 1, 2, 2, false},
		{func(s *api.State) { s.Insts[0].Noticed, s.Insts[1].Spot = true, true }, 2, 0, 1, false},
		{func(s *api.State) { s.Insts[0].State, s.Insts[1].State = api.Serving, api.Waking }, 0, 0, 0, true},
		{func(s *api.State) { s.Insts[0].State, s.Insts[1].State = api.Warming, api.Warming }, 0, 0, 0, false},
		{func(s *api.State) { s.Opens = []api.Open{launch(5, 1)}; s.Config.Warm = 9 }, 1, 2, 1, false},
		{func(s *api.State) { s.Opens = []api.Open{launch(5, 1)}; s.Config.Warm = 11 }, 1, 2, 0, false},
		{func(s *api.State) { s.Opens = []api.Open{launch(5, 1)}; s.Config.Warm = 12 }, 1, 2, 0, true},
		{func(s *api.State) { s.Opens = []api.Open{launch(5, 1)}; s.Opens[0].R.Warm = false; s.Config.Warm = 7 }, 1, 2, 0, true},
		// A refresh goes on: what is old is not drawn, goes, and does not count.
		{func(s *api.State) { renewed(s) }, 0, 0, 1, true},
		{func(s *api.State) { renewed(s); s.Insts[0].Version = 2 }, 1, 0, 2, true},
		{func(s *api.State) { renewed(s); s.Insts[0].Version, s.Insts[1].Version = 2, 2 }, 1, 2, 0, false},
		{func(s *api.State) { renewed(s); s.Insts[0].Version, s.Insts[2].Version = 2, 2; s.Config.Warm = 0 }, 1, 0, 2, false},
		{func(s *api.State) { renewed(s); s.Insts[0].Version, s.Insts[1].Version = 2, 2; s.Config.Warm = 2 }, 1, 2, 1, false},
		{func(s *api.State) { renewed(s); s.Insts = nil; s.Opens = []api.Open{launch(9, 1), launch(2, 2)} }, 0, 0, 0, true},
		{func(s *api.State) { renewed(s); s.Insts = nil; s.Opens = []api.Open{launch(9, 1), launch(3, 2)} }, 0, 0, 0, false},
		{func(s *api.State) { renewed(s); s.Refresh.Stopped = true }, 1, 2, 1, false},
		{func(s *api.State) { s.Version = 2 }, 1, 2, 1, false},
		// What may not be.
		{func(s *api.State) { s.Version = 0; s.Config.Warm = 99 }, 0, 0, 0, false}, {func(s *api.State) { s.Config.Warm = -1 }, 0, 0, 0, false}, {func(s *api.State) { s.Config.Warm = api.MaxCap + 1 }, 0, 0, 0, false}, {func(s *api.State) { s.Config.Warm = math.MaxInt64 }, 0, 0, 0, false},
		{func(s *api.State) { s.Config.Warm, s.Insts[2].Id = 99, 2 }, 0, 0, 0, false}, {func(s *api.State) { s.Insts[2].Weight = 0 }, 0, 0, 0, false}, {func(s *api.State) { s.Config.Warm = api.MaxCap }, 1, 2, 0, true},
	} {
		s := state()
		x.do(&s)
		a, isA := warm.Draw(s, true)
		b, isB := warm.Draw(s, false)
		c, isC := warm.Much(s)
		if a != x.spot || b != x.demand || c != x.much || warm.Little(s) != x.little || isA != (a != 0) || isB != (b != 0) || isC != (c != 0) {
			t.Errorf("%d: Draw %d, %d, Much %d, Little %t; want %d, %d, %d, %t", i, a, b, c, warm.Little(s), x.spot, x.demand, x.much, x.little)
		}
	}
}

// P27.2

func TestWhatFollows(t *testing.T) {
	seed := uint32(1)
	next := func(n uint32) uint32 {
		seed = seed*1664525 + 1013904223
		return seed >> 8 % n
	}
	for range 20000 {
		s := api.State{Version: 1 + next(2), Config: api.Config{Warm: int64(next(20))}, Refresh: api.Refresh{On: next(2) == 0, Most: 100}}
		for id := range uint64(next(8)) {
			i := one(id+1, 1+int64(next(9)), next(2) == 0, uint8(1+next(9)))
			i.Version = 1 + next(2)
			s.Insts = append(s.Insts, i)
		}
		for range next(3) {
			s.Opens = append(s.Opens, launch(1+int64(next(9)), 1+next(2)))
		}
		id, ok := warm.Much(s)
		var left int64
		old := false
		for _, i := range s.Insts {
			if i.Id == id && extra.Old(s, i) {
				old = true
			}
			if (i.State == api.Warm || i.State == api.Warming) && i.Id != id && !extra.Old(s, i) {
				left += i.Weight
			}
		}
		for _, o := range s.Opens {
			if !extra.Goes(s) || o.Version == s.Version {
				left += o.Weight
			}
		}
		if ok && !old && (left < s.Config.Warm || warm.Little(s)) || !ok && warm.Little(s) != (left < s.Config.Warm) {
			t.Fatalf("%v: %d (%t, old %t) leaves %d, little %t", s, id, ok, old, left, warm.Little(s))
		}
	}
}
