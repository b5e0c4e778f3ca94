package extra_test

import (
	"math"
	"testing"

	"cohort/api"
	"cohort/extra"
)

func one(id uint64, weight int64, version uint32, risk bool) api.Inst {
	return api.Inst{Id: id, Weight: weight, State: api.Serving, Version: version, Risk: risk}
}

// state is the chapter's: of the version 2, no refresh.
func state() api.State {
	return api.State{Version: 2, Desired: 10, Config: api.Config{Surge: 2, Replace: true}, Insts: []api.Inst{one(1, 3, 2, true), one(2, 7, 2, false)}}
}

// refreshed is the state where a refresh goes on, and both are old.
func refreshed(most int64) api.State {
	s := state()
	s.Version, s.Refresh = 3, api.Refresh{On: true, Most: most}
	return s
}

// launch is an open launch of a version.
func launch(version uint32) api.Open {
	return api.Open{R: api.Request{Kind: api.AskLaunch, Token: 1}, Weight: 1, Version: version}
}

// P25.1

func TestTheChaptersExample(t *testing.T) {
	s := state()
	if n := extra.Of(s); n != 2 {
		t.Errorf("Of = %d", n)
	}
	s.Config.Surge = 9
	if n := extra.Of(s); n != 3 {
		t.Errorf("Of of Surge 9 = %d", n)
	}
	if s = refreshed(150); extra.Of(s) != 7 || extra.Ceiling(s) != 110 {
		t.Errorf("of a refresh: %d, %d", extra.Of(s), extra.Ceiling(s))
	}
}

func TestGoesOldGives(t *testing.T) {
	for i, r := range []api.Refresh{{}, {On: true}, {On: true, Stopped: true}, {Stopped: true}, {On: true, Back: true, Most: 9, Least: -4}} {
		goes := i == 1 || i == 4
		for version := uint32(1); version <= 3; version++ {
			for _, risk := range []bool{false, true} {
				for _, replace := range []bool{false, true} {
					s := api.State{Version: 2, Refresh: r, Desired: -1, Config: api.Config{Replace: replace}}
					x := one(0, -5, version, risk) // nothing of that is asked for
					old := goes && version != 2
					if extra.Goes(s) != goes || extra.Old(s, x) != old || extra.Gives(s, x) != (old || risk && replace) {
						t.Errorf("%v, version %d, risk %t, replace %t: %t, %t, %t", r, version, risk, replace, extra.Goes(s), extra.Old(s, x), extra.Gives(s, x))
					}
				}
			}
		}
	}
}

func TestOfRisk(t *testing.T) {
	for i, x := range []struct {
		do   func(s *api.State)
		want int64
	}{
		{func(s *api.State) { s.Config.Replace = false }, 0}, {func(s *api.State) { s.Config.Surge = 0 }, 0}, {func(s *api.State) { s.Config.Surge = api.MaxCap }, 3}, {func(s *api.State) { s.Insts[0].State = api.Draining }, 0}, {func(s *api.State) { s.Insts[0].State = api.Pending }, 0},
		{func(s *api.State) { s.Insts[1].Risk, s.Config.Surge = true, 50 }, 10}, {func(s *api.State) { s.Insts[1].Risk = true }, 2}, {func(s *api.State) { s.Insts = nil }, 0}, {func(s *api.State) { s.Insts[0].Version = 1 }, 2}, {func(s *api.State) { s.Refresh.Most = -7 }, 2},
	} {
		s := state()
		x.do(&s)
		if n := extra.Of(s); n != x.want {
			t.Errorf("%d: Of = %d, want %d", i, n, x.want)
		}
	}
}

func TestOfRefresh(t *testing.T) {
	for i, x := range []struct {
		most int64
		do   func(s *api.State)
		want int64
	}{
		{100, nil, 7}, {200, nil, 10}, {180, nil, 8}, {171, nil, 8}, {170, nil, 7}, {150, func(s *api.State) { s.Insts[1].Version = 3 }, 3}, {150, func(s *api.State) { s.Insts[1].State = api.Leaving }, 3},
		{150, func(s *api.State) { s.Insts[0].Version, s.Insts[1].Version = 3, 3 }, 2}, {150, func(s *api.State) { s.Refresh.Stopped = true }, 2}, {150, func(s *api.State) { s.Refresh.On = false }, 2}, {150, func(s *api.State) { s.Insts = nil }, 0},
		{100, func(s *api.State) { s.Config.Surge, s.Insts[0].Risk, s.Insts[1].Risk = 9, true, true }, 9}, {150, func(s *api.State) { s.Desired = 0 }, 7}, {150, func(s *api.State) { s.Insts[1].Version = 4 }, 7},
	} {
		s := refreshed(x.most)
		if x.do != nil {
			x.do(&s)
		}
		if n := extra.Of(s); n != x.want {
			t.Errorf("%d: Of = %d, want %d", i, n, x.want)
		}
	}
}

func TestCeiling(t *testing.T) {
	for i, x := range []struct {
		most, surge, desired, want int64
		stopped                    bool
	}{
		{150, 2, 10, 110, false}, {150, 101, 10, 111, false}, {200, 0, 1000, 2000, false}, {150, 600, 1000, 1600, false}, {150, 400, 1000, 1500, false}, {150, 400, 1000, 1400, true}, {0, 0, 0, 100, true}, {101, 0, 10001, 10102, false},
		{200, api.MaxCap, api.MaxCap, 2 * api.MaxCap, false},
	} {
		s := refreshed(x.most)
		s.Config.Surge, s.Desired, s.Refresh.Stopped = x.surge, x.desired, x.stopped
		if n := extra.Ceiling(s); n != x.want {
			t.Errorf("%d: Ceiling = %d, want %d", i, n, x.want)
		}
	}
}

func TestStops(t *testing.T) {
	for i, x := range []struct {
		stop int64
		do   func(s *api.State)
		want bool
	}{
		{30, nil, true}, {31, nil, false}, {1, nil, true}, {0, nil, false}, {-1, nil, false}, {100, func(s *api.State) { s.Insts[1].Version = 3 }, false}, {99, func(s *api.State) { s.Insts[1].Version = 3 }, true}, {50, func(s *api.State) { s.Desired = 6 }, true}, {50, func(s *api.State) { s.Desired = 7 }, false},
		{1, func(s *api.State) { s.Insts[0].State = api.Hooked }, false}, {99, func(s *api.State) { s.Desired = 0; s.Insts = nil }, true}, {math.MaxInt64, nil, false}, {math.MinInt64, nil, false},
	} {
		s := refreshed(150)
		s.Insts[0].Version = 3 // the weight 3 of 10 is renewed
		s.Refresh.Stop = x.stop
		if x.do != nil {
			x.do(&s)
		}
		if extra.Stops(s) != x.want {
			t.Errorf("%d: Stops is %t", i, !x.want)
		}
	}
}

func TestStopsByHundreds(t *testing.T) {
	for live, want := range map[int64]bool{96: false, 99: false, 100: true} {
		s := api.State{Version: 3, Desired: 1000, Refresh: api.Refresh{On: true, Most: 100, Stop: 50}}
		for id := range uint64(4) {
			s.Insts = append(s.Insts, one(id+1, 100, 3, false))
		}
		if s.Insts = append(s.Insts, one(9, live, 3, false)); extra.Stops(s) != want {
			t.Errorf("%d of 1000 are renewed, the stop is at 50 percent: %t", 400+live, !want)
		}
	}
}

func TestEnds(t *testing.T) {
	for state := uint8(1); state <= 9; state++ {
		want := state == api.Draining || state == api.Leaving || state == api.Ending
		s := refreshed(150)
		s.Insts = []api.Inst{one(1, 5, 3, false), one(2, 5, 2, false)}
		s.Insts[1].State = state
		if extra.Ends(s) != want {
			t.Errorf("state %d: Ends is %t", state, !want)
		}
		s.Insts[1].Version = 3
		if s.Opens = []api.Open{launch(3), {R: api.Request{Kind: api.AskEnd, Token: 2, Id: 9}}}; !extra.Ends(s) {
			t.Errorf("state %d of the version: it has not ended", state)
		}
		if s.Opens = append(s.Opens, launch(2)); extra.Ends(s) {
			t.Errorf("a launch of another version: it has ended")
		}
	}
}

func TestWhatMayNotBe(t *testing.T) {
	for i, do := range []func(s *api.State){
		func(s *api.State) { s.Desired = -1 }, func(s *api.State) { s.Desired = api.MaxCap + 1 }, func(s *api.State) { s.Desired = math.MaxInt64 }, func(s *api.State) { s.Config.Surge = -1 }, func(s *api.State) { s.Config.Surge = math.MaxInt64 },
		func(s *api.State) { s.Refresh.Most = 99 }, func(s *api.State) { s.Refresh.Most = 201 }, func(s *api.State) { s.Refresh.Most = math.MinInt64 },
		func(s *api.State) { s.Insts[0].Weight = 0 }, func(s *api.State) { s.Insts[0].Id = 2 }, func(s *api.State) { s.Insts[1].State = 0 },
	} {
		s := refreshed(150)
		s.Refresh.Stop, s.Version = 1, 2 // all is renewed
		if !extra.Stops(s) || !extra.Ends(s) || extra.Ceiling(s) == 0 || extra.Of(s) == 0 {
			t.Fatalf("of what may be: %t, %t", extra.Stops(s), extra.Ends(s))
		}
		do(&s)
		if extra.Of(s) != 0 || extra.Ceiling(s) != 0 || extra.Stops(s) || extra.Ends(s) {
			t.Errorf("%d: %d, %d, %t, %t", i, extra.Of(s), extra.Ceiling(s), extra.Stops(s), extra.Ends(s))
		}
	}
}

// P25.2

func TestWhatFollows(t *testing.T) {
	seed := uint32(1)
	next := func(n uint32) uint32 {
		seed = seed*1664525 + 1013904223
		return seed >> 8 % n
	}
	for range 20000 {
		s := api.State{Version: 1 + next(3), Desired: int64(next(60)), Config: api.Config{Surge: int64(next(30)), Replace: next(2) == 0}}
		s.Refresh = api.Refresh{On: next(2) == 0, Stopped: next(4) == 0, Most: 100 + int64(next(101))}
		for id := range uint64(next(9)) {
			x := one(id+1, 1+int64(next(100)), 1+next(3), next(3) == 0)
			x.State = uint8(1 + next(9))
			s.Insts = append(s.Insts, x)
		}
		gives := false
		for _, i := range s.Insts {
			gives = gives || extra.Gives(s, i)
		}
		if n := extra.Of(s); n != 0 && !gives || n < 0 || s.Desired+n > extra.Ceiling(s) {
			t.Fatalf("%v: Of = %d, Ceiling = %d", s, n, extra.Ceiling(s))
		}
	}
}
