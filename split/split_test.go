package split_test

import (
	"math"
	"testing"

	"cohort/api"
	"cohort/split"
)

func conf(base, percent int64) api.Config { return api.Config{Base: base, Percent: percent} }

// odd are configurations and capacities of which nothing is reckoned.
func odd() map[int64]api.Config {
	return map[int64]api.Config{
		-1: conf(4, 25), api.MaxCap + 1: conf(4, 25), math.MinInt64: conf(4, 25), math.MaxInt64: conf(4, 25),
		10: conf(-1, 25), 11: conf(api.MaxCap+1, 25), 12: conf(math.MaxInt64, 0), 13: conf(4, -1), 14: conf(4, 101), 15: conf(4, math.MinInt64),
	}
}

// P13.1

func TestFloorWantLeast(t *testing.T) {
	for _, c := range []struct{ base, percent, desired, floor, demand, spot int64 }{
		{4, 25, 10, 4, 6, 4}, {4, 25, 3, 3, 3, 0}, {4, 25, 4, 4, 4, 0}, {4, 25, 5, 4, 5, 0}, {4, 25, 8, 4, 5, 3}, {4, 25, 9, 4, 6, 3},
		{0, 0, 10, 0, 0, 10}, {0, 100, 10, 0, 10, 0}, {4, 0, 10, 4, 4, 6}, {4, 100, 10, 4, 10, 0}, {0, 1, 100, 0, 1, 99}, {0, 1, 101, 0, 2, 99},
		{api.MaxCap, 50, api.MaxCap, api.MaxCap, api.MaxCap, 0}, {0, 50, api.MaxCap, 0, api.MaxCap / 2, api.MaxCap / 2}, {5, 50, 0, 0, 0, 0},
	} {
		x := conf(c.base, c.percent)
		demand, spot := split.Want(x, c.desired)
		if floor := split.Floor(x, c.desired); floor != c.floor || demand != c.demand || spot != c.spot {
			t.Errorf("of %d, base %d, percent %d: %d, %d, %d", c.desired, c.base, c.percent, floor, demand, spot)
		}
	}
	for _, c := range []struct{ desired, percent, want int64 }{
		{10, 50, 2}, {10, 60, 3}, {10, 0, 0}, {10, 100, 4}, {10, 1, 1}, {3, 50, 2}, {10, -1, 0}, {10, 101, 0}, {10, 1000, 0}, {10, math.MinInt64, 0}, {0, 100, 0},
	} {
		if n := split.Least(conf(4, 25), c.desired, c.percent); n != c.want {
			t.Errorf("Least(%d, %d) = %d", c.desired, c.percent, n)
		}
	}
}

func TestNothingIsReckonedOfOddNumbers(t *testing.T) {
	for desired, c := range odd() {
		demand, spot := split.Want(c, desired)
		isSpot, ok := split.Next(c, desired, 0, 0)
		if split.Floor(c, desired) != 0 || demand != 0 || spot != 0 || split.Least(c, desired, 100) != 0 || isSpot || ok {
			t.Errorf("of %d, %v: %d, %d, %d, %d, %t, %t", desired, c, split.Floor(c, desired), demand, spot, split.Least(c, desired, 100), isSpot, ok)
		}
	}
}

// P13.2

func TestNext(t *testing.T) {
	for _, c := range []struct {
		desired, demand, spot int64
		isSpot, ok            bool
	}{
		{10, 0, 0, false, true}, {10, 6, 2, true, true}, {10, 6, 4, false, false}, {10, 5, 5, false, false}, {10, 5, 0, false, true}, {10, 5, 4, false, true}, {10, 6, 0, true, true}, {10, 9, 0, true, true}, {10, 10, 0, false, false},
		{10, 0, 9, false, true}, {10, 0, 10, false, false}, {0, 0, 0, false, false}, {10, 1 << 40, 1 << 40, false, false},
		{10, -1, 0, false, false}, {10, 0, -1, false, false}, {10, 1<<40 + 1, 0, false, false}, {10, 0, 1<<40 + 1, false, false}, {10, math.MinInt64, math.MaxInt64, false, false}, {10, math.MaxInt64, math.MaxInt64, false, false},
	} {
		if isSpot, ok := split.Next(conf(4, 25), c.desired, c.demand, c.spot); isSpot != c.isSpot || ok != c.ok {
			t.Errorf("Next(%d, %d, %d) = %t, %t", c.desired, c.demand, c.spot, isSpot, ok)
		}
	}
}

// P13.3

func TestExcess(t *testing.T) {
	for _, c := range []struct {
		desired, live, weight int64
		want                  bool
	}{
		{10, 12, 2, true}, {10, 11, 2, false}, {10, 11, 1, true}, {10, 10, 1, false}, {0, 5, 5, true}, {0, 5, 6, false}, {10, 12, 0, false}, {10, 12, -5, false}, {0, 0, 0, false},
		{-1, 12, 2, false}, {api.MaxCap + 1, math.MaxInt64, 2, false}, {api.MaxCap, api.MaxCap + 2, 2, true}, {0, math.MinInt64, 1, false}, {0, math.MinInt64, math.MaxInt64, false}, {0, math.MaxInt64, math.MaxInt64, true},
		{0, -1, math.MaxInt64, false}, {10, 12, math.MinInt64, false},
	} {
		if got := split.Excess(c.desired, c.live, c.weight); got != c.want {
			t.Errorf("Excess(%d, %d, %d) = %t", c.desired, c.live, c.weight, got)
		}
	}
}

// P13.4

func TestWhatIsWantedIsLaunched(t *testing.T) {
	for base := range int64(13) {
		for percent := int64(0); percent <= 100; percent += 7 {
			for desired := range int64(30) {
				c := conf(base, percent)
				demand, spot := split.Want(c, desired)
				if demand+spot != desired || demand < 0 || spot < 0 || split.Floor(c, desired) > demand {
					t.Fatalf("of %d, base %d, percent %d: %d, %d", desired, base, percent, demand, spot)
				}
				var x, y int64
				for {
					isSpot, ok := split.Next(c, desired, x, y)
					if !ok {
						break
					}
					if isSpot {
						y++
					} else {
						x++
					}
				}
				if x != demand || y != spot {
					t.Fatalf("of %d, base %d, percent %d: %d, %d are launched, want %d, %d", desired, base, percent, x, y, demand, spot)
				}
			}
		}
	}
}
