package stair_test

import (
	"math"
	"testing"

	"cohort/api"
	"cohort/stair"
)

func band(from, add int64) api.Band { return api.Band{From: from, Add: add} }

// three are the chapter's bands.
func three() []api.Band { return []api.Band{band(-20, -1), band(0, 0), band(10, 2)} }

func steps(n int) []api.Band {
	var l []api.Band
	for i := range n {
		l = append(l, band(int64(i), int64(i)))
	}
	return l
}

// odd are bands that may not be.
func odd() [][]api.Band {
	return [][]api.Band{
		steps(9), {band(1, 0), band(1, 0)}, {band(2, 0), band(1, 0)}, {band(-api.MaxMetric-1, 0)}, {band(api.MaxMetric+1, 0)}, {band(0, -api.MaxCap-1)}, {band(0, api.MaxCap+1)}, {band(math.MinInt64, 0)}, {band(0, math.MaxInt64)},
	}
}

// P22.1

func TestBand(t *testing.T) {
	for _, c := range []struct {
		l         []api.Band
		deviation int64
		want      int
		ok        bool
	}{
		{three(), -21, 0, false}, {three(), -20, 0, true}, {three(), -1, 0, true}, {three(), 0, 1, true}, {three(), 9, 1, true}, {three(), 10, 2, true}, {three(), math.MaxInt64, 2, true}, {three(), math.MinInt64, 0, false},
		{nil, 5, 0, false}, {steps(8), 7, 7, true}, {steps(8), 6, 6, true}, {steps(8), -1, 0, false}, {[]api.Band{band(-api.MaxMetric, -api.MaxCap), band(api.MaxMetric, api.MaxCap)}, api.MaxMetric, 1, true},
	} {
		if n, ok := stair.Band(c.l, c.deviation); n != c.want || ok != c.ok {
			t.Errorf("Band(%v, %d) = %d, %t", c.l, c.deviation, n, ok)
		}
	}
	for i, l := range odd() {
		n, ok := stair.Band(l, 5)
		if x, e := stair.Want(l, 5, 5, 5); n != 0 || ok || x != 0 || e != api.ErrArg {
			t.Errorf("%d: Band = %d, %t, Want = %d, %d", i, n, ok, x, int(e))
		}
	}
}

func TestWant(t *testing.T) {
	for _, c := range []struct {
		desired, metric, target, want int64
		e                             api.Errno
	}{
		{5, 30, 50, 4, 0}, {5, 29, 50, 5, 0}, {5, 65, 50, 7, 0}, {0, 30, 50, 0, 0}, {5, 50, 50, 5, 0}, {5, 59, 50, 5, 0}, {5, 60, 50, 7, 0}, {1, 30, 50, 0, 0},
		{api.MaxCap, api.MaxMetric, 0, api.MaxCap + 2, 0}, {5, 0, api.MaxMetric, 5, 0},
		{-1, 50, 50, 0, api.ErrArg}, {api.MaxCap + 1, 50, 50, 0, api.ErrArg}, {5, -1, 50, 0, api.ErrArg}, {5, api.MaxMetric + 1, 50, 0, api.ErrArg}, {5, 50, -1, 0, api.ErrArg}, {5, 50, api.MaxMetric + 1, 0, api.ErrArg},
		{math.MinInt64, 50, 50, 0, api.ErrArg}, {5, math.MinInt64, math.MaxInt64, 0, api.ErrArg},
	} {
		if n, e := stair.Want(three(), c.desired, c.metric, c.target); n != c.want || e != c.e {
			t.Errorf("Want(%d, %d, %d) = %d, %d", c.desired, c.metric, c.target, n, int(e))
		}
	}
	if n, e := stair.Want(nil, 5, 9, 1); n != 5 || e != api.OK {
		t.Errorf("Want of no bands = %d, %d", n, int(e))
	}
	big := []api.Band{band(-5, -api.MaxCap), band(5, api.MaxCap)}
	if n, e := stair.Want(big, api.MaxCap, 9, 1); n != 2*api.MaxCap || e != api.OK {
		t.Errorf("Want of the most = %d, %d", n, int(e))
	}
	if n, e := stair.Want(big, api.MaxCap-1, 1, 1); n != 0 || e != api.OK {
		t.Errorf("Want of the least = %d, %d", n, int(e))
	}
}

// P22.2

func TestWhereTheAddsRise(t *testing.T) {
	l := []api.Band{band(-30, -9), band(-20, -1), band(0, 0), band(10, 2), band(25, 7)}
	for desired := range int64(20) {
		last := int64(-1)
		for metric := int64(20); metric < 200; metric++ { // from the first band on
			n, e := stair.Want(l, desired, metric, 50)
			if e != api.OK || n < last {
				t.Fatalf("Want(%d, %d) = %d, %d, behind %d", desired, metric, n, int(e), last)
			}
			last = n
		}
	}
}
