package track_test

import (
	"math"
	"testing"

	"cohort/api"
	"cohort/track"
)

// P21.1

func TestWantAndSteady(t *testing.T) {
	for _, c := range []struct {
		desired, metric, target, want int64
		e                             api.Errno
	}{
		{10, 70, 50, 14, 0}, {10, 50, 50, 10, 0}, {10, 0, 50, 0, 0}, {3, 51, 50, 4, 0}, {10, 70, 0, 0, api.ErrArg}, {1 << 62, 4, 1, 0, api.ErrOver},
		{10, 46, 50, 10, 0}, {10, 45, 50, 9, 0}, {0, 9, 1, 0, 0}, {0, 0, 1, 0, 0}, {1, 1, math.MaxInt64, 1, 0}, {math.MaxInt64, 1, 1, math.MaxInt64, 0}, {math.MaxInt64, 1, 2, 1 << 62, 0}, {math.MaxInt64, 2, 2, 0, api.ErrOver},
		{10, 70, -1, 0, api.ErrArg}, {-1, 70, 50, 0, api.ErrArg}, {10, -1, 50, 0, api.ErrArg}, {math.MinInt64, 0, 1, 0, api.ErrArg}, {math.MaxInt64, math.MaxInt64, 0, 0, api.ErrArg}, {math.MaxInt64, math.MinInt64, 1, 0, api.ErrArg},
	} {
		n, e := track.Want(c.desired, c.metric, c.target)
		if n != c.want || e != c.e {
			t.Errorf("Want(%d, %d, %d) = %d, %d", c.desired, c.metric, c.target, n, int(e))
		}
		if is := track.Steady(c.desired, c.metric, c.target); is != (c.e == api.OK && c.want == c.desired) {
			t.Errorf("Steady(%d, %d, %d) = %t", c.desired, c.metric, c.target, is)
		}
	}
	if track.Steady(0, -1, 1) || track.Steady(0, 1, 0) {
		t.Errorf("what is refused is steady")
	}
}

// P21.2

func TestWhatFollows(t *testing.T) {
	for desired := range int64(40) {
		for target := int64(1); target < 30; target++ {
			last := int64(0)
			for metric := range int64(90) {
				n, e := track.Want(desired, metric, target)
				if e != api.OK || metric == target && n != desired || n < last {
					t.Fatalf("Want(%d, %d, %d) = %d, %d, behind %d", desired, metric, target, n, int(e), last)
				}
				if n != 0 && desired*metric > target*n {
					t.Fatalf("Want(%d, %d, %d) = %d: the metric is above the target still", desired, metric, target, n)
				}
				last = n
			}
		}
	}
}
