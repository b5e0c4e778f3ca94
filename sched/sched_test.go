package sched_test

import (
	"math"
	"slices"
	"testing"

	"cohort/api"
	"cohort/sched"
)

func plan(at, each uint64, desired int64) api.Plan {
	return api.Plan{At: at, Each: each, Desired: desired}
}

// two are the chapter's plans.
func two() []api.Plan { return []api.Plan{plan(5, 10, 3), plan(7, 0, 9)} }

// odd are plans that Begin tells none of, at the tick 3.
func odd() [][]api.Plan {
	return [][]api.Plan{make([]api.Plan, 17), {plan(api.MaxTick+1, 0, 1)}, {plan(1, api.MaxSpan+1, 1)}, {plan(5, 1, 1), plan(math.MaxUint64, math.MaxUint64, 1)}}
}

// P23.1

func TestBegin(t *testing.T) {
	for _, c := range []struct {
		l    []api.Plan
		now  uint64
		want []uint64
	}{
		{two(), 0, []uint64{5, 7}}, {two(), 5, []uint64{15, 7}}, {two(), 7, []uint64{15, 0}}, {two(), 14, []uint64{15, 0}}, {two(), 15, []uint64{25, 0}}, {two(), 4, []uint64{5, 7}}, {nil, 5, nil},
		{[]api.Plan{plan(0, 0, 1), plan(0, 1, 1), plan(0, api.MaxSpan, 1)}, 0, []uint64{0, 1, api.MaxSpan}},
		{[]api.Plan{plan(0, 1, 1), plan(api.MaxTick, 1, 1), plan(api.MaxTick-5, 3, 1)}, api.MaxTick - 1, []uint64{api.MaxTick, api.MaxTick, 0}},
		{[]api.Plan{plan(0, 1, 1), plan(api.MaxTick, 1, 1)}, api.MaxTick, []uint64{0, 0}},
		{[]api.Plan{plan(5, 0, -7), plan(5, 0, math.MaxInt64)}, 3, []uint64{5, 5}}, {make([]api.Plan, 16), 3, make([]uint64, 16)},
		{two(), api.MaxTick + 1, nil}, {two(), math.MaxUint64, nil},
	} {
		if l := sched.Begin(c.l, c.now); !slices.Equal(l, c.want) {
			t.Errorf("Begin(%v, %d) = %d, want %d", c.l, c.now, l, c.want)
		}
	}
	for i, l := range odd() {
		if n := sched.Begin(l, 3); n != nil {
			t.Errorf("%d: Begin = %d", i, n)
		}
	}
}

// P23.2

func TestDue(t *testing.T) {
	for _, c := range []struct {
		l       []api.Plan
		next    []uint64
		now     uint64
		desired int64
		is      bool
		after   []uint64
	}{
		{two(), []uint64{5, 7}, 4, 0, false, []uint64{5, 7}}, {two(), []uint64{5, 7}, 5, 3, true, []uint64{15, 7}}, {two(), []uint64{5, 7}, 7, 9, true, []uint64{15, 0}}, {two(), []uint64{15, 0}, 100, 3, true, []uint64{105, 0}},
		{two(), []uint64{0, 0}, 100, 0, false, []uint64{0, 0}}, {two(), []uint64{99, 0}, 98, 0, false, []uint64{99, 0}}, {two(), []uint64{math.MaxUint64, 7}, 7, 9, true, []uint64{math.MaxUint64, 0}},
		{two(), []uint64{2, 2}, 3, 9, true, []uint64{5, 7}}, {[]api.Plan{plan(7, 0, 9), plan(5, 10, 3)}, []uint64{7, 5}, 7, 3, true, []uint64{0, 15}},
		{two(), []uint64{api.MaxTick, 0}, api.MaxTick, 3, true, []uint64{0, 0}}, {[]api.Plan{plan(1, 0, -4)}, []uint64{1}, 1, -4, true, []uint64{0}},
		{nil, nil, 5, 0, false, nil},
		{two(), []uint64{5}, 7, 0, false, []uint64{5}}, {two(), nil, 7, 0, false, nil}, {two(), []uint64{5, 7, 9}, 10, 0, false, []uint64{5, 7, 9}}, {nil, []uint64{5}, 7, 0, false, []uint64{5}},
		{two(), []uint64{5, 7}, api.MaxTick + 1, 0, false, []uint64{5, 7}},
	} {
		kept := slices.Clone(c.next)
		desired, is, after := sched.Due(c.l, c.next, c.now)
		if desired != c.desired || is != c.is || !slices.Equal(after, c.after) || !slices.Equal(kept, c.next) {
			t.Errorf("Due(%v, %d, %d) = %d, %t, %d", c.l, c.next, c.now, desired, is, after)
		}
		if len(after) > 0 {
			after[0] = 77
			if !slices.Equal(kept, c.next) {
				t.Errorf("Due(%v, %d, %d) shares memory", c.l, c.next, c.now)
			}
		}
	}
	for i, l := range odd() {
		next := slices.Repeat([]uint64{1}, len(l))
		if desired, is, after := sched.Due(l, next, 3); desired != 0 || is || !slices.Equal(after, next) {
			t.Errorf("%d: Due = %d, %t, %d", i, desired, is, after)
		}
	}
}

// P23.3

func TestTickByTick(t *testing.T) {
	for at := range uint64(12) {
		for each := range uint64(6) {
			l := []api.Plan{plan(at, each, 4)}
			for step := uint64(1); step < 4; step++ {
				next := sched.Begin(l, 2)
				for now := uint64(2); now < 60; now += step {
					want := false // is there a tick of the plan behind the one ahead?
					for tick := now - step + 1; tick <= now; tick++ {
						want = want || tick > 2 && tick >= at && (tick == at || each > 0 && (tick-at)%each == 0)
					}
					_, is, after := sched.Due(l, next, now)
					if is != want || after[0] != 0 && after[0] <= now || each == 0 && is && after[0] != 0 {
						t.Fatalf("at %d, each %d, by %d: at the tick %d it is %t, next %d", at, each, step, now, is, after[0])
					}
					next = after
				}
			}
		}
	}
}
