package black_test

import (
	"math"
	"slices"
	"testing"

	"cohort/api"
	"cohort/black"
)

// two are the chapter's pools: 0 on demand, 1 spot.
func two() api.Config {
	return api.Config{Pools: []api.Pool{{Name: "d"}, {Name: "s", Spot: true}}, Fallback: true}
}

func told() []api.Quote { return []api.Quote{{Price: 5, Score: 5}, {Price: 5, Score: 5}} }

// P14.1

func TestIsOpen(t *testing.T) {
	q := []api.Quote{{Price: 1}, {Price: 0}, {Price: 5, Until: 9}, {Price: -3}, {Price: math.MaxInt64, Until: math.MaxUint64}}
	for _, c := range []struct {
		pool int
		now  uint64
		want bool
	}{
		{0, 0, true}, {0, 99, true}, {1, 99, false}, {2, 8, false}, {2, 9, true}, {2, 10, true}, {3, 9, false}, {4, 9, false}, {4, math.MaxUint64, true},
		{5, 9, false}, {-1, 9, false}, {math.MaxInt, 9, false}, {math.MinInt, 9, false},
	} {
		if got := black.IsOpen(q, c.pool, c.now); got != c.want {
			t.Errorf("IsOpen(%d, %d) = %t", c.pool, c.now, got)
		}
	}
	if black.IsOpen(nil, 0, 0) {
		t.Errorf("a pool of none is open")
	}
}

func TestRefuse(t *testing.T) {
	for _, c := range []struct {
		pool      int
		now, span uint64
		want      []uint64
	}{
		{1, 9, 10, []uint64{5, 19}}, {0, 9, 0, []uint64{9, 7}}, {0, 2, 3, []uint64{5, 7}}, {0, 1, 2, []uint64{5, 7}}, {1, 7, 0, []uint64{5, 7}},
		{2, 9, 9, []uint64{5, 7}}, {-1, 9, 9, []uint64{5, 7}}, {0, api.MaxTick, api.MaxSpan, []uint64{api.MaxTick + api.MaxSpan, 7}},
		{0, api.MaxTick + 1, 0, []uint64{5, 7}}, {0, 9, api.MaxSpan + 1, []uint64{5, 7}}, {0, math.MaxUint64, math.MaxUint64, []uint64{5, 7}},
	} {
		q := []api.Quote{{Price: 3, Score: 4, Until: 5}, {Price: 5, Score: 6, Until: 7}}
		l := black.Refuse(q, c.pool, c.now, c.span)
		want := []api.Quote{{Price: 3, Score: 4, Until: c.want[0]}, {Price: 5, Score: 6, Until: c.want[1]}}
		if !slices.Equal(l, want) || q[0].Until != 5 || q[1].Until != 7 {
			t.Errorf("Refuse(%d, %d, %d) = %v, of %v", c.pool, c.now, c.span, l, q)
		}
		l[0].Price = 99
		if q[0].Price != 3 {
			t.Errorf("Refuse(%d, %d, %d) shares memory", c.pool, c.now, c.span)
		}
	}
	if l := black.Refuse(nil, 0, 1, 1); len(l) != 0 {
		t.Errorf("Refuse of none = %v", l)
	}
}

func TestTell(t *testing.T) {
	for _, c := range []struct {
		pool         int
		price, score int64
		ok           bool
	}{
		{1, 1, 0, true}, {1, api.MaxPrice, api.MaxCap, true}, {1, 0, 5, false}, {1, -1, 5, false}, {1, api.MaxPrice + 1, 5, false}, {1, 5, -1, false}, {1, 5, api.MaxCap + 1, false}, {2, 5, 5, false}, {-1, 5, 5, false},
	} {
		q := []api.Quote{{Price: 3}, {Price: 4, Score: 4, Until: 7}}
		want := slices.Clone(q)
		if c.ok {
			want[1] = api.Quote{Price: c.price, Score: c.score, Until: 7}
		}
		l := black.Tell(q, c.pool, c.price, c.score)
		if !slices.Equal(l, want) || q[1].Price != 4 {
			t.Errorf("Tell(%d, %d, %d) = %v, of %v", c.pool, c.price, c.score, l, q)
		}
		l[0].Price = 99
		if q[0].Price != 3 {
			t.Errorf("Tell(%d, %d, %d) shares memory", c.pool, c.price, c.score)
		}
	}
}

// P14.2

func TestTheChaptersExample(t *testing.T) {
	q := told()
	r := black.Refuse(q, 1, 9, 10)
	isSpot, ok := black.Class(two(), r, true, 9)
	next, is := black.Next(r, 9)
	if !black.IsOpen(q, 1, 9) || r[1].Until != 19 || black.IsOpen(r, 1, 18) || !black.IsOpen(r, 1, 19) || len(black.Opens(two(), r, true, 9)) != 0 || isSpot || !ok || next != 19 || !is || black.IsOpen(q, 7, 9) {
		t.Errorf("%v, %t %t, %d %t", r, isSpot, ok, next, is)
	}
}

func TestOpens(t *testing.T) {
	c := api.Config{Pools: []api.Pool{{Spot: true}, {}, {Spot: true}, {Spot: true}, {}, {Spot: true}}}
	q := []api.Quote{{Price: 1}, {Price: 1}, {Price: 0}, {Price: 1, Until: 5}, {Price: 2}}
	for _, x := range []struct {
		spot bool
		now  uint64
		many int
		want []int
	}{{true, 4, 5, []int{0}}, {true, 5, 5, []int{0, 3}}, {false, 4, 5, []int{1, 4}}, {false, 4, 4, []int{1}}, {true, 5, 0, nil}} {
		if l := black.Opens(c, q[:x.many], x.spot, x.now); !slices.Equal(l, x.want) {
			t.Errorf("Opens(%t, %d) of %d = %d", x.spot, x.now, x.many, l)
		}
	}
	c.Pools = c.Pools[:1]
	if l := black.Opens(c, q, true, 9); !slices.Equal(l, []int{0}) {
		t.Errorf("Opens of one pool = %d", l)
	}
}

func TestClass(t *testing.T) {
	shut := []api.Quote{{Price: 5, Until: 50}, {Price: 5, Until: 50}}
	one := func(i int) []api.Quote {
		q := slices.Clone(shut)
		q[i].Until = 0
		return q
	}
	for i, x := range []struct {
		q                          []api.Quote
		fallback, spot, isSpot, ok bool
	}{
		{told(), true, true, true, true}, {told(), true, false, false, true}, {told(), false, true, true, true},
		{one(0), true, true, false, true}, {one(0), false, true, false, false}, {one(0), true, false, false, true}, {one(0), false, false, false, true},
		{one(1), true, true, true, true}, {one(1), true, false, false, false}, {one(1), false, false, false, false},
		{shut, true, true, false, false}, {shut, true, false, false, false}, {nil, true, true, false, false},
	} {
		c := two()
		c.Fallback = x.fallback
		if isSpot, ok := black.Class(c, x.q, x.spot, 9); isSpot != x.isSpot || ok != x.ok {
			t.Errorf("%d: Class = %t, %t", i, isSpot, ok)
		}
	}
}

func TestNext(t *testing.T) {
	q := []api.Quote{{Until: 7}, {Until: 3}, {Until: 7}, {Until: math.MaxUint64}}
	for _, x := range []struct {
		now, want uint64
		ok        bool
	}{{0, 3, true}, {2, 3, true}, {3, 7, true}, {7, math.MaxUint64, true}, {math.MaxUint64, 0, false}} {
		if n, ok := black.Next(q, x.now); n != x.want || ok != x.ok {
			t.Errorf("Next(%d) = %d, %t", x.now, n, ok)
		}
	}
	if n, ok := black.Next(nil, 0); n != 0 || ok {
		t.Errorf("Next of none = %d, %t", n, ok)
	}
}

// P14.3

func TestRefusedUntilItsSpanIsOver(t *testing.T) {
	for now := range uint64(20) {
		for span := range uint64(10) {
			q := black.Refuse(told(), 0, now, span)
			for tick := now; tick < now+15; tick++ {
				if black.IsOpen(q, 0, tick) != (tick >= now+span) || !black.IsOpen(q, 1, tick) {
					t.Fatalf("refused at %d for %d: at %d it is open: %t", now, span, tick, black.IsOpen(q, 0, tick))
				}
			}
			if later := black.Refuse(q, 0, now, 0); later[0].Until != q[0].Until {
				t.Fatalf("a shorter span shortens it: %v", later)
			}
		}
	}
}
