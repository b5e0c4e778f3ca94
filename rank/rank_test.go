package rank_test

import (
	"cmp"
	"math"
	"slices"
	"testing"

	"cohort/api"
	"cohort/rank"
)

// three are the chapter's pools.
func three() (api.Config, []api.Quote) {
	c := api.Config{Spread: 1, Pools: []api.Pool{{Spot: true, Weight: 1, Priority: 2}, {Spot: true, Weight: 2, Priority: 1}, {Spot: true, Weight: 1, Priority: 1}}}
	return c, []api.Quote{{Price: 10, Score: 1}, {Price: 18, Score: 5}, {Price: 9, Score: 3}}
}

// P15.1

func TestCheaper(t *testing.T) {
	for _, c := range []struct {
		wa, wb, pa, pb int64
		want           int
	}{
		{1, 1, 5, 6, -1}, {1, 1, 6, 5, 1}, {1, 1, 5, 5, 0}, {2, 1, 18, 9, 0}, {2, 1, 17, 9, -1}, {2, 1, 19, 9, 1},
		{100, 1, api.MaxPrice, api.MaxPrice, -1}, {1, 100, api.MaxPrice, api.MaxPrice, 1}, {100, 100, api.MaxPrice, api.MaxPrice - 1, 1},
		{0, 1, 5, 6, 0}, {1, 0, 5, 6, 0}, {101, 1, 5, 6, 0}, {1, 101, 5, 6, 0}, {-1, 1, 5, 6, 0}, {math.MinInt64, 1, 5, 6, 0}, {math.MaxInt64, 1, 5, 6, 0},
		{1, 1, 0, 6, 0}, {1, 1, 5, 0, 0}, {1, 1, api.MaxPrice + 1, 6, 0}, {1, 1, 5, api.MaxPrice + 1, 0}, {1, 1, math.MinInt64, 6, 0}, {1, 1, 5, math.MaxInt64, 0},
	} {
		if n := rank.Cheaper(api.Pool{Weight: c.wa}, api.Pool{Weight: c.wb}, api.Quote{Price: c.pa}, api.Quote{Price: c.pb}); n != c.want {
			t.Errorf("Cheaper of %d by %d, %d by %d = %d", c.pa, c.wa, c.pb, c.wb, n)
		}
	}
}

func TestTheChaptersExample(t *testing.T) {
	c, q := three()
	for s := uint8(1); s <= 4; s++ {
		c.Strategy = s
		if l := rank.Order(c, q, true, 0); !slices.Equal(l, []int{1, 2, 0}) {
			t.Errorf("strategy %d: %d", s, l)
		}
	}
	c.Strategy, c.Spread = api.LowestPrice, 2
	if p, ok := rank.Pick(c, q, []int64{0, 3, 2}, true, 0); p != 2 || !ok {
		t.Errorf("Pick = %d, %t", p, ok)
	}
	if p, ok := rank.Pick(api.Config{Strategy: 1, Spread: 1}, nil, nil, true, 0); p != 0 || ok {
		t.Errorf("Pick of no pool = %d, %t", p, ok)
	}
}

func TestOrderByStrategy(t *testing.T) {
	c := api.Config{Pools: []api.Pool{
		{Spot: true, Weight: 1, Priority: 5}, {Weight: 1, Priority: 0}, {Spot: true, Weight: 4, Priority: 5}, {Spot: true, Weight: 2, Priority: 9}, {Spot: true, Weight: 2, Priority: 1}, {Spot: true, Weight: 1, Priority: 0},
	}}
	q := []api.Quote{{Price: 10, Score: 7}, {Price: 1, Score: 99}, {Price: 20, Score: 7}, {Price: 10, Score: 2}, {Price: 40, Score: 9}, {Price: 1, Score: 99, Until: 8}}
	// Prices of a weight: 10, 5, 5, 20; scores: 7, 7, 2, 9 (of the pools 0, 2, 3, 4).
	for _, x := range []struct {
		s    uint8
		want []int
	}{
		{api.Prioritized, []int{4, 0, 2, 3}},
		{api.LowestPrice, []int{2, 3, 0, 4}},
		{api.MostCapacity, []int{4, 2, 0, 3}},
		{api.PriceCapacity, []int{2, 4, 0, 3}}, // places 0+1, 3+0, 2+2, 1+3
	} {
		c.Strategy = x.s
		if l := rank.Order(c, q, true, 7); !slices.Equal(l, x.want) {
			t.Errorf("strategy %d: %d, want %d", x.s, l, x.want)
		}
		if p, ok := rank.Pick(c, q, nil, true, 7); p != x.want[0] || !ok {
			t.Errorf("strategy %d: Pick = %d", x.s, p)
		}
		if l := rank.Order(c, q, false, 7); !slices.Equal(l, []int{1}) {
			t.Errorf("strategy %d: %d on demand", x.s, l)
		}
		if l := rank.Order(c, q, true, 8); len(l) != 5 || !slices.Contains(l, 5) {
			t.Errorf("strategy %d: %d, where the refused one is open again", x.s, l)
		}
	}
}

func TestOrderOfNone(t *testing.T) {
	for i, do := range []func(c *api.Config, q []api.Quote){
		func(c *api.Config, q []api.Quote) { c.Strategy = 0 },
		func(c *api.Config, q []api.Quote) { c.Strategy = 5 },
		func(c *api.Config, q []api.Quote) { c.Strategy = 255 },
		func(c *api.Config, q []api.Quote) { c.Pools[0].Weight = 0 },
		func(c *api.Config, q []api.Quote) { c.Pools[2].Weight = 101 },
		func(c *api.Config, q []api.Quote) { c.Pools[2].Weight, q[2].Until = 0, 99 },
		func(c *api.Config, q []api.Quote) { q[1].Price = api.MaxPrice + 1 },
		func(c *api.Config, q []api.Quote) { c.Pools = nil },
		func(c *api.Config, q []api.Quote) { clear(q) },
	} {
		c, q := three()
		c.Strategy = api.LowestPrice
		do(&c, q)
		p, ok := rank.Pick(c, q, nil, true, 7)
		if l := rank.Order(c, q, true, 7); len(l) != 0 || p != 0 || ok {
			t.Errorf("%d: Order = %d, Pick = %d, %t", i, l, p, ok)
		}
	}
	c, q := three()
	c.Strategy = api.LowestPrice
	q[0].Price = api.MaxPrice
	if l := rank.Order(c, q, true, 7); !slices.Equal(l, []int{1, 2, 0}) {
		t.Errorf("Order of the greatest price = %d", l)
	}
	c.Pools, q = append(c.Pools, api.Pool{Weight: 1}), append(q, api.Quote{Price: api.MaxPrice + 1})
	if l := rank.Order(c, q, true, 7); len(l) != 0 {
		t.Errorf("Order where an open pool on demand has too great a price = %d", l)
	}
	q = q[:3]                                            // it was not told: not open
	q[1] = api.Quote{Price: api.MaxPrice + 1, Until: 99} // not open: not asked
	if l := rank.Order(c, q, true, 7); !slices.Equal(l, []int{2, 0}) {
		t.Errorf("Order = %d", l)
	}
}

func TestPickByLoad(t *testing.T) {
	c, q := three() // in the order 1 2 0
	c.Strategy = api.LowestPrice
	for i, x := range []struct {
		spread int64
		load   []int64
		want   int
	}{
		{1, []int64{0, 9, 0}, 1}, {2, []int64{0, 9, 9}, 1}, {2, []int64{0, 9, 8}, 2}, {3, []int64{0, 9, 8}, 0}, {3, []int64{8, 9, 8}, 2}, {3, nil, 1}, {3, []int64{5}, 1}, {3, []int64{5, 5}, 2}, {3, []int64{0, 5}, 2},
		{64, []int64{0, 9, 8}, 0}, {0, []int64{0, 9, 0}, 1}, {-1, []int64{0, 9, 0}, 1}, {math.MinInt64, []int64{0, 9, 0}, 1}, {math.MaxInt64, []int64{7, 9, 8, 1, 2}, 0},
	} {
		c.Spread = x.spread
		if p, ok := rank.Pick(c, q, x.load, true, 0); p != x.want || !ok {
			t.Errorf("%d: Pick = %d, %t", i, p, ok)
		}
	}
	c.Spread = 3
	for _, s := range []uint8{api.Prioritized, api.MostCapacity, api.PriceCapacity} {
		c.Strategy = s
		if p, ok := rank.Pick(c, q, []int64{0, 9, 8}, true, 0); p != 1 || !ok {
			t.Errorf("strategy %d: Pick = %d, %t", s, p, ok)
		}
	}
}

// P15.2

// fleet is a configuration with quotes, of a kind that seed tells.
func fleet(seed uint32) (api.Config, []api.Quote) {
	next := func(n uint32) int64 {
		seed = seed*1664525 + 1013904223
		return int64(seed >> 8 % n)
	}
	next(1)
	c := api.Config{Strategy: uint8(1 + seed>>16%4), Spread: 1}
	var q []api.Quote
	for range 1 + seed>>20%9 {
		c.Pools = append(c.Pools, api.Pool{Spot: next(3) > 0, Weight: 1 + next(4), Priority: next(3)})
		q = append(q, api.Quote{Price: next(7), Score: next(4), Until: uint64(next(12))})
	}
	return c, q
}

// least asks whether a stands ahead of b by the strategy, as the chapter says
// it: by the first that tells them apart.
func ahead(c api.Config, q []api.Quote, opens []int, a, b int) bool {
	price := func(a, b int) int { return cmp.Compare(q[a].Price*c.Pools[b].Weight, q[b].Price*c.Pools[a].Weight) }
	score := func(a, b int) int { return cmp.Compare(q[b].Score, q[a].Score) }
	place := func(x int, by ...func(a, b int) int) (n int) {
		for _, y := range opens {
			for i, f := range append(by, cmp.Compare[int]) {
				if k := f(y, x); k != 0 || i == len(by) {
					if k < 0 {
						n++
					}
					break
				}
			}
		}
		return n
	}
	var l []int
	switch c.Strategy {
	case api.Prioritized:
		l = []int{cmp.Compare(c.Pools[a].Priority, c.Pools[b].Priority)}
	case api.LowestPrice:
		l = []int{price(a, b)}
	case api.MostCapacity:
		l = []int{score(a, b), price(a, b)}
	case api.PriceCapacity:
		l = []int{cmp.Compare(place(a, price)+place(a, score, price), place(b, price)+place(b, score, price))}
	}
	return cmp.Or(append(l, cmp.Compare(a, b))...) < 0
}

func TestNoOpenPoolStandsAheadOfTheFirst(t *testing.T) {
	for seed := range uint32(5000) {
		c, q := fleet(seed)
		kept, pools := slices.Clone(q), slices.Clone(c.Pools)
		for _, spot := range []bool{true, false} {
			var opens []int
			for i := range q {
				if c.Pools[i].Spot == spot && q[i].Price > 0 && q[i].Until <= 6 {
					opens = append(opens, i)
				}
			}
			l := rank.Order(c, q, spot, 6)
			want := slices.Clone(opens)
			slices.SortFunc(want, func(a, b int) int {
				if ahead(c, q, opens, a, b) {
					return -1
				}
				return 1
			})
			if !slices.Equal(l, want) || !slices.Equal(q, kept) || !slices.Equal(c.Pools, pools) {
				t.Fatalf("seed %d: %d, want %d of %v, %v", seed, l, want, c, q)
			}
			c.Max, c.Warm, c.Spread, c.Drain = 77, 5, 9, 3 // nothing of that matters
			if !slices.Equal(rank.Order(c, q, spot, 6), l) {
				t.Fatalf("seed %d: the order hangs on more than the pools", seed)
			}
		}
	}
}
