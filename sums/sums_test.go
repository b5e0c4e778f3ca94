package sums_test

import (
	"math"
	"slices"
	"testing"

	"cohort/api"
	"cohort/sums"
)

func one(id uint64, state uint8, weight int64, spot bool) api.Inst {
	return api.Inst{Id: id, Pool: int(id % 4), Weight: weight, Spot: spot, State: state, Version: uint32(id%3) + 1}
}

func launch(weight int64, spot, warm bool, pool int, version uint32) api.Open {
	return api.Open{R: api.Request{Kind: api.AskLaunch, Token: 1, Pool: pool, Warm: warm}, Weight: weight, Spot: spot, Version: version}
}

// many are n instances that serve, of the weight 1.
func many(n int) []api.Inst {
	var l []api.Inst
	for i := range n {
		l = append(l, one(uint64(2*i+2), api.Serving, 1, false))
	}
	return l
}

// odd are instances that may not be.
func odd() [][]api.Inst {
	a, b := one(1, api.Serving, 1, false), one(2, api.Serving, 1, false)
	bad := a
	bad.Weight = 0
	return [][]api.Inst{{b, a}, {a, a}, {bad}, {b, bad}, {api.Inst{}}, many(api.MaxInst + 1)}
}

// P17.1

func TestMay(t *testing.T) {
	for i, l := range odd() {
		if sums.May(l) {
			t.Errorf("%d: they may be", i)
		}
	}
	for i, l := range [][]api.Inst{nil, {}, many(1), many(2), many(api.MaxInst)} {
		if !sums.May(l) {
			t.Errorf("%d: they may not be", i)
		}
	}
}

func TestFindAddSetDrop(t *testing.T) {
	l := many(3) // 2 4 6
	kept := slices.Clone(l)
	for id := range uint64(9) {
		there := id == 2 || id == 4 || id == 6
		i, ok := sums.Find(l, id)
		if ok != there || there && i != l[id/2-1] || !there && i != (api.Inst{}) {
			t.Errorf("Find(%d) = %v, %t", id, i, ok)
		}
		x := one(id, api.Hooked, 9, true)
		more, e := sums.Add(l, x)
		set, f := sums.Set(l, x)
		less, g := sums.Drop(l, id)
		switch {
		case id == 0:
			if e != api.ErrArg || f != api.ErrArg || g != api.ErrNone || more != nil || set != nil || less != nil {
				t.Errorf("of the Id 0: %d, %d, %d", int(e), int(f), int(g))
			}
		case there:
			at := int(id/2 - 1)
			want := slices.Clone(l)
			want[at] = x
			if e != api.ErrTwice || more != nil || f != api.OK || !slices.Equal(set, want) || g != api.OK || !slices.Equal(less, slices.Delete(want, at, at+1)) {
				t.Errorf("of %d: Add %d, Set %v, %d, Drop %v, %d", id, int(e), set, int(f), less, int(g))
			}
		default:
			want := append(slices.Clone(l), x)
			slices.SortFunc(want, func(a, b api.Inst) int { return int(a.Id) - int(b.Id) })
			if e != api.OK || !slices.Equal(more, want) || f != api.ErrNone || set != nil || g != api.ErrNone || less != nil {
				t.Errorf("of %d: Add %v, %d, Set %d, Drop %d", id, more, int(e), int(f), int(g))
			}
		}
	}
	if !slices.Equal(l, kept) {
		t.Errorf("what was handed in changed: %v", l)
	}
	if _, ok := sums.Find(nil, 1); ok {
		t.Errorf("Find in none")
	}
}

func TestFullAndWhatMayNotBe(t *testing.T) {
	full := many(api.MaxInst)
	if l, e := sums.Add(full, one(3, api.Serving, 1, false)); l != nil || e != api.ErrFull {
		t.Errorf("Add to all that may be: %d", int(e))
	}
	if l, e := sums.Add(full, one(2, api.Serving, 1, false)); l != nil || e != api.ErrTwice {
		t.Errorf("Add of one that is there to all that may be: %d", int(e))
	}
	if l, e := sums.Add(full[:len(full)-1], one(3, api.Serving, 1, false)); len(l) != api.MaxInst || e != api.OK {
		t.Errorf("Add to all but one: %d", int(e))
	}
	bad := one(3, 0, 1, false)
	if _, e := sums.Add(full, bad); e != api.ErrArg {
		t.Errorf("Add of what may not be to all that may be: %d", int(e))
	}
	if _, e := sums.Set(full, bad); e != api.ErrArg {
		t.Errorf("Set of what may not be: %d", int(e))
	}
	for i, l := range odd() {
		_, ok := sums.Find(l, 2)
		_, e := sums.Add(l, one(9999, api.Serving, 1, false))
		_, f := sums.Set(l, one(2, api.Serving, 1, false))
		_, g := sums.Drop(l, 2)
		if ok || e != api.ErrArg || f != api.ErrArg || g != api.ErrArg || sums.Of(l, nil, 0) != (api.Sum{}) || sums.Load(l, nil, 1, 4) != nil {
			t.Errorf("%d: %t, %d, %d, %d", i, ok, int(e), int(f), int(g))
		}
	}
}

func TestListsAreNewMemory(t *testing.T) {
	room := many(5)
	l := room[:3]
	a, _ := sums.Add(l, one(9, api.Serving, 1, false))
	b, _ := sums.Set(l, one(2, api.Warm, 1, false))
	c, _ := sums.Drop(l, 6)
	for _, x := range [][]api.Inst{a, b, c} {
		_ = append(x, api.Inst{})
		clear(x)
	}
	if !slices.Equal(room, many(5)) {
		t.Errorf("memory is shared: %v", room)
	}
}

// P17.2

func TestTheChaptersExample(t *testing.T) {
	l := []api.Inst{one(1, api.Serving, 2, false), one(2, api.Pending, 3, true)}
	s := sums.Of(l, []api.Open{launch(1, false, false, 0, 1)}, 0)
	if s != (api.Sum{Live: 2, Coming: 4, LiveDemand: 2, ComingDemand: 1, Many: 3}) {
		t.Errorf("Of = %v", s)
	}
	if _, e := sums.Add(l, l[1]); e != api.ErrTwice {
		t.Errorf("Add(2): %d", int(e))
	}
	if _, e := sums.Drop(l, 7); e != api.ErrNone {
		t.Errorf("Drop(7): %d", int(e))
	}
	if i, _ := sums.Find(l, 2); i.Weight != 3 {
		t.Errorf("Find(2): %v", i)
	}
}

func TestOfEachState(t *testing.T) {
	for state := uint8(1); state <= 9; state++ {
		for _, spot := range []bool{false, true} {
			want := api.Sum{Many: 1}
			switch state {
			case api.Serving:
				want.Live = 7
			case api.Pending, api.Hooked, api.Waking:
				want.Coming = 7
			case api.Warming, api.Warm:
				want.Warm = 7
			}
			if !spot {
				want.LiveDemand, want.ComingDemand = want.Live, want.Coming
			}
			if s := sums.Of([]api.Inst{one(1, state, 7, spot)}, nil, 0); s != want {
				t.Errorf("state %d, spot %t: %v, want %v", state, spot, s, want)
			}
			load := make([]int64, 4)
			load[1] = want.Live + want.Coming
			if l := sums.Load([]api.Inst{one(1, state, 7, spot)}, nil, 2, 4); !slices.Equal(l, load) {
				t.Errorf("state %d, spot %t: Load %d, want %d", state, spot, l, load)
			}
		}
	}
}

func TestOfOpens(t *testing.T) {
	other := launch(5, false, false, 0, 1)
	other.R.Kind = api.AskEnd
	o := []api.Open{
		launch(1, false, false, 0, 1), launch(2, true, false, 1, 2), launch(4, false, true, 1, 2), launch(8, true, true, 3, 1), other,
		launch(0, false, false, 0, 1), launch(101, false, false, 0, 1), launch(-1, false, true, 0, 1), launch(math.MinInt64, false, true, 0, 1), launch(math.MaxInt64, false, true, 0, 1),
		launch(16, false, false, -1, 0), launch(32, false, false, 99, 1),
	}
	for version, want := range map[uint32]api.Sum{
		0: {Coming: 51, ComingDemand: 49, Warm: 12, Many: 6}, 1: {Coming: 33, ComingDemand: 33, Warm: 8, Many: 3}, 2: {Coming: 2, Warm: 4, Many: 2}, 3: {},
	} {
		if s := sums.Of(nil, o, version); s != want {
			t.Errorf("version %d: %v, want %v", version, s, want)
		}
	}
	for version, want := range map[uint32][]int64{0: {0, 0, 0, 0}, 1: {1, 0, 0, 8}, 2: {0, 6, 0, 0}} {
		if l := sums.Load(nil, o, version, 4); !slices.Equal(l, want) {
			t.Errorf("version %d: Load %d, want %d", version, l, want)
		}
	}
	for _, pools := range []int{0, -1, 65, math.MaxInt, math.MinInt} {
		if l := sums.Load(nil, o, 1, pools); l != nil {
			t.Errorf("%d pools: %d", pools, l)
		}
	}
	if l := sums.Load(nil, o, 1, 64); len(l) != 64 || l[3] != 8 {
		t.Errorf("64 pools: %d", l)
	}
	if l := sums.Load(nil, o, 1, 1); !slices.Equal(l, []int64{1}) {
		t.Errorf("one pool: %d", l)
	}
}

func TestTheGreatestWeightAndTheLastPool(t *testing.T) {
	o := []api.Open{launch(api.MaxWeight, true, false, 3, 1), launch(1, true, false, 4, 1)}
	if s := sums.Of(nil, o, 0); s != (api.Sum{Coming: api.MaxWeight + 1, Many: 2}) {
		t.Errorf("Of = %v", s)
	}
	if l := sums.Load(nil, o, 1, 4); !slices.Equal(l, []int64{0, 0, 0, api.MaxWeight}) {
		t.Errorf("Load = %d", l)
	}
}

func TestOnlyTheFirstLaunchesCount(t *testing.T) {
	o := slices.Repeat([]api.Open{launch(1, true, false, 0, 1)}, api.MaxInst)
	o = append(o, launch(50, true, false, 0, 1), launch(50, true, true, 0, 2))
	if s := sums.Of(nil, o, 0); s != (api.Sum{Coming: api.MaxInst, Many: api.MaxInst}) {
		t.Errorf("Of = %v", s)
	}
	if s := sums.Of(nil, o, 2); s != (api.Sum{}) {
		t.Errorf("Of the version 2 = %v", s)
	}
	if l := sums.Load(nil, o, 1, 1); !slices.Equal(l, []int64{api.MaxInst}) {
		t.Errorf("Load = %d", l)
	}
}

func TestVersionNoughtOfLoad(t *testing.T) {
	i := one(1, api.Serving, 7, true)
	j := one(2, api.Serving, 5, true)
	i.Version, i.Pool, j.Pool = 0, 0, 0
	if l := sums.Load([]api.Inst{i, j}, nil, 0, 1); !slices.Equal(l, []int64{7}) {
		t.Errorf("Load of the version 0 = %d", l)
	}
}

// P17.3

func TestAllVersionsAreTheSum(t *testing.T) {
	seed := uint32(1)
	next := func(n uint32) uint32 {
		seed = seed*1664525 + 1013904223
		return seed >> 8 % n
	}
	for range 500 {
		var l []api.Inst
		for id := range uint64(next(12)) {
			l = append(l, api.Inst{Id: id + 1, Weight: 1 + int64(next(100)), Spot: next(2) == 0, State: uint8(1 + next(9)), Version: 1 + next(4)})
		}
		var o []api.Open
		for range next(12) {
			o = append(o, launch(int64(next(103)), next(2) == 0, next(2) == 0, 0, 1+next(4)))
		}
		var sum api.Sum
		for v := uint32(1); v <= 4; v++ {
			s := sums.Of(l, o, v)
			sum.Live += s.Live
			sum.LiveDemand += s.LiveDemand
			sum.Coming += s.Coming
			sum.ComingDemand += s.ComingDemand
			sum.Warm += s.Warm
			sum.Many += s.Many
		}
		if all := sums.Of(l, o, 0); all != sum {
			t.Fatalf("of all %v, of each %v", all, sum)
		}
	}
}
