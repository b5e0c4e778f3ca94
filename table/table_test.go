package table_test

import (
	"cmp"
	"maps"
	"math"
	"slices"
	"testing"

	"cohort/api"
	"cohort/table"
)

func is[T comparable](t *testing.T, what string, got, want T) {
	t.Helper()
	if got != want {
		t.Errorf("%s: %v, want %v", what, got, want)
	}
}

// P4.1

func TestNew(t *testing.T) {
	for _, most := range []int{0, -1, math.MinInt} {
		if table.New[int, string](most) != nil {
			t.Errorf("New(%d) is there", most)
		}
	}
	for _, most := range []int{1, 2, math.MaxInt} {
		x := table.New[int, string](most)
		if x == nil || x.Add(1, "a") != api.OK || x.Len() != 1 {
			t.Errorf("New(%d) takes nothing", most)
		}
	}
}

func TestAddSetDrop(t *testing.T) {
	x := table.New[int, string](2)
	is(t, "Drop of none", x.Drop(5), api.ErrNone)
	is(t, "Set of none", x.Set(5, "e"), api.ErrNone)
	is(t, "Add(5)", x.Add(5, "a"), api.OK)
	is(t, "Add(3)", x.Add(3, "b"), api.OK)
	is(t, "Add(5) again, where there is no room", x.Add(5, "c"), api.ErrTwice)
	is(t, "Add(9)", x.Add(9, "d"), api.ErrFull)
	is(t, "Set(5)", x.Set(5, "e"), api.OK)
	is(t, "Set(9)", x.Set(9, "f"), api.ErrNone)
	is(t, "Keys", slices.Equal(x.Keys(), []int{3, 5}), true)
	k, v, ok := x.First()
	is(t, "First", k == 3 && v == "b" && ok, true)
	is(t, "Drop(3)", x.Drop(3), api.OK)
	is(t, "Drop(3) again", x.Drop(3), api.ErrNone)
	v, ok = x.Get(5)
	is(t, "Get(5)", v == "e" && ok, true)
	is(t, "Add(9) where there is room again", x.Add(9, "d"), api.OK)
}

func TestNoTable(t *testing.T) {
	for _, x := range []*table.Table[string, int]{nil, {}} {
		is(t, "Add", x.Add("a", 1), api.ErrNil)
		is(t, "Set", x.Set("a", 1), api.ErrNil)
		is(t, "Drop", x.Drop("a"), api.ErrNil)
		is(t, "Len", x.Len(), 0)
		is(t, "Keys", len(x.Keys()), 0)
		is(t, "From", len(x.From("")), 0)
		n, ok := x.Get("a")
		is(t, "Get", n == 0 && !ok, true)
		k, n, ok := x.First()
		is(t, "First", k == "" && n == 0 && !ok, true)
	}
}

// P4.2

func TestGetLenKeysFirstFrom(t *testing.T) {
	x := table.New[string, int](10)
	_, _, ok := x.First()
	is(t, "First of none", ok, false)
	is(t, "Keys of none", len(x.Keys()), 0)
	is(t, "From of none", len(x.From("")), 0)
	for i, k := range []string{"m", "", "z", "b"} {
		is(t, "Add", x.Add(k, i), api.OK)
	}
	is(t, "Len", x.Len(), 4)
	n, ok := x.Get("z")
	is(t, "Get(z)", n == 2 && ok, true)
	n, ok = x.Get("y")
	is(t, "Get(y)", n == 0 && !ok, true)
	k, n, ok := x.First()
	is(t, "First", k == "" && n == 1 && ok, true)
	for _, c := range []struct {
		from string
		want []string
	}{{"", []string{"", "b", "m", "z"}}, {"a", []string{"b", "m", "z"}}, {"b", []string{"b", "m", "z"}}, {"c", []string{"m", "z"}}, {"z", []string{"z"}}, {"zz", nil}} {
		if l := x.From(c.from); !slices.Equal(l, c.want) {
			t.Errorf("From(%q) = %q, want %q", c.from, l, c.want)
		}
	}
}

func TestListsAreNewMemory(t *testing.T) {
	x := table.New[int, int](10)
	for i := range 5 {
		x.Add(i, i)
	}
	a, b := x.Keys(), x.From(2)
	a[0], b[0] = 77, 88
	_ = append(b[:1], 99)
	is(t, "Keys", slices.Equal(x.Keys(), []int{0, 1, 2, 3, 4}), true)
	is(t, "From", slices.Equal(x.From(2), []int{2, 3, 4}), true)
}

// P4.3

// model holds a table against a map: the same calls to both.
func model[K cmp.Ordered](t *testing.T, keys []K) {
	const most = 6
	x := table.New[K, int](most)
	m := map[K]int{}
	for i, seed := 0, uint32(1); i < 5000; i++ {
		seed = seed*1664525 + 1013904223
		k := keys[int(seed>>8)%len(keys)]
		_, there := m[k]
		var e, want api.Errno
		switch seed >> 29 {
		case 0, 1, 2:
			e = x.Add(k, i)
			if there {
				want = api.ErrTwice
			} else if len(m) == most {
				want = api.ErrFull
			} else {
				m[k] = i
			}
		case 3, 4:
			e = x.Set(k, i)
			if !there {
				want = api.ErrNone
			} else {
				m[k] = i
			}
		default:
			e = x.Drop(k)
			if !there {
				want = api.ErrNone
			}
			delete(m, k)
		}
		v, ok := x.Get(k)
		w, there := m[k]
		if e != want || v != w || ok != there || x.Len() != len(m) {
			t.Fatalf("call %d: error %d, want %d; %d %t, want %d %t; %d things, want %d", i, int(e), int(want), v, ok, w, there, x.Len(), len(m))
		}
		sorted := slices.Sorted(maps.Keys(m))
		at, _ := slices.BinarySearch(sorted, k)
		if !slices.Equal(x.Keys(), sorted) || !slices.Equal(x.From(k), sorted[at:]) {
			t.Fatalf("call %d: %v, from %v on %v, want %v", i, x.Keys(), k, x.From(k), sorted)
		}
		if a, b, ok := x.First(); ok != (len(m) > 0) || ok && (a != sorted[0] || b != m[a]) {
			t.Fatalf("call %d: the first is %v %v %t of %v", i, a, b, ok, m)
		}
	}
}

func TestTableIsAMapInOrder(t *testing.T) {
	model(t, []int{5, -3, 0, 9, math.MaxInt, math.MinInt, 7, 8, 1})
	model(t, []string{"", "a", "b", "aa", "\xff", "é", "zz"})
	model(t, []float64{0, -1, 1, math.Inf(1), math.Inf(-1), 0.5, 3, 1e300})
	model(t, []uint8{0, 255, 1, 2, 3, 128, 127})
}

func TestCallsEndOfNoNumbers(t *testing.T) {
	x := table.New[float64, int](3)
	nan := math.NaN()
	for range 5 {
		x.Add(nan, 1)
		x.Add(1, 1)
		x.Set(nan, 2)
		x.Get(nan)
		x.From(nan)
		x.Drop(nan)
	}
	is(t, "Len", x.Len() <= 3, true)
}
