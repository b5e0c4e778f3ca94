package wheel_test

import (
	"math"
	"slices"
	"testing"

	"cohort/api"
	"cohort/wheel"
)

func is[T comparable](t *testing.T, what string, got, want T) {
	t.Helper()
	if got != want {
		t.Errorf("%s: %v, want %v", what, got, want)
	}
}

// P5.1

func TestNew(t *testing.T) {
	for _, most := range []int{0, -1, math.MinInt} {
		if wheel.New[string](most) != nil {
			t.Errorf("New(%d) is there", most)
		}
	}
	one := wheel.New[string](1)
	is(t, "Set in a wheel of one", one.Set("a", 1), api.OK)
	is(t, "Set of a second", one.Set("b", 1), api.ErrFull)
	if w := wheel.New[string](math.MaxInt); w == nil || w.Set("a", 1) != api.OK {
		t.Errorf("New of the most takes nothing")
	}
}

func TestSetStop(t *testing.T) {
	w := wheel.New[string](2)
	is(t, "Stop of none", w.Stop("a"), api.ErrNone)
	is(t, "Set(a, 5)", w.Set("a", 5), api.OK)
	is(t, "Set(b, 5)", w.Set("b", 5), api.OK)
	is(t, "Set(c, 1)", w.Set("c", 1), api.ErrFull)
	is(t, "Set(c) beyond all ticks, where there is no room", w.Set("c", api.MaxTick+1), api.ErrArg)
	is(t, "Set(a) beyond all ticks", w.Set("a", math.MaxUint64), api.ErrArg)
	is(t, "Set(a, 5) again", w.Set("a", 5), api.OK)
	n, ok := w.Next()
	is(t, "Next", n == 5 && ok, true)
	is(t, "Turn(4)", len(w.Turn(4)), 0)
	is(t, "Turn(5)", slices.Equal(w.Turn(5), []string{"b", "a"}), true)
	is(t, "Len", w.Len(), 0)
	is(t, "Stop(a)", w.Stop("a"), api.ErrNone)
	is(t, "Set at the last tick", w.Set("a", api.MaxTick), api.OK)
	is(t, "Stop", w.Stop("a"), api.OK)
	is(t, "Stop again", w.Stop("a"), api.ErrNone)
	_, ok = w.When("a")
	is(t, "When of what was stopped", ok, false)
}

func TestNoWheel(t *testing.T) {
	for _, w := range []*wheel.Wheel[int]{nil, {}} {
		is(t, "Set", w.Set(1, api.MaxTick+1), api.ErrNil)
		is(t, "Stop", w.Stop(1), api.ErrNil)
		n, ok := w.When(1)
		is(t, "When", n == 0 && !ok, true)
		n, ok = w.Next()
		is(t, "Next", n == 0 && !ok, true)
		is(t, "Turn", len(w.Turn(9)), 0)
		is(t, "Len", w.Len(), 0)
	}
}

// P5.2

func TestWhenTurnNextLen(t *testing.T) {
	w := wheel.New[int](10)
	n, ok := w.Next()
	is(t, "Next of none", n == 0 && !ok, true)
	for i, at := range []uint64{7, 3, 7, 0, 3, api.MaxTick} {
		is(t, "Set", w.Set(i, at), api.OK)
	}
	is(t, "Len", w.Len(), 6)
	n, ok = w.When(2)
	is(t, "When(2)", n == 7 && ok, true)
	n, ok = w.When(3)
	is(t, "When(3)", n == 0 && ok, true)
	n, ok = w.When(9)
	is(t, "When(9)", n == 0 && !ok, true)
	n, ok = w.Next()
	is(t, "Next", n == 0 && ok, true)
	is(t, "Turn(3)", slices.Equal(w.Turn(3), []int{3, 1, 4}), true)
	is(t, "Turn(3) again", len(w.Turn(3)), 0)
	_, ok = w.When(4)
	is(t, "When of what was told", ok, false)
	is(t, "Turn of all", slices.Equal(w.Turn(math.MaxUint64), []int{0, 2, 5}), true)
	is(t, "Len", w.Len(), 0)
}

func TestTurnTellsNewMemory(t *testing.T) {
	w := wheel.New[int](10)
	for i := range 6 {
		w.Set(i, uint64(i))
	}
	l := w.Turn(2)
	_ = append(l, 99, 98)
	l[0] = 97
	is(t, "what stays", slices.Equal(w.Turn(9), []int{3, 4, 5}), true)
}

func TestOddThings(t *testing.T) {
	w := wheel.New[float64](2)
	nan := math.NaN()
	is(t, "Set of no number", w.Set(nan, 1), api.OK)
	is(t, "Set of no number, none like the other", w.Set(nan, 2), api.OK)
	is(t, "Set of a third", w.Set(nan, 2), api.ErrFull)
	is(t, "Stop", w.Stop(nan), api.ErrNone)
	is(t, "Turn", len(w.Turn(2)), 2)
	is(t, "Set behind", w.Set(nan, 2), api.OK)
	v := wheel.New[any](2)
	is(t, "Set of a list", v.Set([]int{1}, 1), api.ErrArg)
	is(t, "Set of a text", v.Set("a", 1), api.OK)
	is(t, "Stop of a list", v.Stop([]int{1}), api.ErrNone)
	_, ok := v.When(map[int]int{})
	is(t, "When of a map", ok, false)
	is(t, "Len", v.Len(), 1)
}

// P5.3

// kept is a wheel as a list that is gone through for each call.
type kept struct {
	x, at, turn int
}

func TestWheelAsAList(t *testing.T) {
	const most = 5
	w := wheel.New[int](most)
	var l []kept
	for i, seed, now := 0, uint32(1), 0; i < 20000; i++ {
		seed = seed*1664525 + 1013904223
		x, at := int(seed>>8)%8, now+int(seed>>16)%6
		where := slices.IndexFunc(l, func(k kept) bool { return k.x == x })
		switch seed >> 29 {
		case 0, 1, 2, 3:
			want := api.OK
			if where < 0 && len(l) == most {
				want = api.ErrFull
			} else {
				if where >= 0 {
					l = slices.Delete(l, where, where+1)
				}
				l = append(l, kept{x, at, i})
			}
			is(t, "Set", w.Set(x, uint64(at)), want)
		case 4:
			want := api.ErrNone
			if where >= 0 {
				want = api.OK
				l = slices.Delete(l, where, where+1)
			}
			is(t, "Stop", w.Stop(x), want)
		default:
			now += int(seed>>20) % 3
			slices.SortStableFunc(l, func(a, b kept) int { return a.at - b.at })
			var want []int
			for len(l) > 0 && l[0].at <= now {
				want = append(want, l[0].x)
				l = l[1:]
			}
			slices.SortFunc(l, func(a, b kept) int { return a.turn - b.turn })
			if got := w.Turn(uint64(now)); !slices.Equal(got, want) {
				t.Fatalf("call %d: Turn(%d) = %d, want %d", i, now, got, want)
			}
		}
		least, many := math.MaxInt, 0
		for _, k := range l {
			least, many = min(least, k.at), many+1
			if at, ok := w.When(k.x); !ok || at != uint64(k.at) {
				t.Fatalf("call %d: When(%d) = %d, want %d", i, k.x, at, k.at)
			}
		}
		if n, ok := w.Next(); w.Len() != many || ok != (many > 0) || ok && n != uint64(least) {
			t.Fatalf("call %d: Next %d %t, %d things", i, n, ok, w.Len())
		}
	}
}

func TestTurnInTwo(t *testing.T) {
	for first := range uint64(12) {
		a, b := wheel.New[int](100), wheel.New[int](100)
		for i := range 60 {
			at := uint64(i*i%10 + i%3)
			a.Set(i%40, at)
			b.Set(i%40, at)
		}
		early := a.Turn(first)
		for _, x := range early {
			if at, _ := b.When(x); at > first {
				t.Errorf("%d is told at %d, ahead of %d", x, first, at)
			}
		}
		if l := append(early, a.Turn(20)...); !slices.Equal(l, b.Turn(20)) || len(l) != 40 {
			t.Errorf("in two at %d: %d", first, l)
		}
	}
}
