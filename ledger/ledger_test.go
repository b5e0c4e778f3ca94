package ledger_test

import (
	"math"
	"slices"
	"testing"

	"cohort/api"
	"cohort/ledger"
)

func launch(token uint64) api.Open {
	return api.Open{R: api.Request{Kind: api.AskLaunch, Token: token}, Weight: 1}
}

func about(kind uint8, token, id uint64) api.Open {
	return api.Open{R: api.Request{Kind: kind, Token: token, Id: id}}
}

func launches(n int) []api.Open {
	var l []api.Open
	for i := range n {
		l = append(l, launch(uint64(i+1)))
	}
	return l
}

// changed is a launch, or an AskEnd, that was changed.
func changed(o api.Open, do func(o *api.Open)) api.Open {
	do(&o)
	return o
}

// odd are requests that may not be.
func odd() []api.Open {
	a, b := launch(1), about(api.AskEnd, 1, 9)
	return []api.Open{
		{}, changed(a, func(o *api.Open) { o.R.Kind = 0 }), changed(a, func(o *api.Open) { o.R.Kind = 5 }), changed(b, func(o *api.Open) { o.R.Kind = 255 }),
		changed(a, func(o *api.Open) { o.R.Id = 1 }), changed(a, func(o *api.Open) { o.Weight = 0 }), changed(a, func(o *api.Open) { o.Weight = 101 }), changed(a, func(o *api.Open) { o.Weight = math.MinInt64 }),
		changed(a, func(o *api.Open) { o.R.Pool = -1 }), changed(a, func(o *api.Open) { o.R.Pool = 64 }),
		changed(b, func(o *api.Open) { o.R.Id = 0 }), changed(b, func(o *api.Open) { o.Weight = 1 }), changed(b, func(o *api.Open) { o.R.Pool = 1 }), changed(b, func(o *api.Open) { o.R.Warm = true }),
		changed(b, func(o *api.Open) { o.Spot = true }), changed(b, func(o *api.Open) { o.Version = 1 }), changed(b, func(o *api.Open) { o.R.Kind, o.Weight = api.AskStart, -1 }),
	}
}

// good are requests that may be.
func good() []api.Open {
	return []api.Open{
		launch(1), {R: api.Request{Kind: api.AskLaunch, Token: 1, Pool: 63, Warm: true}, Weight: 100, Spot: true, Version: 7, Since: math.MaxUint64},
		about(api.AskEnd, 1, 1), about(api.AskStop, 1, math.MaxUint64), about(api.AskStart, 1, 5), changed(about(api.AskEnd, 1, 1), func(o *api.Open) { o.Since = 5 }),
	}
}

func TestMay(t *testing.T) {
	for _, o := range good() {
		if !ledger.May([]api.Open{o}, 1) {
			t.Errorf("%v may not be", o)
		}
	}
	for _, o := range odd() {
		if o.R.Token = 1; ledger.May([]api.Open{o}, 1) {
			t.Errorf("%v may be", o)
		}
	}
	for i, x := range []struct {
		l    []api.Open
		last uint64
		want bool
	}{
		{nil, 0, true}, {[]api.Open{}, math.MaxUint64, true}, {[]api.Open{launch(5)}, 5, true}, {[]api.Open{launch(5)}, 4, false}, {[]api.Open{launch(0)}, 5, false},
		{[]api.Open{launch(1), launch(2), launch(9)}, 9, true}, {[]api.Open{launch(2), launch(1)}, 9, false}, {[]api.Open{launch(2), launch(2)}, 9, false},
		{launches(api.MaxInst), 5000, true}, {launches(api.MaxInst + 1), 5000, false}, {append(launches(api.MaxInst), about(api.AskEnd, 5000, 1)), 5000, true},
		{[]api.Open{about(api.AskEnd, 1, 7), about(api.AskStop, 2, 7), about(api.AskEnd, 3, 8)}, 9, true}, {[]api.Open{about(api.AskEnd, 1, 7), about(api.AskStart, 2, 7)}, 9, true},
		{[]api.Open{about(api.AskEnd, 1, 7), about(api.AskEnd, 2, 7)}, 9, false}, {[]api.Open{about(api.AskStop, 1, 7), about(api.AskStart, 2, 7)}, 9, false}, {[]api.Open{about(api.AskStop, 1, 7), about(api.AskStop, 2, 7)}, 9, false}, {[]api.Open{about(api.AskStart, 1, 7), about(api.AskStart, 2, 7)}, 9, false},
	} {
		if ledger.May(x.l, x.last) != x.want {
			t.Errorf("%d: May is %t", i, !x.want)
		}
	}
}

// P18.1

func TestTheChaptersExample(t *testing.T) {
	o := launch(0)
	o.Since = 7
	l, token, e := ledger.Ask(nil, 4, o)
	if token != 5 || e != api.OK {
		t.Fatalf("Ask = %d, %d", token, int(e))
	}
	x := about(api.AskEnd, 0, 9)
	x.Since = 7
	l, token, e = ledger.Ask(l, 5, x)
	if token != 6 || e != api.OK {
		t.Fatalf("Ask = %d, %d", token, int(e))
	}
	if _, _, e := ledger.Ask(l, 6, x); e != api.ErrTwice {
		t.Errorf("Ask again = %d", int(e))
	}
	if late := ledger.Late(l, 10, 3); !slices.Equal(late, []uint64{5, 6}) {
		t.Errorf("Late = %d", late)
	}
	l, e = ledger.Close(l, 5)
	if e != api.OK || len(l) != 1 {
		t.Errorf("Close = %v, %d", l, int(e))
	}
	if _, e := ledger.Close(l, 5); e != api.ErrNone {
		t.Errorf("Close again = %d", int(e))
	}
}

func TestAsk(t *testing.T) {
	for _, o := range good() {
		o.R.Token = 77 // not asked
		l, token, e := ledger.Ask([]api.Open{launch(2)}, 3, o)
		o.R.Token = 4
		if e != api.OK || token != 4 || !slices.Equal(l, []api.Open{launch(2), o}) {
			t.Errorf("Ask(%v) = %v, %d, %d", o, l, token, int(e))
		}
	}
	for _, o := range odd() {
		if l, token, e := ledger.Ask(nil, 3, o); l != nil || token != 0 || e != api.ErrArg {
			t.Errorf("Ask(%v) = %v, %d, %d", o, l, token, int(e))
		}
	}
	most := uint64(1 << 62)
	full := launches(api.MaxInst)
	ends := []api.Open{about(api.AskEnd, 1, 7), about(api.AskStop, 2, 7), about(api.AskStart, 3, 8)}
	for i, x := range []struct {
		l    []api.Open
		last uint64
		o    api.Open
		e    api.Errno
	}{
		{nil, most - 1, launch(0), 0}, {nil, most, launch(0), api.ErrArg}, {nil, math.MaxUint64, launch(0), api.ErrArg}, {[]api.Open{launch(4)}, 3, launch(0), api.ErrArg}, {[]api.Open{launch(2), launch(1)}, 3, launch(0), api.ErrArg},
		{full, 5000, launch(0), api.ErrFull}, {full, 5000, about(api.AskEnd, 0, 1), 0}, {full[1:], 5000, launch(0), 0}, {full, 5000, odd()[5], api.ErrArg},
		{ends, 3, about(api.AskEnd, 0, 7), api.ErrTwice}, {ends, 3, about(api.AskStop, 0, 7), api.ErrTwice}, {ends, 3, about(api.AskStart, 0, 7), api.ErrTwice}, {ends, 3, about(api.AskStop, 0, 8), api.ErrTwice}, {ends, 3, about(api.AskStart, 0, 8), api.ErrTwice},
		{ends, 3, about(api.AskEnd, 0, 8), 0}, {ends, 3, about(api.AskStop, 0, 9), 0}, {ends, 3, launch(0), 0}, {ends, 2, about(api.AskEnd, 0, 7), api.ErrArg},
	} {
		kept := slices.Clone(x.l)
		l, token, e := ledger.Ask(x.l, x.last, x.o)
		if e != x.e || e == api.OK && (token != x.last+1 || len(l) != len(x.l)+1) || e != api.OK && (l != nil || token != 0) || !slices.Equal(kept, x.l) {
			t.Errorf("%d: Ask = %d, %d", i, token, int(e))
		}
	}
}

func TestFindAndClose(t *testing.T) {
	l := []api.Open{about(api.AskEnd, 5, 1), about(api.AskStop, 3, 2), about(api.AskStart, 5, 3), {}}
	if o, ok := ledger.Find(l, 5); o != l[0] || !ok {
		t.Errorf("Find(5) = %v, %t", o, ok)
	}
	if o, ok := ledger.Find(l, 4); o != (api.Open{}) || ok {
		t.Errorf("Find(4) = %v, %t", o, ok)
	}
	if o, ok := ledger.Find(l, 0); o != l[3] || !ok {
		t.Errorf("Find(0) = %v, %t", o, ok)
	}
	if left, e := ledger.Close(l, 5); e != api.OK || !slices.Equal(left, []api.Open{l[1], l[3]}) {
		t.Errorf("Close(5) = %v, %d", left, int(e))
	}
	if left, e := ledger.Close(l, 4); e != api.ErrNone || left != nil {
		t.Errorf("Close(4) = %v, %d", left, int(e))
	}
	if left, e := ledger.Close(l[:1], 5); e != api.OK || len(left) != 0 {
		t.Errorf("Close of the only one = %v, %d", left, int(e))
	}
	if _, e := ledger.Close(nil, 5); e != api.ErrNone {
		t.Errorf("Close of none = %d", int(e))
	}
}

// P18.2

func TestAboutForgetRequests(t *testing.T) {
	x := launch(9)
	x.R.Id = 7 // a launch is about no instance
	l := []api.Open{about(api.AskStop, 8, 7), x, about(api.AskEnd, 2, 7), about(api.AskEnd, 3, 6), {R: api.Request{Id: 7, Token: 1}}, about(api.AskStart, 8, 5)}
	if a := ledger.About(l, 7); !slices.Equal(a, []uint64{8, 2, 1}) {
		t.Errorf("About(7) = %d", a)
	}
	if a := ledger.About(l, 4); len(a) != 0 {
		t.Errorf("About(4) = %d", a)
	}
	if f := ledger.Forget(l, 7); !slices.Equal(f, []api.Open{l[1], l[3], l[5]}) {
		t.Errorf("Forget(7) = %v", f)
	}
	if f := ledger.Forget(l, 4); !slices.Equal(f, l) {
		t.Errorf("Forget(4) = %v", f)
	}
	want := []api.Request{l[4].R, l[2].R, l[3].R, l[0].R, l[5].R, l[1].R}
	if r := ledger.Requests(l); !slices.Equal(r, want) {
		t.Errorf("Requests = %v, want %v", r, want)
	}
	if ledger.About(nil, 1) != nil || ledger.Forget(nil, 1) != nil || ledger.Requests(nil) != nil {
		t.Errorf("of none there is something")
	}
}

func TestLate(t *testing.T) {
	var l []api.Open
	for i, since := range []uint64{7, 10, 0, math.MaxUint64, 11, 8} {
		o := launch(uint64(i + 1))
		o.Since = since
		l = append(l, o)
	}
	for _, x := range []struct {
		now, span uint64
		want      []uint64
	}{
		{10, 3, []uint64{1, 3}}, {10, 2, []uint64{1, 3, 6}}, {10, 0, []uint64{1, 2, 3, 6}}, {10, 10, []uint64{3}}, {10, 11, nil}, {10, math.MaxUint64, nil},
		{math.MaxUint64, math.MaxUint64, []uint64{3}}, {math.MaxUint64, 0, []uint64{1, 2, 3, 4, 5, 6}}, {0, 0, []uint64{3}},
	} {
		if got := ledger.Late(l, x.now, x.span); !slices.Equal(got, x.want) {
			t.Errorf("Late(%d, %d) = %d, want %d", x.now, x.span, got, x.want)
		}
	}
}

func TestListsAreNewMemory(t *testing.T) {
	room := launches(5)
	l := room[:3]
	a, _, _ := ledger.Ask(l, 9, launch(0))
	b, _ := ledger.Close(l, 2)
	for _, x := range [][]api.Open{a, b, ledger.Forget(l, 1)} {
		_ = append(x, api.Open{})
		clear(x)
	}
	if !slices.Equal(room, launches(5)) {
		t.Errorf("memory is shared: %v", room)
	}
}

// P18.3

func TestNoTokenIsGivenTwice(t *testing.T) {
	var l []api.Open
	last := uint64(0)
	seed := uint32(1)
	given := map[uint64]int{}
	for i := range 3000 {
		seed = seed*1664525 + 1013904223
		o := about(uint8(1+seed>>28%4), 0, uint64(1+seed>>20%6))
		if o.R.Kind == api.AskLaunch {
			o = launch(0)
		}
		if next, token, e := ledger.Ask(l, last, o); e == api.OK {
			given[token]++
			if given[token] != 1 {
				t.Fatalf("call %d: the token %d is given again", i, token)
			}
			l, last = next, token
		}
		if len(l) > 0 && seed>>30 == 0 {
			token := l[int(seed>>8)%len(l)].R.Token
			l, _ = ledger.Close(l, token)
			if _, ok := ledger.Find(l, token); ok {
				t.Fatalf("call %d: %d is open still", i, token)
			}
		}
		if !ledger.May(l, last) {
			t.Fatalf("call %d: %v may not be", i, l)
		}
	}
}
