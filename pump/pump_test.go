package pump_test

import (
	"math"
	"reflect"
	"slices"
	"testing"

	"cohort/api"
	"cohort/pump"
)

// events are events that are told apart by their A.
func events(l ...int64) []api.Event {
	var some []api.Event
	for _, a := range l {
		some = append(some, api.Event{Kind: api.EvMetric, A: a})
	}
	return some
}

func as(l []api.Event) []int64 {
	var some []int64
	for _, x := range l {
		some = append(some, x.A)
	}
	return some
}

func allAs(l [][]api.Event) [][]int64 {
	var some [][]int64
	for _, x := range l {
		some = append(some, as(x))
	}
	return some
}

// sources are n sources of one event each.
func sources(n int) [][]api.Event {
	var l [][]api.Event
	for i := range n {
		l = append(l, events(int64(i)))
	}
	return l
}

// P32.1

func TestMerge(t *testing.T) {
	four := [][]api.Event{events(1, 2), events(3), nil, events(4, 5, 6)}
	for i, x := range []struct {
		l    [][]api.Event
		gate int
		out  []int64
		rest [][]int64
		e    api.Errno
	}{
		{four, 5, []int64{1, 3, 4, 2, 5}, [][]int64{nil, nil, nil, {6}}, 0}, {four, 1, []int64{1}, [][]int64{{2}, {3}, nil, {4, 5, 6}}, 0}, {four, 2, []int64{1, 3}, [][]int64{{2}, nil, nil, {4, 5, 6}}, 0}, {four, 4, []int64{1, 3, 4, 2}, [][]int64{nil, nil, nil, {5, 6}}, 0},
		{four, 6, []int64{1, 3, 4, 2, 5, 6}, make([][]int64, 4), 0}, {four, math.MaxInt, []int64{1, 3, 4, 2, 5, 6}, make([][]int64, 4), 0},
		{nil, 1, nil, nil, 0}, {[][]api.Event{{}, nil}, 1, nil, make([][]int64, 2), 0}, {sources(16), 3, []int64{0, 1, 2}, append(make([][]int64, 3), allAs(sources(16)[3:])...), 0},
		{[][]api.Event{events(1)}, 0, nil, nil, api.ErrArg}, {[][]api.Event{events(1)}, -1, nil, nil, api.ErrArg}, {nil, math.MinInt, nil, nil, api.ErrArg}, {sources(17), 1, nil, nil, api.ErrArg}, {make([][]api.Event, 17), 5, nil, nil, api.ErrArg},
	} {
		out, rest, e := pump.Merge(x.l, x.gate)
		if !slices.Equal(as(out), x.out) || !reflect.DeepEqual(allAs(rest), x.rest) || e != x.e {
			t.Errorf("%d: Merge = %d, %d, %d", i, as(out), allAs(rest), int(e))
		}
	}
	if out, _, _ := pump.Merge(sources(16), 99); !slices.Equal(as(out), []int64{0, 1, 2, 3, 4, 5, 6, 7, 8, 9, 10, 11, 12, 13, 14, 15}) {
		t.Errorf("16 sources: %d", as(out))
	}
}

func configs() [][]api.Event {
	x := api.Event{Kind: api.EvConfig, Config: api.Config{Pools: []api.Pool{{Name: "a"}}, Bands: []api.Band{{From: 1}}, Plans: []api.Plan{{At: 1}}}}
	return [][]api.Event{{x, x}, {x}}
}

func spoil(l []api.Event) {
	for i := range l {
		clear(l[i].Config.Pools)
		clear(l[i].Config.Bands)
		clear(l[i].Config.Plans)
		l[i] = api.Event{}
	}
}

func TestAnswersAreNewMemory(t *testing.T) {
	l := configs()
	l[0][1] = configs()[0][1]
	kept := configs()
	out, rest, _ := pump.Merge(l, 2)
	spoil(out)
	if !reflect.DeepEqual(l, kept) || !reflect.DeepEqual(rest, [][]api.Event{kept[0][1:], nil}) {
		t.Errorf("what is told shares memory: %v, %v", l, rest)
	}
	spoil(rest[0])
	if !reflect.DeepEqual(l, kept) {
		t.Errorf("what stays shares memory: %v", l)
	}
	p, _ := pump.New(1, 1)
	x := configs()[0][0]
	p.Send(0, x)
	p.Send(0, x)
	clear(x.Config.Pools)
	a := p.Take()
	spoil(a)
	if b := p.Take(); !reflect.DeepEqual(b, kept[1]) {
		t.Errorf("what is sent shares memory: %v", b)
	}
}

// P32.2

func TestNew(t *testing.T) {
	for _, x := range []struct {
		sources, gate int
		e             api.Errno
	}{{1, 1, 0}, {16, math.MaxInt, 0}, {0, 1, api.ErrArg}, {17, 1, api.ErrArg}, {-1, 1, api.ErrArg}, {1, 0, api.ErrArg}, {1, -1, api.ErrArg}, {math.MaxInt, math.MinInt, api.ErrArg}} {
		if p, e := pump.New(x.sources, x.gate); e != x.e || (p == nil) != (e != api.OK) || p.Wait() != 0 || len(p.Take()) != 0 {
			t.Errorf("New(%d, %d): %d", x.sources, x.gate, int(e))
		}
	}
}

func TestNoPump(t *testing.T) {
	for _, p := range []*pump.Pump{nil, {}} {
		if e := p.Send(-1, api.Event{}); e != api.ErrNil || p.Take() != nil || p.Wait() != 0 || p.Drop() != 0 {
			t.Errorf("Send to none: %d", int(e))
		}
	}
}

func TestSendTakeWaitDrop(t *testing.T) {
	p, _ := pump.New(3, 4)
	for _, source := range []int{-1, 3, math.MaxInt, math.MinInt} {
		if e := p.Send(source, api.Event{}); e != api.ErrArg {
			t.Errorf("Send to %d: %d", source, int(e))
		}
	}
	for i, source := range []int{2, 2, 0, 2, 2, 0, 2} {
		if e := p.Send(source, events(int64(i))[0]); e != api.OK || p.Wait() != i+1 {
			t.Errorf("Send to %d: %d, %d wait", source, int(e), p.Wait())
		}
	}
	if l := as(p.Take()); !slices.Equal(l, []int64{2, 0, 5, 1}) || p.Wait() != 3 {
		t.Errorf("Take = %d, %d wait", l, p.Wait())
	}
	p.Send(1, events(9)[0])
	if l := as(p.Take()); !slices.Equal(l, []int64{9, 3, 4, 6}) || p.Wait() != 0 || len(p.Take()) != 0 {
		t.Errorf("Take = %d, %d wait", l, p.Wait())
	}
	p.Send(0, events(1)[0])
	p.Send(2, events(2)[0])
	if n := p.Drop(); n != 2 || p.Wait() != 0 || p.Drop() != 0 || len(p.Take()) != 0 {
		t.Errorf("Drop = %d, %d wait", n, p.Wait())
	}
	p.Send(2, events(3)[0])
	if l := as(p.Take()); !slices.Equal(l, []int64{3}) {
		t.Errorf("Take behind Drop = %d", l)
	}
}

// P32.3

func TestNothingIsLostNorToldTwice(t *testing.T) {
	seed := uint32(1)
	next := func(n int) int {
		seed = seed*1664525 + 1013904223
		return int(seed>>8) % n
	}
	for range 25 {
		many, gate := 1+next(16), 1+next(20)
		p, _ := pump.New(many, gate)
		sent, told := make([][]int64, many), make([][]int64, many)
		count := int64(0)
		for range 60 {
			for range next(30) {
				source := next(many)
				count++
				p.Send(source, api.Event{A: count, Pool: source})
				sent[source] = append(sent[source], count)
			}
			waits := p.Wait()
			l := p.Take()
			if len(l) != min(gate, waits) || p.Wait() != waits-len(l) {
				t.Fatalf("%d of %d that waited, by the gate %d", len(l), waits, gate)
			}
			for _, x := range l {
				told[x.Pool] = append(told[x.Pool], x.A)
			}
		}
		for p.Wait() > 0 {
			for _, x := range p.Take() {
				told[x.Pool] = append(told[x.Pool], x.A)
			}
		}
		if !reflect.DeepEqual(sent, told) {
			t.Fatalf("sent %d, told %d", sent, told)
		}
	}
}
