package keep_test

import (
	"fmt"
	"slices"
	"testing"

	"cohort/api"
	"cohort/batch"
	"cohort/box"
	"cohort/cloud"
	"cohort/disk"
	"cohort/fleet"
	"cohort/keep"
	"cohort/recon"
	"cohort/store"
)

func config() api.Config {
	return api.Config{Pools: []api.Pool{{Name: "d", Weight: 1}, {Name: "s", Spot: true, Weight: 2}}, Strategy: api.Prioritized, Spread: 1, Max: 10, Base: 1, Deadline: 9}
}

func is[T comparable](t *testing.T, what string, got, want T) {
	t.Helper()
	if got != want {
		t.Errorf("%s: %v, want %v", what, got, want)
	}
}

func made(t *testing.T, blocks int) (*disk.Disk, *keep.Keep) {
	t.Helper()
	d, _ := disk.New(blocks)
	k, e := keep.Make(d, config(), 0)
	if k == nil || e != api.OK {
		t.Fatalf("Make: %d", int(e))
	}
	return d, k
}

func quotes() []api.Event {
	return []api.Event{{Kind: api.EvQuote, A: 5, B: 5}, {Kind: api.EvQuote, Pool: 1, A: 5, B: 5}}
}

func wants(n int64) api.Event { return api.Event{Kind: api.EvDesired, A: n} }

// night lets the power of a disk fail.
func night(d *disk.Disk) {
	d.Arm(1)
	d.Flush()
}

// P31.1

func TestMake(t *testing.T) {
	for _, d := range []*disk.Disk{nil, {}} {
		k, e := keep.Make(d, api.Config{}, api.MaxTick+1)
		is(t, "Make of none", k == nil && e == api.ErrNil, true)
		k, e = keep.Open(d)
		is(t, "Open of none", k == nil && e == api.ErrNil, true)
	}
	d, _ := disk.New(64)
	night(d)
	k, e := keep.Make(d, api.Config{}, 0)
	is(t, "Make of a config that may not be, at night", k == nil && e == api.ErrArg, true)
	k, e = keep.Make(d, config(), api.MaxTick+1)
	is(t, "Make behind the last tick", k == nil && e == api.ErrArg, true)
	k, e = keep.Make(d, config(), 5)
	is(t, "Make at night", k == nil && e == api.ErrPower, true)
	d.Crash(nil)
	k, e = keep.Make(d, config(), 5)
	want, _ := box.New(config(), 5)
	is(t, "Make", e == api.OK && box.Same(k.State(), want), true)
	o, e := keep.Open(d)
	is(t, "Open", e == api.OK && box.Same(o.State(), want) && o.Room() == k.Room(), true)
	for step := 1; ; step++ {
		d, _ := disk.New(64)
		d.Arm(step)
		k, e := keep.Make(d, config(), 5)
		if !d.Dark() {
			is(t, "Make", k != nil && e == api.OK, true)
			break
		}
		is(t, "Make into the night", k == nil && e == api.ErrPower, true)
	}
}

func TestMakeWhereThereIsNoRoom(t *testing.T) {
	d, k := made(t, 64)
	k.Step(1, append(quotes(), wants(4)))
	before, steps := k.State(), d.Steps()
	big := config()
	for i := range 62 {
		big.Pools = append(big.Pools, api.Pool{Name: fmt.Sprintf("a-long-name-of-a-pool-%d", i), Weight: 1})
	}
	o, e := keep.Make(d, big, 5)
	is(t, "Make of too much", o == nil && e == api.ErrFull, true)
	is(t, "Steps", d.Steps(), steps)
	o, e = keep.Open(d)
	is(t, "Open of what there was", e == api.OK && box.Same(o.State(), before), true)
}

func TestOpen(t *testing.T) {
	d, _ := disk.New(400)
	k, e := keep.Open(d)
	is(t, "Open of an empty disk", k == nil && e == api.ErrForm, true)
	s, _ := store.Make(d)
	k, e = keep.Open(d)
	is(t, "Open of no rows", k == nil && e == api.ErrForm, true)
	state, _ := box.New(config(), 0)
	rows, _ := box.Rows(state)
	l, _ := batch.Between(nil, rows)
	s.Commit(l[1:])
	k, e = keep.Open(d)
	is(t, "Open of too few rows", k == nil && e == api.ErrForm, true)
	s.Commit(l[:1])
	k, e = keep.Open(d)
	is(t, "Open", e == api.OK && box.Same(k.State(), state), true)
	s.Commit([]api.Change{{Key: "x"}})
	k, e = keep.Open(d)
	is(t, "Open of a row too many", k == nil && e == api.ErrForm, true)
	night(d)
	k, e = keep.Open(d)
	is(t, "Open at night", k == nil && e == api.ErrPower, true)
}

// P31.2

func TestTheChaptersExample(t *testing.T) {
	d, k := made(t, 400)
	_, _, e := k.Step(0, nil)
	is(t, "Step(0)", e, api.ErrArg)
	out, told, e := k.Step(1, append(quotes()[:1], wants(1)))
	is(t, "Step(1)", len(out) == 1 && len(told) == 2 && e == api.OK, true)
	is(t, "Again", len(k.Again()), 1)
	o, e := keep.Open(d)
	is(t, "Open", e, api.OK)
	is(t, "Again of that", len(o.Again()), 1)
}

func TestNoKeep(t *testing.T) {
	for _, k := range []*keep.Keep{nil, {}} {
		out, told, e := k.Step(0, nil)
		is(t, "Step", out == nil && told == nil && e == api.ErrNil, true)
		out, e = k.Meet(0, []api.Told{{}})
		is(t, "Meet", out == nil && e == api.ErrNil, true)
		is(t, "the rest", len(k.Again()) == 0 && k.Room() == 0 && box.Same(k.State(), api.State{}), true)
	}
}

func TestStepIsFleets(t *testing.T) {
	d, k := made(t, 400)
	for now := uint64(1); now < 60; now++ {
		l := append(quotes(), wants(int64(now%9)), api.Event{Kind: api.EvGranted, Token: now, Id: now}, api.Event{Kind: api.EvReady, Id: now - 2}, api.Event{})
		before := k.State()
		want, go1, err1, _ := fleet.Step(before, now, l)
		out, told, e := k.Step(now, l)
		if e != api.OK || !slices.Equal(out, go1) || !slices.Equal(told, err1) || !box.Same(k.State(), want) {
			t.Fatalf("tick %d: %v, %v, %d", now, out, told, int(e))
		}
		if now%7 == 0 {
			o, e := keep.Open(d)
			if e != api.OK || !box.Same(o.State(), want) || !slices.Equal(o.Again(), k.Again()) {
				t.Fatalf("tick %d: opened anew it is another one, %d", now, int(e))
			}
			k = o
		}
		for i := 1; i < len(k.Again()); i++ {
			if k.Again()[i].Token <= k.Again()[i-1].Token {
				t.Fatalf("tick %d: Again does not rise: %v", now, k.Again())
			}
		}
	}
}

func TestMeet(t *testing.T) {
	_, k := made(t, 400)
	k.Step(1, append(quotes(), wants(3)))
	k.Step(2, []api.Event{{Kind: api.EvGranted, Token: 1, Id: 1}, {Kind: api.EvReady, Id: 1}, {Kind: api.EvGranted, Token: 2, Id: 2}})
	told := []api.Told{{Id: 2, Token: 2, State: api.CloudUp}, {Id: 5, Token: 77, State: api.CloudUp}}
	for _, x := range []struct {
		now uint64
		l   []api.Told
	}{{2, told}, {3, []api.Told{told[1], told[0]}}, {3, []api.Told{{}}}, {0, []api.Told{{}}}, {api.MaxTick + 1, nil}} {
		before := k.State()
		out, e := k.Meet(x.now, x.l)
		is(t, "Meet of what may not be", out == nil && e == api.ErrArg && box.Same(k.State(), before), true)
	}
	events, _ := recon.Events(told, k.State().Insts)
	want, wantOut, _, _ := fleet.Step(k.State(), 3, events)
	out, e := k.Meet(3, told)
	is(t, "Meet", e == api.OK && slices.Equal(out, wantOut) && box.Same(k.State(), want), true)
	is(t, "something goes out", len(out) > 0, true)
}

func TestErrPowerIsFirst(t *testing.T) {
	d, k := made(t, 400)
	before := k.State()
	night(d)
	out, told, e := k.Step(0, nil)
	is(t, "Step at night", out == nil && told == nil && e == api.ErrPower, true)
	out, e = k.Meet(0, []api.Told{{}})
	is(t, "Meet at night", out == nil && e == api.ErrPower, true)
	is(t, "State", box.Same(k.State(), before), true)
}

func TestWhereThereIsNoRoom(t *testing.T) {
	d, k := made(t, 64)
	full := 0
	for now := uint64(1); now < 60; now++ {
		l := append(quotes(), wants(10))
		for i := range uint64(6) {
			l = append(l, api.Event{Kind: api.EvGranted, Token: 1000*now + i, Id: 1000*now + i})
		}
		before, room, steps := k.State(), k.Room(), d.Steps()
		out, told, e := k.Step(now, l)
		if e == api.OK {
			continue
		}
		full++
		if e != api.ErrFull || out != nil || told != nil || !box.Same(k.State(), before) || k.Room() != room || d.Steps() != steps {
			t.Fatalf("tick %d: %v, %v, %d", now, out, told, int(e))
		}
		told2 := []api.Told{}
		for i := range uint64(9) {
			told2 = append(told2, api.Told{Id: 900000 + i, Token: 1 + i, State: api.CloudUp})
		}
		if out, e := k.Meet(now, told2); e != api.OK && (e != api.ErrFull || out != nil || !box.Same(k.State(), before)) {
			t.Fatalf("tick %d: Meet %v, %d", now, out, int(e))
		}
		o, e := keep.Open(d)
		if e != api.OK || !box.Same(o.State(), k.State()) {
			t.Fatalf("tick %d: Open %d", now, int(e))
		}
	}
	is(t, "it was full", full > 5, true)
}

func TestStateIsTheCallers(t *testing.T) {
	_, k := made(t, 400)
	k.Step(1, append(quotes(), wants(4)))
	before := k.State()
	s := k.State()
	clear(s.Config.Pools)
	clear(s.Opens)
	clear(s.Quotes)
	clear(k.Again())
	is(t, "State", box.Same(k.State(), before), true)
}

// P31.3, P0.4

func TestPowerIsCut(t *testing.T) {
	d, k := made(t, 64)
	c := cloud.New()
	seed := uint32(1)
	next := func(n int) int {
		seed = seed*1664525 + 1013904223
		return int(seed>>8) % n
	}
	given := map[uint64]api.Request{}
	sends := func(out []api.Request) (l []api.Event) {
		for _, r := range out {
			if was, ok := given[r.Token]; ok && was != r {
				t.Fatalf("the token %d is given to %v, and to %v", r.Token, was, r)
			}
			given[r.Token] = r
			l = append(l, c.Ask(r)...)
		}
		return l
	}
	l := quotes()
	cuts, behind := 0, 0
	for now := uint64(1); now < 400; now++ {
		l = append(l, wants(int64(next(7))))
		for range 4 {
			l = append(l, c.Act(api.Act{Kind: []uint8{api.ActGrant, api.ActReady, api.ActStop, api.ActEnd}[next(4)], N: next(3)})...)
			l = append(l, c.Act(api.Act{Kind: api.ActReady, N: max(0, len(c.Grants())-next(4))})...)
		}
		ahead := k.State()
		after, _, _, _ := fleet.Step(ahead, now, l)
		// Each step of the disk, on a copy of it; then one of them for good.
		for step := 1; ; step++ {
			x := d.Copy()
			o, _ := keep.Open(x)
			x.Arm(step)
			out, _, e := o.Step(now, l)
			if !x.Dark() {
				break
			}
			if e != api.ErrPower || out != nil {
				t.Fatalf("tick %d: %v, %d", now, out, int(e))
			}
			x.Crash([]int{[]int{0, 1, 2, 64}[next(4)], []int{0, 1, 2, 64}[next(4)], 64 * next(2), 64, next(3)})
			o, e = keep.Open(x)
			if e != api.OK || !box.Same(o.State(), ahead) && !box.Same(o.State(), after) {
				t.Fatalf("tick %d, step %d: opened %d", now, step, int(e))
			}
		}
		if next(3) > 0 {
			out, _, e := k.Step(now, l)
			if e != api.OK {
				t.Fatalf("tick %d: %d", now, int(e))
			}
			l = sends(out)
			continue
		}
		cuts++
		d.Arm(1 + next(8))
		out, _, e := k.Step(now, l)
		l = nil
		if e == api.OK {
			l = sends(out)
		}
		d.Crash([]int{[]int{0, 1, 2, 64}[next(4)], []int{0, 1, 2, 64}[next(4)], 64, 64, 64, 64})
		if k, e = keep.Open(d); e != api.OK {
			t.Fatalf("tick %d: opened %d", now, int(e))
		}
		if !box.Same(k.State(), ahead) {
			behind++
		} else if len(out) > 0 {
			t.Fatalf("tick %d: something went out, and is forgotten", now)
		}
		l = append(l, sends(k.Again())...)
		now++
		if out, e = k.Meet(now, c.Tell()); e != api.OK {
			t.Fatalf("tick %d: Meet %d", now, int(e))
		}
		l = append(l, sends(out)...)
	}
	tokens := map[uint64]int{}
	for _, g := range c.Grants() {
		if tokens[g.Token]++; tokens[g.Token] > 1 {
			t.Errorf("two instances of the token %d", g.Token)
		}
	}
	if cuts < 50 || behind < 10 || behind == cuts || len(c.Grants()) < 20 {
		t.Errorf("%d cuts, %d behind the step, %d instances: too few to tell", cuts, behind, len(c.Grants()))
	}
}
