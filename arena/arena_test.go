package arena_test

import (
	"math"
	"slices"
	"testing"

	"cohort/api"
	"cohort/arena"
	"cohort/box"
	"cohort/conf"
	"cohort/extra"
	"cohort/rank"
	"cohort/sums"
	"cohort/victim"
	"cohort/warm"
)

func config() api.Config {
	return api.Config{Pools: []api.Pool{{Name: "d", Weight: 1}, {Name: "s", Spot: true, Weight: 2}}, Strategy: api.Prioritized, Spread: 1, Max: 10, Base: 1, Deadline: 9, Drain: 2, HookOut: 2, HookIn: 1, Black: 3}
}

func is[T comparable](t *testing.T, what string, got, want T) {
	t.Helper()
	if got != want {
		t.Errorf("%s: %v, want %v", what, got, want)
	}
}

func say(x api.Event) api.Move { return api.Move{Kind: api.MoveSay, Event: x} }

func wants(n int64) api.Move { return say(api.Event{Kind: api.EvDesired, A: n}) }

func act(kind uint8, n int) api.Move {
	return api.Move{Kind: api.MoveAct, Act: api.Act{Kind: kind, N: n}}
}

func quote(pool int, price, score int64) api.Move {
	return api.Move{Kind: api.MoveAct, Act: api.Act{Kind: api.ActQuote, N: pool, A: price, B: score}}
}

func tick() api.Move { return api.Move{Kind: api.MoveTick} }

func cut(arm int, picks ...int) api.Move {
	return api.Move{Kind: api.MoveTick, Arm: arm, Picks: picks}
}

func made(t *testing.T, c api.Config) *arena.Arena {
	t.Helper()
	a, e := arena.New(400, c)
	if a == nil || e != api.OK {
		t.Fatalf("New: %d", int(e))
	}
	for i := range c.Pools {
		does(t, a, quote(i, 5, 5))
	}
	return a
}

// does does moves of which none is refused, and tells what the last tick told.
func does(t *testing.T, a *arena.Arena, l ...api.Move) (told []api.Errno) {
	t.Helper()
	for _, m := range l {
		got, e := a.Do(m)
		if e != api.OK {
			t.Fatalf("%v: %d", m, int(e))
		}
		if m.Kind == api.MoveTick {
			told = got
		} else if got != nil {
			t.Errorf("%v tells %v", m, got)
		}
	}
	return told
}

func live(a *arena.Arena) int64 { return sums.Of(a.State().Insts, nil, 0).Live }

// P33.1

func TestNew(t *testing.T) {
	for _, blocks := range []int{0, 63, api.MaxBlocks + 1, math.MinInt} {
		if a, e := arena.New(blocks, api.Config{}); a != nil || e != api.ErrArg {
			t.Errorf("New(%d): %d", blocks, int(e))
		}
	}
	if a, e := arena.New(64, api.Config{}); a != nil || e != api.ErrArg {
		t.Errorf("New of no config: %d", int(e))
	}
	big := config()
	for i := range 60 {
		big.Pools = append(big.Pools, api.Pool{Name: "a-pool-of-a-long-name-" + string([]byte{'a' + byte(i/10), '0' + byte(i%10)}), Weight: 1})
	}
	if a, e := arena.New(64, big); a != nil || e != api.ErrFull {
		t.Errorf("New where there is no room: %d", int(e))
	}
	a := made(t, config())
	want, _ := box.New(config(), 0)
	is(t, "what is new", a.Now() == 0 && box.Same(a.State(), want) && len(a.Grants()) == 0 && len(a.Sent()) == 0, true)
}

func TestTheChaptersExample(t *testing.T) {
	c := config()
	c.HookIn = 0
	a, _ := arena.New(400, c)
	does(t, a, quote(0, 5, 5), wants(1), tick())
	is(t, "Sent", len(a.Sent()), 1)
	is(t, "Quiet", a.Quiet(3), api.OK)
	is(t, "how much serves", live(a), 1)
	is(t, "Now", a.Now(), 4)
}

func TestNoArena(t *testing.T) {
	for _, a := range []*arena.Arena{nil, {}} {
		told, e := a.Do(api.Move{})
		is(t, "Do", told == nil && e == api.ErrNil, true)
		is(t, "Quiet", a.Quiet(-1), api.ErrNil)
		is(t, "the rest", box.Same(a.State(), api.State{}) && a.Grants() == nil && a.Sent() == nil && a.Now() == 0, true)
	}
}

func TestDoRefuses(t *testing.T) {
	a := made(t, config())
	before := a.State()
	for _, m := range []api.Move{
		{}, {Kind: 4}, {Kind: 255}, say(api.Event{}), say(api.Event{Kind: api.EvDesired, A: -1}), say(api.Event{Kind: api.EvConfig}), say(api.Event{Kind: api.EvCancel, Id: 1}),
		say(api.Event{Kind: api.EvGranted, Token: 1, Id: 1}), say(api.Event{Kind: api.EvQuote, A: 5}), say(api.Event{Kind: api.EvGone, Id: 1}), say(api.Event{Kind: api.EvReady, Id: 1}),
	} {
		if told, e := a.Do(m); told != nil || e != api.ErrArg {
			t.Errorf("Do(%v) = %v, %d", m, told, int(e))
		}
	}
	is(t, "nothing changes", a.Now() == 0 && box.Same(a.State(), before), true)
	is(t, "what the tick tells", len(does(t, a, tick())), 2) // the quotes alone
	for _, n := range []int{-1, 10001, math.MinInt, math.MaxInt} {
		is(t, "Quiet", a.Quiet(n), api.ErrArg)
	}
	is(t, "Now", a.Now(), 1)
	is(t, "Quiet(0)", a.Quiet(0), api.OK)
	is(t, "Quiet(10000)", a.Quiet(10000), api.OK)
	is(t, "Now", a.Now(), 10001)
}

func TestWhatATickTells(t *testing.T) {
	a := made(t, config())
	does(t, a, wants(5), say(api.Event{Kind: api.EvBeat, Id: 9}), act(api.ActQuote, 99), act(99, 0))
	told := does(t, a, say(api.Event{Kind: api.EvCancel}), tick())
	if !slices.Equal(told, []api.Errno{0, 0, api.ErrNone, 0, api.ErrState}) { // by turns: the operator, the cloud
		t.Errorf("the tick tells %d", told)
	}
	is(t, "Desired", a.State().Desired, 5)
	is(t, "Sent", len(a.Sent()), 3)
	for range 100 {
		does(t, a, wants(4))
	}
	is(t, "what goes through the gate", len(does(t, a, tick())), 64)
	is(t, "what goes through it then", len(does(t, a, tick())), 36)
	is(t, "nothing", len(does(t, a, tick())), 0)
}

func TestWhereThereIsNoRoom(t *testing.T) {
	c := config()
	c.Max = 200
	a, _ := arena.New(64, c)
	does(t, a, quote(0, 5, 5), quote(1, 5, 5), wants(200))
	before := a.State()
	told, e := a.Do(tick())
	is(t, "the tick", told == nil && e == api.ErrFull, true)
	is(t, "the tick goes on", a.Now(), 1)
	is(t, "nothing changes", box.Same(a.State(), before) && len(a.Sent()) == 0, true)
	is(t, "what the pump gave is lost", len(does(t, a, tick())), 0)
	is(t, "Now of the state", a.State().Now, 2)
	does(t, a, quote(0, 5, 5), quote(1, 5, 5), wants(200))
	is(t, "Quiet", a.Quiet(1), api.ErrFull)
	told, e = a.Do(cut(1, 64)) // what is to be kept has room again
	is(t, "a cut", told == nil && e == api.OK, true)
}

func TestCuts(t *testing.T) {
	for arm := 0; arm < 12; arm++ {
		for _, picks := range [][]int{nil, {64, 64, 64, 64, 64, 64}, {1, 2, 1, 2}, {64, 64, 0, 64}} {
			a := made(t, config())
			does(t, a, tick(), wants(4))
			does(t, a, wants(3)) // two events wait
			told := does(t, a, cut(arm, picks...))
			if a.Now() == 2 { // it did not ring within the step
				is(t, "what it tells", len(told), 2)
				is(t, "Desired", a.State().Desired, 3)
				does(t, a, cut(-1), tick(), cut(math.MinInt)) // nor later
				is(t, "Now", a.Now(), 5)
				is(t, "it was not cut", arm == 0 || arm > 5, true)
				continue
			}
			is(t, "it was cut", a.Now() == 3 && told == nil && arm > 0, true)
			is(t, "Now of the state", a.State().Now, 3)
			sent := a.Sent()
			if a.State().Desired == 0 {
				is(t, "nothing went out", len(sent), 0)
			} else {
				is(t, "what is open went out again", len(sent), 2)
			}
			is(t, "what waited is lost", len(does(t, a, tick())), 0)
			is(t, "Quiet", a.Quiet(30), api.OK)
			is(t, "how much serves", live(a) >= a.State().Desired, true)
		}
	}
}

func TestWhatWaitsIsLost(t *testing.T) {
	a := made(t, config())
	for range 100 {
		does(t, a, wants(4))
	}
	does(t, a, cut(1), tick())
	is(t, "Desired", a.State().Desired, 0)
	is(t, "what a tick tells", len(does(t, a, tick())), 0)
}

func TestNoRoomBehindACut(t *testing.T) {
	c := config()
	c.Max, c.Base, c.Deadline, c.Black = 100, 100, 3, 0
	a, _ := arena.New(64, c)
	does(t, a, quote(0, 5, 5), wants(26), tick(), tick(), tick(), tick(), tick()) // asked for twice
	for range 52 {
		does(t, a, act(api.ActGrant, 0))
	}
	is(t, "Grants", len(a.Grants()), 52)
	told, e := a.Do(tick())
	is(t, "a tick by which all of them are known", told == nil && e == api.ErrFull, true)
	before := a.State()
	told, e = a.Do(cut(1))
	is(t, "a cut behind which there is no room", told == nil && e == api.ErrFull, true)
	is(t, "the ticks go on", a.Now(), 8)
	is(t, "State", box.Same(a.State(), before), true)
}

func TestACutBehindALaunch(t *testing.T) {
	a := made(t, config())
	does(t, a, wants(1), tick()) // the launch goes out
	does(t, a, act(api.ActGrant, 0), cut(1))
	sent := a.Sent()
	is(t, "it asks by the same token", len(sent) == 2 && sent[0] == sent[1], true)
	is(t, "Quiet", a.Quiet(20), api.OK)
	is(t, "there is one instance", len(a.Grants()) == 1 && live(a) == 1, true)
}

func TestQuietLetsAllGoWell(t *testing.T) {
	c := config()
	c.Warm = 2
	a := made(t, c)
	does(t, a, wants(3))
	is(t, "Quiet", a.Quiet(20), api.OK)
	s := sums.Of(a.State().Insts, a.State().Opens, 0)
	is(t, "what is there", s, api.Sum{Live: 3, LiveDemand: 1, Warm: 2, Many: 4})
	does(t, a, wants(4)) // one of the warm pool is woken
	is(t, "Quiet", a.Quiet(20), api.OK)
	s = sums.Of(a.State().Insts, a.State().Opens, 0)
	is(t, "how much serves, and stands by", s.Live >= 4 && s.Warm >= 2, true)
	does(t, a, wants(0))
	is(t, "Quiet", a.Quiet(20), api.OK)
	is(t, "how much serves", live(a), 0)
}

func TestQuietLetsEachHookGoOn(t *testing.T) {
	c := config()
	c.HookIn, c.HookOut, c.Drain = 1000, 1000, 0
	a := made(t, c)
	does(t, a, wants(3))
	is(t, "Quiet", a.Quiet(8), api.OK)
	is(t, "how much serves", live(a), 3)
	does(t, a, wants(0))
	is(t, "Quiet", a.Quiet(8), api.OK)
	is(t, "how many there are", len(a.State().Insts), 0)
}

// P33.2

func TestAnswersAreTheCallers(t *testing.T) {
	a := made(t, config())
	does(t, a, wants(4), tick())
	is(t, "Quiet", a.Quiet(4), api.OK)
	s, g, r := a.State(), a.Grants(), a.Sent()
	is(t, "there is something", len(g) == 3 && len(r) == 3 && len(s.Insts) == 3, true)
	clear(a.State().Insts)
	clear(a.State().Config.Pools)
	clear(a.Grants())
	clear(a.Sent())
	is(t, "what is told", box.Same(a.State(), s) && slices.Equal(a.Grants(), g) && slices.Equal(a.Sent(), r), true)
	for i, x := range r {
		is(t, "its token", x.Token, uint64(i+1))
	}
}

// P33.3

// dice tells numbers below n, of a kind that its seed tells.
type dice uint32

func (d *dice) below(n int) int {
	*d = *d*1664525 + 1013904223
	return int(*d>>8) % n
}

// config tells one that has pools of both markets.
func (d *dice) config() api.Config {
	c := api.Config{Strategy: uint8(1 + d.below(4)), Spread: int64(1 + d.below(3)), Fallback: d.below(2) == 0, Min: int64(d.below(3)), Max: 14, Base: int64(d.below(5)), Percent: int64(d.below(101)), Surge: int64(d.below(5)), Warm: int64(d.below(4)),
		Drain: uint64(d.below(3)), HookIn: uint64(d.below(3)), HookOut: uint64(d.below(3)), Black: uint64(d.below(6)), Deadline: uint64(3 + d.below(8)), Replace: d.below(2) == 0}
	for i := range 2 + d.below(3) {
		c.Pools = append(c.Pools, api.Pool{Name: string([]byte{'a' + byte(i)}), Spot: i%2 == 1, Weight: int64(1 + d.below(4)), Priority: int64(d.below(3))})
	}
	return c
}

// move tells a move of a kind: of anything but what is held, and at risk.
func (d *dice) move(a *arena.Arena) api.Move {
	last := max(0, len(a.Grants())-10) + d.below(10)
	switch d.below(20) {
	case 0:
		return wants(int64(d.below(14)))
	case 1:
		return say(api.Event{Kind: api.EvRefresh, A: int64(d.below(101)), B: int64(100 + d.below(101)), At: uint64(d.below(101))})
	case 2:
		return say([]api.Event{{Kind: api.EvCancel}, {Kind: api.EvRollback}, {Kind: api.EvConfig, Config: d.config()}}[d.below(3)])
	case 3:
		return say(api.Event{Kind: api.EvDone, Id: uint64(last + 1), On: d.below(2) == 0})
	case 4, 5, 6:
		return act(api.ActGrant, d.below(3))
	case 7:
		return act(api.ActRefuse, d.below(3))
	case 8, 9, 10, 11:
		return act(api.ActReady, last)
	case 12:
		return act([]uint8{api.ActStop, api.ActEnd}[d.below(2)], d.below(4))
	case 13:
		return act(api.ActKill, last)
	case 14:
		return quote(d.below(4), int64(1+d.below(9)), int64(d.below(9)))
	case 15:
		return cut(d.below(9), []int{0, 1, 2, 64}[d.below(4)], []int{0, 1, 2, 64}[d.below(4)], 64*d.below(2), 64*d.below(2), 64)
	}
	return tick()
}

// quietTicks tells behind how many quiet ticks it has settled.
func quietTicks(a *arena.Arena) int {
	s := a.State()
	c := s.Config
	many := 8 + 4*(s.Desired+c.Warm+int64(len(s.Insts)))
	return int(many) * int(8+c.HookIn+c.HookOut+c.Drain+c.Black+c.Deadline)
}

func TestItSettles(t *testing.T) {
	for seed := range 120 {
		d := dice(seed)
		a := made(t, d.config())
		for range 150 {
			m := d.move(a)
			if _, e := a.Do(m); e != api.OK {
				t.Fatalf("seed %d: %v: %d", seed, m, int(e))
			}
		}
		for i := range 4 { // of each market a pool is open
			does(t, a, quote(i, 5, 5))
		}
		does(t, a, tick(), tick(), tick())
		if e := a.Quiet(quietTicks(a)); e != api.OK {
			t.Fatalf("seed %d: Quiet: %d", seed, int(e))
		}
		s := a.State()
		there := sums.Of(s.Insts, s.Opens, 0)
		r := s.Refresh
		most := max(conf.Weight(s.Config), 4)
		switch {
		case there.Live < s.Desired || there.Live >= s.Desired+most || there.Coming != 0:
			t.Errorf("seed %d: %d serves, Desired %d: %+v", seed, there.Live, s.Desired, s)
		case there.LiveDemand < victim.Floor(s):
			t.Errorf("seed %d: %d on demand, the floor %d: %+v", seed, there.LiveDemand, victim.Floor(s), s)
		case r.On && !r.Stopped:
			t.Errorf("seed %d: the refresh goes on: %+v", seed, s)
		case warm.Little(s) || len(s.Opens) != 0:
			t.Errorf("seed %d: the warm pool is too little (%t), or something is open: %+v", seed, warm.Little(s), s)
		}
		sent := len(a.Sent())
		if e := a.Quiet(1); e != api.OK || len(a.Sent()) != sent {
			t.Errorf("seed %d: a quiet tick more asks for something", seed)
		}
	}
}

func TestNoticed(t *testing.T) {
	checked := 0
	for seed := range 100 {
		d := dice(seed)
		c := d.config()
		a := made(t, c)
		does(t, a, wants(8))
		a.Quiet(15)
		kills := map[uint64]uint64{}
		for range 60 {
			if d.below(3) == 0 {
				if n := d.below(len(a.Grants())); a.Grants()[n].State == api.CloudUp && a.Grants()[n].Kill == 0 {
					// Between the notice and the kill is more than Drain, HookOut and 2.
					at := a.Now() + c.Drain + c.HookOut + 3 + uint64(d.below(3))
					does(t, a, api.Move{Kind: api.MoveAct, Act: api.Act{Kind: api.ActNotice, N: n, At: at}})
					kills[uint64(n+1)] = at
				}
			}
			for range d.below(4) {
				if m := d.move(a); m.Kind == api.MoveAct && m.Act.Kind != api.ActKill {
					does(t, a, m)
				}
			}
			does(t, a, tick())
			for id, kill := range kills {
				i, there := sums.Find(a.State().Insts, id)
				if there && i.State == api.Serving {
					t.Fatalf("seed %d, tick %d: %d serves behind its notice", seed, a.Now(), id)
				}
				if a.Now() < kill {
					continue
				}
				checked++
				delete(kills, id)
				asked := slices.ContainsFunc(a.Sent(), func(r api.Request) bool { return r.Kind == api.AskEnd && r.Id == id })
				if there && !asked {
					t.Fatalf("seed %d, tick %d: the end of %d was not asked for: %+v", seed, a.Now(), id, i)
				}
			}
		}
	}
	if checked < 300 {
		t.Errorf("%d were noticed: too few to tell", checked)
	}
}

// checkStep holds a step against P0.1 to P0.3, by the states ahead of it and
// behind it; it tells how many launches went out for the first time.
func checkStep(t *testing.T, ahead, s api.State) (launches int) {
	t.Helper()
	there := sums.Of(s.Insts, s.Opens, 0)
	most, asked := conf.Weight(s.Config), false
	for _, o := range s.Opens {
		if o.R.Token <= ahead.Token || o.R.Warm || o.R.Kind != api.AskLaunch && o.R.Kind != api.AskStart {
			continue
		}
		asked = true
		if o.R.Kind == api.AskStart {
			i, _ := sums.Find(s.Insts, o.R.Id)
			most = max(most, i.Weight)
			continue
		}
		launches++
		first := 1
		if s.Config.Strategy == api.LowestPrice {
			first = int(s.Config.Spread)
		}
		order := rank.Order(s.Config, s.Quotes, o.Spot, s.Now)
		if at := slices.Index(order, o.R.Pool); at < 0 || at >= first {
			t.Fatalf("P0.1: the pool %d is asked, where the order is %d: %+v", o.R.Pool, order, s)
		}
	}
	if asked && there.Live+there.Coming >= s.Desired+extra.Of(s)+most {
		t.Fatalf("P0.3: there is %d: %+v", there.Live+there.Coming, s)
	}
	for _, i := range ahead.Insts {
		n, _ := sums.Find(s.Insts, i.Id)
		if i.State == api.Serving && n.State == api.Draining && !n.Noticed && !n.Spot && there.LiveDemand < victim.Floor(s) {
			t.Fatalf("P0.2: %d is drained, %d stays on demand: %+v", i.Id, there.LiveDemand, s)
		}
	}
	return launches
}

func TestWhatGoesOut(t *testing.T) {
	again, launches := 0, 0
	for seed := range 60 {
		d := dice(seed + 1000)
		a := made(t, d.config())
		tokens := map[uint64]api.Request{}
		seen := 0
		for range 200 {
			m := d.move(a)
			ahead := a.State()
			if _, e := a.Do(m); e != api.OK {
				t.Fatalf("seed %d: %v: %d", seed, m, int(e))
			}
			s := a.State()
			if m.Kind == api.MoveTick && m.Arm == 0 {
				launches += checkStep(t, ahead, s)
			}
			for _, r := range a.Sent()[seen:] {
				if was, ok := tokens[r.Token]; ok {
					again++
					if was != r {
						t.Fatalf("P0.4, seed %d: the token %d is given to %v, and to %v", seed, r.Token, was, r)
					}
				}
				tokens[r.Token] = r
				if r.Token > s.Token {
					t.Fatalf("P0.4, seed %d: %v went out, and is not known behind the step", seed, r)
				}
			}
			seen = len(a.Sent())
			if there := sums.Of(s.Insts, s.Opens, 0); s.Desired+extra.Of(s) > extra.Ceiling(s) {
				t.Fatalf("seed %d: %v is above the ceiling", seed, there)
			}
		}
		granted := map[uint64]int{}
		for _, g := range a.Grants() {
			if granted[g.Token]++; granted[g.Token] > 1 {
				t.Fatalf("seed %d: two instances of the token %d", seed, g.Token)
			}
		}
	}
	if again < 50 || launches < 200 {
		t.Errorf("%d went out again, %d launches for the first time: too few to tell", again, launches)
	}
}
