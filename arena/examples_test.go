package arena_test

import (
	"slices"
	"testing"

	"cohort/api"
	"cohort/arena"
	"cohort/sums"
)

// The ten examples of the whole.

// units is a configuration of pools of the weight 1: d on demand, s and r spot.
func units() api.Config {
	return api.Config{Pools: []api.Pool{{Name: "d", Weight: 1}, {Name: "s", Spot: true, Weight: 1}, {Name: "r", Spot: true, Weight: 1, Priority: 1}}, Strategy: api.Prioritized, Spread: 1, Max: 10, Base: 1, Deadline: 9, Drain: 2, HookOut: 3, Black: 4}
}

// served is an arena of a configuration in which all that is wanted serves.
func served(t *testing.T, c api.Config, desired int64) *arena.Arena {
	t.Helper()
	a := made(t, c)
	does(t, a, wants(desired))
	if e := a.Quiet(12); e != api.OK || live(a) < desired {
		t.Fatalf("Quiet: %d, %d serves", int(e), live(a))
	}
	return a
}

// in tells the Ids of the instances of a state.
func in(a *arena.Arena, state uint8) (l []uint64) {
	for _, i := range a.State().Insts {
		if i.State == state {
			l = append(l, i.Id)
		}
	}
	return l
}

func ids(t *testing.T, what string, got []uint64, want ...uint64) {
	t.Helper()
	if !slices.Equal(got, want) {
		t.Errorf("%s: %d, want %d", what, got, want)
	}
}

// launched tells the pools of the launches that went out behind the first n.
func launched(a *arena.Arena, n int) (l []int) {
	for _, r := range a.Sent()[n:] {
		if r.Kind == api.AskLaunch {
			l = append(l, r.Pool)
		}
	}
	return l
}

func TestExample1BothMarkets(t *testing.T) {
	a := served(t, units(), 4)
	is(t, "what serves", sums.Of(a.State().Insts, nil, 0), api.Sum{Live: 4, LiveDemand: 1, Many: 4})
}

func TestExample2ALaunchIsRefused(t *testing.T) {
	c := units()
	c.Base = 0
	a := made(t, c)
	does(t, a, wants(1), tick(), act(api.ActRefuse, 0), tick())
	is(t, "the pools", slices.Equal(launched(a, 0), []int{1, 2}), true)
	does(t, a, act(api.ActRefuse, 0), tick(), tick(), tick(), tick())
	is(t, "while both are not asked", slices.Equal(launched(a, 2), []int{1}), true) // Black is over
}

func TestExample3ANotice(t *testing.T) {
	a := served(t, units(), 2)
	sent := len(a.Sent())
	kill := a.Now() + 9
	does(t, a, api.Move{Kind: api.MoveAct, Act: api.Act{Kind: api.ActNotice, N: 1, At: kill}}, tick())
	ids(t, "what is drained", in(a, api.Draining), 2)
	is(t, "another one is asked for", len(launched(a, sent)), 1)
	for range 5 { // Drain and HookOut
		does(t, a, tick())
	}
	ids(t, "its hook ends in time", in(a, api.Ending), 2)
	is(t, "Now", a.Now() < kill, true)
}

func TestExample4AtRisk(t *testing.T) {
	c := units()
	c.Replace, c.Surge = true, 1
	a := served(t, c, 2)
	does(t, a, act(api.ActRisk, 1), tick())
	ids(t, "it serves", in(a, api.Serving), 1, 2)
	is(t, "its replacement comes", sums.Of(a.State().Insts, a.State().Opens, 0).Coming, 1)
	does(t, a, act(api.ActGrant, 0), act(api.ActReady, 2), tick())
	ids(t, "its replacement serves", in(a, api.Serving), 1, 3)
	ids(t, "it goes", in(a, api.Draining), 2)
}

func TestExample5DesiredFalls(t *testing.T) {
	c := units()
	c.Replace = true // Surge is 0: nothing more may be there for it
	a := served(t, c, 4)
	does(t, a, act(api.ActRisk, 3), wants(3), tick())
	ids(t, "what gives way goes first", in(a, api.Draining), 4)
	does(t, a, wants(2), tick())
	ids(t, "then what there is too much of", in(a, api.Serving), 1, 3)
}

func TestExample6ASpotInstanceMakesRoom(t *testing.T) {
	c := units()
	c.Base = 0
	a := served(t, c, 3)
	is(t, "on demand", sums.Of(a.State().Insts, nil, 0).LiveDemand, 0)
	c.Base = 1
	does(t, a, say(api.Event{Kind: api.EvConfig, Config: c}), tick())
	ids(t, "what makes room", in(a, api.Draining), 1)
	is(t, "Quiet", a.Quiet(12), api.OK)
	is(t, "what serves", sums.Of(a.State().Insts, nil, 0), api.Sum{Live: 3, LiveDemand: 1, Many: 3})
}

func TestExample7TheWarmPool(t *testing.T) {
	c := units()
	c.Warm = 1
	a := served(t, c, 1)
	ids(t, "what stands by", in(a, api.Warm), 2)
	sent := len(a.Sent())
	c.Base = 2 // one more on demand is wanted
	does(t, a, say(api.Event{Kind: api.EvConfig, Config: c}), wants(2), tick())
	ids(t, "what is woken", in(a, api.Waking), 2)
	out := a.Sent()[sent:]
	is(t, "ahead of any launch", out[0].Kind == api.AskStart && len(out) == 2 && out[1].Warm, true)
	is(t, "Quiet", a.Quiet(12), api.OK)
	is(t, "the pool is filled again", sums.Of(a.State().Insts, nil, 0), api.Sum{Live: 2, LiveDemand: 2, Warm: 1, Many: 3})
}

func TestExample8ARefresh(t *testing.T) {
	a := served(t, units(), 4)
	c := units()
	c.Drain = 1
	does(t, a, say(api.Event{Kind: api.EvConfig, Config: c}), say(api.Event{Kind: api.EvRefresh, A: 75, B: 100, At: 50}))
	version := a.State().Version + 2
	least := int64(4)
	for range 60 {
		is(t, "Quiet", a.Quiet(1), api.OK)
		least = min(least, live(a))
	}
	s := a.State()
	is(t, "a few at a time", least >= 3, true)
	is(t, "it stops where it was told to", s.Refresh.Stopped && s.Version == version, true)
	renewed := sums.Of(s.Insts, nil, version).Live
	is(t, "what is renewed", renewed >= 2 && renewed < 4, true)
	does(t, a, say(api.Event{Kind: api.EvRollback}))
	is(t, "Quiet", a.Quiet(60), api.OK)
	s = a.State()
	is(t, "it is rolled back", !s.Refresh.On && s.Config.Drain == 2 && s.Version == version+1, true)
	is(t, "all is renewed", sums.Of(s.Insts, nil, version+1), api.Sum{Live: 4, LiveDemand: 1, Many: 4})
}

func TestExample9TheNewOneAsksByTheSameToken(t *testing.T) {
	a := made(t, units())
	does(t, a, wants(1), tick(), act(api.ActGrant, 0), cut(2, 64, 64))
	sent := a.Sent()
	is(t, "it asks by the same token", len(sent) == 2 && sent[0] == sent[1], true)
	is(t, "Quiet", a.Quiet(9), api.OK)
	is(t, "there is one instance", len(a.Grants()) == 1 && live(a) == 1, true)
}

func TestExample10AGrantThatNobodyAskedForAnyMore(t *testing.T) {
	a := made(t, units())
	does(t, a, wants(1))
	for range 11 { // Deadline is over: another one is asked for
		does(t, a, tick())
	}
	does(t, a, act(api.ActGrant, 0), tick())
	ids(t, "the instance is ended", in(a, api.Ending), 1)
	is(t, "Quiet", a.Quiet(12), api.OK)
	ids(t, "what serves", in(a, api.Serving), 2)
	is(t, "the first one is gone", a.Grants()[0].State, uint8(api.CloudGone))
}
