package cloud_test

import (
	"math"
	"reflect"
	"slices"
	"testing"

	"cohort/api"
	"cohort/cloud"
	"cohort/event"
)

func launch(token uint64) api.Request { return api.Request{Kind: api.AskLaunch, Token: token} }

func about(kind uint8, token, id uint64) api.Request {
	return api.Request{Kind: kind, Token: token, Id: id}
}

func ev(kind uint8, token, id uint64) api.Event { return api.Event{Kind: kind, Token: token, Id: id} }

func tells(t *testing.T, what string, got []api.Event, want ...api.Event) {
	t.Helper()
	if !slices.EqualFunc(got, want, func(a, b api.Event) bool { return reflect.DeepEqual(a, b) }) {
		t.Errorf("%s: %v, want %v", what, got, want)
	}
}

func is(t *testing.T, what string, got, want any) {
	t.Helper()
	if !reflect.DeepEqual(got, want) {
		t.Errorf("%s: %v, want %v", what, got, want)
	}
}

// with is a cloud of instances of some states, the first of the Id 1, by the
// tokens 101, 102 and so on; nothing waits.
func with(states ...uint8) *cloud.Cloud {
	c := cloud.New()
	for i := range states {
		c.Ask(launch(uint64(101 + i)))
		c.Act(api.Act{Kind: api.ActGrant})
	}
	for i, s := range states {
		switch s {
		case api.CloudUp:
			c.Act(api.Act{Kind: api.ActReady, N: i})
		case api.CloudStopped:
			c.Ask(about(api.AskStop, uint64(201+i), uint64(i+1)))
			c.Act(api.Act{Kind: api.ActStop})
		case api.CloudGone:
			c.Act(api.Act{Kind: api.ActKill, N: i})
		}
	}
	return c
}

// states tells what each instance is.
func states(c *cloud.Cloud) []uint8 {
	var l []uint8
	for _, g := range c.Grants() {
		l = append(l, g.State)
	}
	return l
}

// P19.1

func TestTheChaptersExample(t *testing.T) {
	c := cloud.New()
	tells(t, "Ask", c.Ask(launch(5)))
	tells(t, "Ask again", c.Ask(launch(5)))
	is(t, "Waits", len(c.Waits()), 1)
	tells(t, "Grant", c.Act(api.Act{Kind: api.ActGrant}), ev(api.EvGranted, 5, 1))
	tells(t, "Ask again", c.Ask(launch(5)), ev(api.EvGranted, 5, 1))
	tells(t, "Ready", c.Act(api.Act{Kind: api.ActReady}), ev(api.EvReady, 0, 1))
	tells(t, "Ready again", c.Act(api.Act{Kind: api.ActReady}))
	tells(t, "Ask for its end", c.Ask(about(api.AskEnd, 6, 1)))
	tells(t, "End", c.Act(api.Act{Kind: api.ActEnd}), ev(api.EvGone, 0, 1))
	tells(t, "Ask for its end again", c.Ask(about(api.AskEnd, 6, 1)), ev(api.EvGone, 0, 1))
	tells(t, "Ask for what was granted, and is gone", c.Ask(launch(5)), ev(api.EvGranted, 5, 1))
}

func TestAsk(t *testing.T) {
	c := with(api.CloudUp, api.CloudGone)
	for i, r := range []api.Request{
		{}, {Kind: 0, Token: 1}, {Kind: 5, Token: 1, Id: 1}, {Kind: 255, Token: 1}, launch(0), about(api.AskEnd, 0, 1), about(api.AskEnd, 0, 2),
		launch(1<<62 + 1), {Kind: api.AskLaunch, Token: 1, Pool: -1}, {Kind: api.AskLaunch, Token: 1, Pool: 64},
		about(api.AskEnd, 1, 0), about(api.AskStop, 1, 3), about(api.AskStart, 1, math.MaxUint64),
	} {
		tells(t, "what is nothing", c.Ask(r))
		if len(c.Waits()) != 0 {
			t.Errorf("%d: %v waits", i, r)
		}
	}
	for _, kind := range []uint8{api.AskEnd, api.AskStop, api.AskStart} {
		tells(t, "Ask of what is gone", c.Ask(about(kind, 1, 2)), ev(api.EvGone, 0, 2))
	}
	want := []api.Request{{Kind: api.AskLaunch, Token: 1 << 62, Pool: 63, Warm: true}, about(api.AskStop, 9, 1), about(api.AskEnd, math.MaxUint64, 1), about(api.AskStart, 8, 1)}
	for _, r := range want {
		tells(t, "what waits", c.Ask(r))
	}
	tells(t, "a token that waits", c.Ask(about(api.AskEnd, 8, 2)))
	tells(t, "a token that waits", c.Ask(launch(9)))
	is(t, "Waits", c.Waits(), want)
	c.Act(api.Act{Kind: api.ActRefuse})
	tells(t, "what was refused", c.Ask(launch(1<<62)), ev(api.EvRefused, 1<<62, 0))
}

func TestGrantAndRefuse(t *testing.T) {
	c := with(api.CloudUp)
	for _, r := range []api.Request{about(api.AskStop, 1, 1), {Kind: api.AskLaunch, Token: 2, Pool: 7}, launch(3)} {
		c.Ask(r)
	}
	for _, n := range []int{-1, 0, 3, math.MaxInt, math.MinInt} {
		tells(t, "Grant of none", c.Act(api.Act{Kind: api.ActGrant, N: n}))
		tells(t, "Refuse of none", c.Act(api.Act{Kind: api.ActRefuse, N: n}))
	}
	tells(t, "Refuse", c.Act(api.Act{Kind: api.ActRefuse, N: 2}), ev(api.EvRefused, 3, 0))
	tells(t, "Grant", c.Act(api.Act{Kind: api.ActGrant, N: 1}), ev(api.EvGranted, 2, 2))
	is(t, "Grants", c.Grants(), []api.Grant{{Id: 1, Token: 101, State: api.CloudUp}, {Id: 2, Token: 2, Pool: 7, State: api.CloudBooting}})
	is(t, "Waits", c.Waits(), []api.Request{about(api.AskStop, 1, 1)})
}

func TestTheMostGrants(t *testing.T) {
	c := with(make([]uint8, 2*api.MaxInst)...)
	c.Ask(launch(1))
	tells(t, "Grant of one too many", c.Act(api.Act{Kind: api.ActGrant}))
	is(t, "Grants", len(c.Grants()), 2*api.MaxInst)
	is(t, "Waits", len(c.Waits()), 1)
}

func TestReady(t *testing.T) {
	c := with(api.CloudBooting, api.CloudUp, api.CloudStopped, api.CloudGone, api.CloudStopped)
	for _, n := range []int{-1, 1, 2, 3, 4, 5, math.MaxInt} {
		tells(t, "Ready of what does not fit", c.Act(api.Act{Kind: api.ActReady, N: n}))
	}
	c.Ask(about(api.AskStart, 1, 1))
	tells(t, "Ready of what boots", c.Act(api.Act{Kind: api.ActReady, N: 0}), ev(api.EvReady, 0, 1))
	is(t, "Waits", len(c.Waits()), 1) // it did not answer that
	for _, r := range []api.Request{about(api.AskStop, 2, 3), about(api.AskStart, 3, 5), about(api.AskStart, 4, 3), about(api.AskStart, 5, 3)} {
		c.Ask(r)
	}
	tells(t, "Ready of what is to start", c.Act(api.Act{Kind: api.ActReady, N: 2}), ev(api.EvReady, 0, 3))
	is(t, "Waits", c.Waits(), []api.Request{about(api.AskStart, 1, 1), about(api.AskStop, 2, 3), about(api.AskStart, 3, 5), about(api.AskStart, 5, 3)})
	tells(t, "Ready of what is up", c.Act(api.Act{Kind: api.ActReady, N: 2}))
	is(t, "states", states(c), []uint8{api.CloudUp, api.CloudUp, api.CloudUp, api.CloudGone, api.CloudStopped})
}

func TestReadyOfTheFirstThatWaits(t *testing.T) {
	c := with(api.CloudStopped)
	c.Ask(about(api.AskStart, 1, 1))
	tells(t, "Ready of what is to start", c.Act(api.Act{Kind: api.ActReady}), ev(api.EvReady, 0, 1))
	is(t, "Waits", len(c.Waits()), 0)
}

func TestStopAndEnd(t *testing.T) {
	c := with(api.CloudUp, api.CloudBooting, api.CloudUp)
	x := launch(3)
	x.Id = 3
	wait := []api.Request{about(api.AskStop, 1, 1), about(api.AskEnd, 2, 3), x, about(api.AskStop, 4, 2), about(api.AskStop, 5, 3), about(api.AskStart, 6, 3), about(api.AskEnd, 7, 3)}
	for _, r := range wait {
		c.Ask(r)
	}
	for _, n := range []int{-1, 1, 2, 5, 7, math.MinInt} {
		tells(t, "Stop of none", c.Act(api.Act{Kind: api.ActStop, N: n}))
	}
	for _, n := range []int{-1, 0, 2, 5, 7} {
		tells(t, "End of none", c.Act(api.Act{Kind: api.ActEnd, N: n}))
	}
	tells(t, "Stop", c.Act(api.Act{Kind: api.ActStop, N: 3}), ev(api.EvStopped, 0, 2))
	tells(t, "Stop", c.Act(api.Act{Kind: api.ActStop, N: 0}), ev(api.EvStopped, 0, 1))
	tells(t, "End", c.Act(api.Act{Kind: api.ActEnd, N: 0}), ev(api.EvGone, 0, 3))
	is(t, "Waits", c.Waits(), []api.Request{x}) // nothing about what is gone
	is(t, "states", states(c), []uint8{api.CloudStopped, api.CloudStopped, api.CloudGone})
}

func TestNoticeKillRiskQuote(t *testing.T) {
	c := with(api.CloudUp, api.CloudGone, api.CloudStopped, api.CloudBooting)
	c.Ask(about(api.AskStart, 1, 3))
	c.Ask(about(api.AskStart, 2, 1))
	for _, n := range []int{-1, 1, 4, math.MaxInt} {
		for _, kind := range []uint8{api.ActNotice, api.ActKill, api.ActRisk} {
			tells(t, "an act of none", c.Act(api.Act{Kind: kind, N: n, At: 5}))
		}
	}
	tells(t, "Notice behind all ticks", c.Act(api.Act{Kind: api.ActNotice, At: api.MaxTick + 1}))
	for _, n := range []int{0, 2, 3} {
		tells(t, "Notice", c.Act(api.Act{Kind: api.ActNotice, N: n, At: api.MaxTick}), api.Event{Kind: api.EvNotice, Id: uint64(n + 1), At: api.MaxTick})
		tells(t, "Risk", c.Act(api.Act{Kind: api.ActRisk, N: n, At: 7}), ev(api.EvRisk, 0, uint64(n+1)))
	}
	tells(t, "Notice", c.Act(api.Act{Kind: api.ActNotice, N: 0, At: 6}), api.Event{Kind: api.EvNotice, Id: 1, At: 6})
	tells(t, "Kill", c.Act(api.Act{Kind: api.ActKill, N: 2}), ev(api.EvGone, 0, 3))
	tells(t, "Kill again", c.Act(api.Act{Kind: api.ActKill, N: 2}))
	is(t, "Waits", c.Waits(), []api.Request{about(api.AskStart, 2, 1)})
	is(t, "Grants", c.Grants(), []api.Grant{
		{Id: 1, Token: 101, State: api.CloudUp, Kill: 6}, {Id: 2, Token: 102, State: api.CloudGone}, {Id: 3, Token: 103, State: api.CloudGone, Kill: api.MaxTick}, {Id: 4, Token: 104, State: api.CloudBooting, Kill: api.MaxTick},
	})
	for _, n := range []int{-1, 0, 63, 64} {
		for _, a := range []int64{math.MinInt64, 0, 1, api.MaxPrice, api.MaxPrice + 1} {
			for _, b := range []int64{-1, 0, api.MaxCap, api.MaxCap + 1} {
				e := api.Event{Kind: api.EvQuote, Pool: n, A: a, B: b}
				var want []api.Event
				if event.May(e) {
					want = append(want, e)
				}
				tells(t, "Quote", c.Act(api.Act{Kind: api.ActQuote, N: n, A: a, B: b, At: 9}), want...)
			}
		}
	}
	for _, kind := range []uint8{0, 10, 255} {
		tells(t, "no act", c.Act(api.Act{Kind: kind}))
	}
}

// P19.2

func TestNoCloud(t *testing.T) {
	for _, c := range []*cloud.Cloud{nil, {}} {
		tells(t, "Ask", c.Ask(launch(1)))
		tells(t, "Act", c.Act(api.Act{Kind: api.ActQuote, A: 5}))
		if c.Waits() != nil || c.Grants() != nil || c.Tell() != nil || c.Copy() != nil {
			t.Errorf("no cloud has something")
		}
	}
}

func TestWaitsGrantsTellCopy(t *testing.T) {
	c := with(api.CloudUp, api.CloudGone, api.CloudStopped, api.CloudBooting)
	c.Ask(launch(1))
	c.Ask(launch(2))
	c.Ask(launch(3))
	c.Act(api.Act{Kind: api.ActRefuse, N: 2})
	is(t, "Tell", c.Tell(), []api.Told{{Id: 1, Token: 101, State: api.CloudUp}, {Id: 3, Token: 103, State: api.CloudStopped}, {Id: 4, Token: 104, State: api.CloudBooting}})
	x := c.Copy()
	is(t, "the copy", []any{x.Waits(), x.Grants(), x.Tell()}, []any{c.Waits(), c.Grants(), c.Tell()})
	clear(c.Waits())
	clear(c.Grants())
	c.Act(api.Act{Kind: api.ActRefuse})
	c.Act(api.Act{Kind: api.ActGrant})
	c.Act(api.Act{Kind: api.ActKill})
	is(t, "Waits", len(c.Waits()), 0)
	is(t, "Waits of the copy", x.Waits(), []api.Request{launch(1), launch(2)})
	is(t, "states of the copy", states(x), []uint8{api.CloudUp, api.CloudGone, api.CloudStopped, api.CloudBooting})
	tells(t, "what the copy refused", x.Ask(launch(3)), ev(api.EvRefused, 3, 0))
	tells(t, "what the copy did not refuse", x.Ask(launch(1)))
	is(t, "Waits of the copy", len(x.Waits()), 2)
}

// P19.3

func TestOneInstanceOfATokenAndGoneStaysGone(t *testing.T) {
	c := cloud.New()
	seed := uint32(1)
	next := func(n int) int {
		seed = seed*1664525 + 1013904223
		return int(seed>>8) % n
	}
	gone := map[uint64]int{}
	for i := range 20000 {
		if next(2) == 0 {
			c.Ask(api.Request{Kind: uint8(1 + next(4)), Token: uint64(next(300)), Id: uint64(next(40)), Pool: next(3)})
		} else {
			c.Act(api.Act{Kind: uint8(1 + next(9)), N: next(8), A: 5, At: uint64(next(9))})
		}
		tokens := map[uint64]int{}
		for at, g := range c.Grants() {
			tokens[g.Token]++
			if g.Id != uint64(at+1) || tokens[g.Token] > 1 || gone[g.Id] > 0 && g.State != api.CloudGone {
				t.Fatalf("call %d: %v at %d, %d of its token", i, g, at, tokens[g.Token])
			}
			if g.State == api.CloudGone {
				gone[g.Id]++
			}
		}
		waits := map[uint64]int{}
		for _, r := range c.Waits() {
			waits[r.Token]++
			if waits[r.Token] > 1 || r.Kind != api.AskLaunch && gone[r.Id] > 0 || r.Kind == api.AskLaunch && tokens[r.Token] > 0 {
				t.Fatalf("call %d: %v waits", i, r)
			}
		}
	}
}
