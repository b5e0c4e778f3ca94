package fleet_test

import (
	"slices"
	"testing"

	"cohort/api"
	"cohort/box"
	"cohort/cloud"
	"cohort/conf"
	"cohort/extra"
	"cohort/fleet"
	"cohort/plan"
	"cohort/rank"
	"cohort/sums"
	"cohort/victim"
)

// dice tells numbers below n, of a kind that its seed tells.
type dice uint32

func (d *dice) below(n int) int {
	*d = *d*1664525 + 1013904223
	return int(*d>>8) % n
}

func (d *dice) config() api.Config {
	c := api.Config{Strategy: uint8(1 + d.below(4)), Spread: int64(1 + d.below(3)), Fallback: d.below(2) == 0, Max: 20, Base: int64(d.below(5)), Percent: int64(d.below(101)), Surge: int64(d.below(5)), Warm: int64(d.below(4)),
		Drain: uint64(d.below(3)), HookIn: uint64(d.below(3)), HookOut: uint64(d.below(3)), Black: uint64(d.below(6)), Deadline: uint64(3 + d.below(8)), Cool: uint64(d.below(4)), Replace: d.below(2) == 0, Target: int64(d.below(2) * 50)}
	for i := range 1 + d.below(4) {
		c.Pools = append(c.Pools, api.Pool{Name: string([]byte{'a' + byte(i)}), Spot: d.below(2) == 0, Weight: int64(1 + d.below(4)), Priority: int64(d.below(3))})
	}
	if d.below(4) == 0 {
		c.Plans = []api.Plan{{At: uint64(d.below(50)), Each: uint64(d.below(20)), Desired: int64(d.below(20))}}
	}
	return c
}

// says tells an event of the operator's.
func (d *dice) says() api.Event {
	id := uint64(1 + d.below(30))
	return []api.Event{
		{Kind: api.EvDesired, A: int64(d.below(22))}, {Kind: api.EvDesired, A: int64(d.below(12))}, {Kind: api.EvConfig, Config: d.config()}, {Kind: api.EvHold, Id: id, On: d.below(2) == 0}, {Kind: api.EvBeat, Id: id}, {Kind: api.EvDone, Id: id, On: d.below(3) > 0}, {Kind: api.EvDone, Id: id, On: true},
		{Kind: api.EvMetric, A: int64(d.below(100))}, {Kind: api.EvRefresh, A: int64(d.below(101)), B: int64(100 + d.below(101)), At: uint64(d.below(101))}, {Kind: api.EvCancel}, {Kind: api.EvRollback},
	}[d.below(11)]
}

// acts tells an act of the cloud's; it grants more often than it refuses.
func (d *dice) acts(now uint64, many int) api.Act {
	kinds := []uint8{api.ActGrant, api.ActGrant, api.ActGrant, api.ActRefuse, api.ActReady, api.ActReady, api.ActReady, api.ActReady, api.ActStop, api.ActStop, api.ActEnd, api.ActEnd, api.ActNotice, api.ActKill, api.ActRisk, api.ActQuote, api.ActQuote}
	a := api.Act{Kind: kinds[d.below(len(kinds))], N: d.below(4), A: int64(1 + d.below(9)), B: int64(d.below(9))}
	switch a.Kind {
	case api.ActReady, api.ActNotice, api.ActKill, api.ActRisk:
		a.N = max(0, many-12) + d.below(12)
	}
	if a.Kind == api.ActNotice {
		a.At = now + 5
	}
	return a
}

// checkPlanned holds what a step planned against the whole's promises.
func checkPlanned(t *testing.T, mid, next api.State) {
	t.Helper()
	there := sums.Of(next.Insts, next.Opens, 0)
	most := conf.Weight(next.Config)
	asked := false
	for _, o := range next.Opens {
		if o.R.Token <= mid.Token || o.R.Kind == api.AskEnd || o.R.Warm {
			continue
		}
		asked = true
		if o.R.Kind == api.AskStart {
			i, _ := sums.Find(next.Insts, o.R.Id)
			most = max(most, i.Weight)
			continue
		}
		order := rank.Order(mid.Config, mid.Quotes, o.Spot, mid.Now)
		if mid.Config.Strategy == api.LowestPrice {
			order = order[:min(len(order), int(mid.Config.Spread))]
		} else {
			order = order[:min(len(order), 1)]
		}
		if !slices.Contains(order, o.R.Pool) {
			t.Fatalf("P0.1: the pool %d is asked, where %d are first: %+v", o.R.Pool, order, mid)
		}
	}
	if asked && there.Live+there.Coming >= next.Desired+extra.Of(next)+most {
		t.Fatalf("P0.3: there is %d, Desired %d, Extra %d: %+v", there.Live+there.Coming, next.Desired, extra.Of(next), next)
	}
	for _, i := range mid.Insts {
		n, _ := sums.Find(next.Insts, i.Id)
		if i.State == api.Serving && n.State == api.Draining && !i.Spot && there.LiveDemand < victim.Floor(next) {
			t.Fatalf("P0.2: %d is drained, behind it is %d of the floor %d: %+v", i.Id, there.LiveDemand, victim.Floor(next), mid)
		}
	}
}

// P30.3, P0.1 to P0.3

func TestWhatFollows(t *testing.T) {
	asked, served, refreshed := 0, 0, 0
	for seed := range 150 {
		d := dice(seed)
		c := cloud.New()
		s, e := box.New(d.config(), 0)
		if e != api.OK {
			t.Fatalf("seed %d: no state, %d", seed, int(e))
		}
		var l []api.Event
		for pool := range s.Config.Pools {
			l = append(l, c.Act(api.Act{Kind: api.ActQuote, N: pool, A: int64(1 + d.below(9)), B: int64(d.below(9))})...)
		}
		for now := uint64(1); now < 80; now++ {
			for range d.below(3) {
				l = append(l, d.says())
			}
			for range d.below(20) {
				l = append(l, c.Act(d.acts(now, len(c.Grants())))...)
			}
			mid := box.Copy(s)
			mid.Now = now
			for _, x := range l {
				mid, _ = fleet.One(mid, x)
			}
			mid = fleet.Clock(mid)
			next, out, told, e := fleet.Step(s, now, l)
			if e != api.OK || len(told) != len(l) || !box.May(next) || !box.Same(next, plan.All(mid)) {
				t.Fatalf("seed %d, tick %d: Step %d: %+v", seed, now, int(e), next)
			}
			checkPlanned(t, mid, next)
			l = nil
			for _, r := range out {
				l = append(l, c.Ask(r)...)
			}
			asked += len(out)
			s = next
			if sum := sums.Of(s.Insts, nil, 0); sum.Live > 0 {
				served++
			}
			if s.Refresh.On {
				refreshed++
			}
		}
	}
	if asked < 3000 || served < 2000 || refreshed < 1000 {
		t.Errorf("%d went out, it served at %d ticks, a refresh was On at %d: too few to tell", asked, served, refreshed)
	}
}
