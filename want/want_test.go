package want_test

import (
	"math"
	"slices"
	"testing"

	"cohort/api"
	"cohort/want"
)

// config is the chapter's.
func config() api.Config { return api.Config{Min: 1, Max: 10, Target: 50, Cool: 5} }

func bands(c api.Config, l ...api.Band) api.Config {
	c.Bands = l
	return c
}

func band(from, add int64) api.Band { return api.Band{From: from, Add: add} }

// P24.1

func TestMetric(t *testing.T) {
	off := config()
	off.Target = 0
	steps := bands(config(), band(-20, -3), band(0, 0), band(10, 2))
	for i, x := range []struct {
		c            api.Config
		desired      int64
		until, now   uint64
		metric, want int64
		end          uint64
	}{
		{config(), 4, 0, 3, 100, 8, 8}, {config(), 8, 8, 7, 100, 8, 8}, {config(), 8, 8, 8, 100, 10, 13}, {config(), 4, 0, 3, 50, 4, 0},
		{config(), 4, 2, 3, 46, 4, 2}, {config(), 4, 2, 3, 0, 1, 8}, {config(), 1, 2, 3, 0, 1, 2}, {config(), 10, 2, 3, 99, 10, 2}, {config(), 0, 2, 3, 99, 1, 8}, {config(), 20, 2, 3, 50, 10, 8}, {config(), 20, 9, 3, 50, 20, 9},
		{off, 4, 2, 3, 100, 4, 2}, {off, 99, 2, 3, 100, 99, 2}, {off, 0, 2, 3, 0, 0, 2},
		{steps, 4, 0, 3, 65, 6, 8}, {steps, 4, 0, 3, 50, 4, 0}, {steps, 4, 0, 3, 40, 1, 8}, {steps, 3, 0, 3, 40, 1, 8}, {steps, 4, 0, 3, 29, 4, 0}, {steps, 9, 0, 3, 60, 10, 8}, {steps, 4, 4, 3, 65, 4, 4},
		{config(), 4, api.MaxTick + api.MaxSpan, api.MaxTick + api.MaxSpan, 100, 8, api.MaxTick + api.MaxSpan + 5}, {config(), api.MaxCap, 0, 3, api.MaxMetric, 10, 8},
	} {
		if n, end, e := want.Metric(x.c, x.desired, x.until, x.now, x.metric); n != x.want || end != x.end || e != api.OK {
			t.Errorf("%d: Metric = %d, %d, %d, want %d, %d", i, n, end, int(e), x.want, x.end)
		}
	}
}

func TestErrArgOfMetric(t *testing.T) {
	bad := bands(config(), band(1, 0), band(1, 0))
	for i, x := range []struct {
		do      func(c *api.Config)
		desired int64
		until   uint64
		now     uint64
		metric  int64
	}{
		{nil, 4, 0, 3, -1}, {nil, 4, 0, 3, api.MaxMetric + 1}, {nil, 4, 9, 3, -1}, {nil, -1, 0, 3, 50}, {nil, api.MaxCap + 1, 0, 3, 50}, {nil, math.MinInt64, 9, 3, 50},
		{nil, 4, api.MaxTick + api.MaxSpan + 1, 3, 50}, {nil, 4, 0, api.MaxTick + api.MaxSpan + 1, 50}, {nil, 4, math.MaxUint64, math.MaxUint64, 50},
		{func(c *api.Config) { c.Target = -1 }, 4, 0, 3, 50}, {func(c *api.Config) { c.Target = api.MaxMetric + 1 }, 4, 9, 3, 50}, {func(c *api.Config) { c.Cool = api.MaxSpan + 1 }, 4, 9, 3, 50}, {func(c *api.Config) { c.Cool, c.Target = math.MaxUint64, 0 }, 4, 0, 3, 50},
		{func(c *api.Config) { *c = bad }, 4, 0, 3, 50},
	} {
		c := config()
		if x.do != nil {
			x.do(&c)
		}
		if n, end, e := want.Metric(c, x.desired, x.until, x.now, x.metric); n != 0 || end != 0 || e != api.ErrArg {
			t.Errorf("%d: Metric = %d, %d, %d", i, n, end, int(e))
		}
	}
	// Bands that are not asked may be what they like.
	if n, end, e := want.Metric(bad, 4, 9, 3, 100); n != 4 || end != 9 || e != api.OK {
		t.Errorf("in the cooldown: %d, %d, %d", n, end, int(e))
	}
	bad.Target = 0
	if n, _, e := want.Metric(bad, 4, 0, 3, 100); n != 4 || e != api.OK {
		t.Errorf("without a target: %d, %d", n, int(e))
	}
}

func TestTheLongestCooldown(t *testing.T) {
	c := config()
	c.Cool = api.MaxSpan
	if n, end, e := want.Metric(c, 4, 0, 3, 100); n != 8 || end != 3+api.MaxSpan || e != api.OK {
		t.Errorf("Metric = %d, %d, %d", n, end, int(e))
	}
}

func TestSet(t *testing.T) {
	for _, x := range []struct {
		n, want int64
		e       api.Errno
	}{{99, 10, 0}, {-1, 0, api.ErrArg}, {0, 1, 0}, {1, 1, 0}, {5, 5, 0}, {10, 10, 0}, {11, 10, 0}, {api.MaxCap, 10, 0}, {api.MaxCap + 1, 0, api.ErrArg}, {math.MinInt64, 0, api.ErrArg}, {math.MaxInt64, 0, api.ErrArg}} {
		if n, e := want.Set(config(), x.n); n != x.want || e != x.e {
			t.Errorf("Set(%d) = %d, %d", x.n, n, int(e))
		}
	}
}

func TestClock(t *testing.T) {
	c := config()
	c.Plans = []api.Plan{{At: 5, Each: 10, Desired: 3}, {At: 7, Desired: 99}, {At: 8, Desired: 0}}
	for i, x := range []struct {
		next  []uint64
		now   uint64
		want  int64
		after []uint64
	}{
		{[]uint64{5, 7, 8}, 4, 77, []uint64{5, 7, 8}}, {[]uint64{5, 7, 8}, 5, 3, []uint64{15, 7, 8}}, {[]uint64{15, 7, 8}, 7, 10, []uint64{15, 0, 8}}, {[]uint64{15, 0, 8}, 9, 1, []uint64{15, 0, 0}},
		{[]uint64{5, 7}, 9, 77, []uint64{5, 7}}, {nil, 9, 77, nil}, {[]uint64{5, 7, 8}, api.MaxTick + 1, 77, []uint64{5, 7, 8}},
	} {
		kept := slices.Clone(x.next)
		n, after := want.Clock(c, 77, x.next, x.now)
		if n != x.want || !slices.Equal(after, x.after) || !slices.Equal(kept, x.next) {
			t.Errorf("%d: Clock = %d, %d", i, n, after)
		}
		if clear(after); !slices.Equal(kept, x.next) {
			t.Errorf("%d: Clock shares memory", i)
		}
	}
}

// P24.2

func TestFromMinToMax(t *testing.T) {
	c := config()
	c.Plans = []api.Plan{{At: 1, Each: 3, Desired: 99}, {At: 2, Each: 4}}
	steps := bands(c, band(-50, -4), band(0, 1), band(30, 9))
	for _, c := range []api.Config{c, steps} {
		desired, until, next := int64(5), uint64(0), []uint64{1, 2}
		for now := range uint64(500) {
			metric := int64(now*now*31) % 150
			n, end, e := want.Metric(c, desired, until, now, metric)
			if e != api.OK || n < c.Min || n > c.Max || now < until && (n != desired || end != until) || n != desired && end != now+c.Cool {
				t.Fatalf("at %d: Metric(%d, %d) = %d, %d, %d", now, desired, metric, n, end, int(e))
			}
			desired, until = n, end
			if desired, next = want.Clock(c, desired, next, now); desired < c.Min || desired > c.Max {
				t.Fatalf("at %d: Clock = %d", now, desired)
			}
			if n, e := want.Set(c, metric); e != api.OK || n < c.Min || n > c.Max {
				t.Fatalf("Set(%d) = %d, %d", metric, n, int(e))
			}
		}
	}
}
