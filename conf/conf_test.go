package conf_test

import (
	"bytes"
	"math"
	"reflect"
	"strconv"
	"testing"

	"cohort/api"
	"cohort/conf"
)

// small is the chapter's A; large has something of all.
func small() api.Config {
	return api.Config{Pools: []api.Pool{{Name: "a", Weight: 1}}, Strategy: api.Prioritized, Spread: 1, Max: 10, Deadline: 5}
}

func large() api.Config {
	return api.Config{
		Pools:    []api.Pool{pool("a", false, 1, 0), pool("b-2", true, 100, 1<<16), pool("m5-large", true, 7, 300)},
		Strategy: api.PriceCapacity, Spread: 64, Fallback: true, Min: 3, Max: 1 << 16, Base: 258, Percent: 100, Surge: 5, Warm: 6,
		Drain: 7, HookIn: 8, HookOut: 9, Black: 1 << 16, Deadline: 11, Cool: 12, Replace: true, Target: 1 << 20,
		Bands: []api.Band{band(-(1 << 20), -(1 << 16)), band(0, 0), band(1<<20, 1<<16)},
		Plans: []api.Plan{{At: 1 << 40, Each: 1 << 16, Desired: 1 << 16}, {}},
	}
}

func pool(name string, spot bool, weight, priority int64) api.Pool {
	return api.Pool{Name: name, Spot: spot, Weight: weight, Priority: priority}
}

func band(from, add int64) api.Band { return api.Band{From: from, Add: add} }

func pools(n int) []api.Pool {
	var l []api.Pool
	for i := range n {
		l = append(l, api.Pool{Name: "p" + strconv.Itoa(i), Weight: 1})
	}
	return l
}

func bands(n int) []api.Band {
	var l []api.Band
	for i := range n {
		l = append(l, api.Band{From: int64(i)})
	}
	return l
}

// change is a config that was changed, and what Check is to tell.
type change struct {
	do func(c *api.Config)
	e  api.Errno
}

func changes() []change {
	neg, big := int64(math.MinInt64), int64(math.MaxInt64)
	return []change{
		{func(c *api.Config) {}, 0},
		{func(c *api.Config) { c.Pools = pools(64) }, 0},
		{func(c *api.Config) { c.Pools = pools(65) }, api.ErrLimit},
		{func(c *api.Config) { c.Pools = append(pools(64), pools(1)...) }, api.ErrLimit},
		{func(c *api.Config) { c.Pools = nil }, api.ErrArg},
		{func(c *api.Config) { c.Pools = append(pools(2), pools(1)...) }, api.ErrTwice},
		{func(c *api.Config) { c.Pools = make([]api.Pool, 2) }, api.ErrTwice},
		{func(c *api.Config) { c.Pools = append(pools(2), pools(1)...); c.Strategy = 0 }, api.ErrTwice},
		{func(c *api.Config) { c.Pools = append(pools(2), pools(1)...); c.Bands = bands(9) }, api.ErrLimit},
		{func(c *api.Config) { c.Pools[0].Name = "" }, api.ErrArg},
		{func(c *api.Config) { c.Pools[0].Name = "A" }, api.ErrArg},
		{func(c *api.Config) { c.Pools[0].Name = "aaaaaaaaaaaaaaaaaaaaaaaaa" }, api.ErrArg},
		{func(c *api.Config) { c.Pools[0].Weight = 0 }, api.ErrArg}, {func(c *api.Config) { c.Pools[0].Weight = 101 }, api.ErrArg}, {func(c *api.Config) { c.Pools[0].Weight = 100 }, 0},
		{func(c *api.Config) { c.Pools[0].Priority = -1 }, api.ErrArg}, {func(c *api.Config) { c.Pools[0].Priority = 1<<16 + 1 }, api.ErrArg}, {func(c *api.Config) { c.Pools[0].Priority = 1 << 16 }, 0},
		{func(c *api.Config) { c.Strategy = 0 }, api.ErrArg}, {func(c *api.Config) { c.Strategy = 5 }, api.ErrArg}, {func(c *api.Config) { c.Strategy = 4 }, 0},
		{func(c *api.Config) { c.Spread = 0 }, api.ErrArg}, {func(c *api.Config) { c.Spread = 65 }, api.ErrArg}, {func(c *api.Config) { c.Spread = 64 }, 0},
		{func(c *api.Config) { c.Min = -1 }, api.ErrArg}, {func(c *api.Config) { c.Min = 11 }, api.ErrArg}, {func(c *api.Config) { c.Min = 10 }, 0},
		{func(c *api.Config) { c.Max = -1 }, api.ErrArg}, {func(c *api.Config) { c.Max = 1<<16 + 1 }, api.ErrArg}, {func(c *api.Config) { c.Max = 1 << 16 }, 0}, {func(c *api.Config) { c.Min, c.Max = -2, -1 }, api.ErrArg},
		{func(c *api.Config) { c.Base = -1 }, api.ErrArg}, {func(c *api.Config) { c.Base = 1<<16 + 1 }, api.ErrArg}, {func(c *api.Config) { c.Base = 1 << 16 }, 0},
		{func(c *api.Config) { c.Percent = -1 }, api.ErrArg}, {func(c *api.Config) { c.Percent = 101 }, api.ErrArg}, {func(c *api.Config) { c.Percent = 100 }, 0},
		{func(c *api.Config) { c.Surge = neg }, api.ErrArg}, {func(c *api.Config) { c.Surge = 1<<16 + 1 }, api.ErrArg}, {func(c *api.Config) { c.Surge = 1 << 16 }, 0},
		{func(c *api.Config) { c.Warm = -1 }, api.ErrArg}, {func(c *api.Config) { c.Warm = big }, api.ErrArg}, {func(c *api.Config) { c.Warm = 1 << 16 }, 0},
		{func(c *api.Config) { c.Drain = 1<<16 + 1 }, api.ErrArg}, {func(c *api.Config) { c.HookIn = 1<<16 + 1 }, api.ErrArg}, {func(c *api.Config) { c.HookOut = 1<<16 + 1 }, api.ErrArg},
		{func(c *api.Config) { c.Black = 1<<16 + 1 }, api.ErrArg}, {func(c *api.Config) { c.Cool = math.MaxUint64 }, api.ErrArg}, {func(c *api.Config) { c.Deadline = 1<<16 + 1 }, api.ErrArg},
		{func(c *api.Config) { c.Deadline = 0 }, api.ErrArg}, {func(c *api.Config) { c.Deadline = 1 }, 0},
		{func(c *api.Config) {
			c.Drain, c.HookIn, c.HookOut, c.Black, c.Cool, c.Deadline = 1<<16, 1<<16, 1<<16, 1<<16, 1<<16, 1<<16
		}, 0},
		{func(c *api.Config) { c.Target = -1 }, api.ErrArg}, {func(c *api.Config) { c.Target = 1<<20 + 1 }, api.ErrArg}, {func(c *api.Config) { c.Target = 1 << 20 }, 0},
		{func(c *api.Config) { c.Bands = bands(8) }, 0}, {func(c *api.Config) { c.Bands = bands(9) }, api.ErrLimit},
		{func(c *api.Config) { c.Bands = []api.Band{band(1, 0), band(1, 0)} }, api.ErrArg}, {func(c *api.Config) { c.Bands = []api.Band{band(2, 0), band(1, 0)} }, api.ErrArg},
		{func(c *api.Config) { c.Bands = []api.Band{band(-(1<<20)-1, 0)} }, api.ErrArg}, {func(c *api.Config) { c.Bands = []api.Band{band(1<<20+1, 0)} }, api.ErrArg},
		{func(c *api.Config) { c.Bands = []api.Band{band(0, -(1<<16)-1)} }, api.ErrArg}, {func(c *api.Config) { c.Bands = []api.Band{band(0, 1<<16+1)} }, api.ErrArg},
		{func(c *api.Config) { c.Plans = make([]api.Plan, 16) }, 0}, {func(c *api.Config) { c.Plans = make([]api.Plan, 17) }, api.ErrLimit},
		{func(c *api.Config) { c.Plans = []api.Plan{{At: 1<<40 + 1}} }, api.ErrArg}, {func(c *api.Config) { c.Plans = []api.Plan{{Each: 1<<16 + 1}} }, api.ErrArg},
		{func(c *api.Config) { c.Plans = []api.Plan{{Desired: -1}} }, api.ErrArg}, {func(c *api.Config) { c.Plans = []api.Plan{{Desired: 1<<16 + 1}} }, api.ErrArg},
		{func(c *api.Config) { *c = api.Config{} }, api.ErrArg},
	}
}

// P11.1

func TestCheckAndBytes(t *testing.T) {
	for i, x := range changes() {
		c := small()
		x.do(&c)
		if e := conf.Check(c); e != x.e {
			t.Errorf("%d: Check = %d, want %d", i, int(e), int(x.e))
		}
		b, e := conf.Bytes(c)
		if e != x.e || (len(b) == 0) != (e != api.OK) {
			t.Errorf("%d: Bytes = %x, %d, want %d", i, b, int(e), int(x.e))
		}
	}
	if e := conf.Check(large()); e != api.OK {
		t.Errorf("Check of the large one = %d", int(e))
	}
}

func TestTheBytes(t *testing.T) {
	b, e := conf.Bytes(small())
	if len(b) != 64 || !bytes.Equal(b[:3], []byte{1, 1, 'a'}) || e != api.OK {
		t.Errorf("Bytes(A) = %x, %d", b, int(e))
	}
	want := "\x03" + "\x01a\x00\x01\x00\x00\x00\x00" + "\x03b-2\x01\x64\x00\x00\x01\x00" + "\x08m5-large\x01\x07\x2c\x01\x00\x00" +
		"\x04\x40\x01" + "\x03\x00\x00\x00" + "\x00\x00\x01\x00" + "\x02\x01\x00\x00" + "\x64" + "\x05\x00\x00\x00" + "\x06\x00\x00\x00" +
		"\x07\x00\x00\x00" + "\x08\x00\x00\x00" + "\x09\x00\x00\x00" + "\x00\x00\x01\x00" + "\x0b\x00\x00\x00" + "\x0c\x00\x00\x00" +
		"\x01" + "\x00\x00\x10\x00" +
		"\x03" + "\x00\x00\x00\x00\x00\x00\x00\x00" + "\x00\x00\x10\x00\x00\x00\x01\x00" + "\x00\x00\x20\x00\x00\x00\x02\x00" +
		"\x02" + "\x00\x00\x00\x00\x00\x01\x00\x00\x00\x00\x01\x00\x00\x00\x01\x00" + "\x00\x00\x00\x00\x00\x00\x00\x00\x00\x00\x00\x00\x00\x00\x00\x00"
	if b, e := conf.Bytes(large()); string(b) != want || e != api.OK {
		t.Errorf("Bytes(large) = %x, %d, want %x", b, int(e), want)
	}
}

// P11.2

func TestRead(t *testing.T) {
	b, _ := conf.Bytes(small())
	for _, at := range []int{-1, len(b) + 1, math.MinInt, math.MaxInt} {
		if c, next, e := conf.Read(b, at); e != api.ErrArg || next != 0 || !reflect.DeepEqual(c, api.Config{}) {
			t.Errorf("Read at %d: %d, %d", at, next, int(e))
		}
	}
	if _, _, e := conf.Read(b, len(b)); e != api.ErrShort {
		t.Errorf("Read at the end: %d", int(e))
	}
	for _, c := range []api.Config{small(), large()} {
		b, _ := conf.Bytes(c)
		for i := range b {
			if got, next, e := conf.Read(b[:i], 0); e != api.ErrShort || next != 0 || !reflect.DeepEqual(got, api.Config{}) {
				t.Errorf("Read of %d of %d bytes: %d", i, len(b), int(e))
			}
		}
	}
}

func TestReadRefuses(t *testing.T) {
	b, _ := conf.Bytes(small())
	for _, x := range []struct {
		at int
		to byte
		e  api.Errno
	}{
		{3, 2, api.ErrForm}, {11, 255, api.ErrForm}, {57, 2, api.ErrForm}, // truths
		{3, 1, 0}, {11, 1, 0}, {57, 1, 0},
		{0, 0, api.ErrForm}, {0, 255, api.ErrShort}, {1, 255, api.ErrShort},
		{2, 'A', api.ErrForm}, {4, 0, api.ErrForm}, {4, 101, api.ErrForm}, {7, 1, 0}, {8, 1, api.ErrForm}, {9, 0, api.ErrForm}, {9, 5, api.ErrForm},
		{10, 65, api.ErrForm}, {12, 11, api.ErrForm}, {24, 101, api.ErrForm}, {49, 0, api.ErrForm}, {49, 1, 0}, {62, 9, api.ErrShort}, {63, 1, api.ErrShort},
	} {
		l := bytes.Clone(b)
		l[x.at] = x.to
		if _, _, e := conf.Read(l, 0); e != x.e {
			t.Errorf("byte %d is %d: Read %d, want %d", x.at, x.to, int(e), int(x.e))
		}
	}
	// A truth that is none is told ahead of what is missing behind it.
	l := bytes.Clone(b[:20])
	l[11] = 2
	if _, _, e := conf.Read(l, 0); e != api.ErrForm {
		t.Errorf("a truth that is none, and too few bytes: %d", int(e))
	}
	// Two pools of one name, more bands than may be: ErrForm alike.
	first := b[1:9]
	two := append([]byte{2}, append(append(bytes.Clone(first), first...), b[9:]...)...)
	many := append(append(bytes.Clone(b[:62]), 9), append(make([]byte, 9*8), 0)...)
	for _, l := range [][]byte{two, many} {
		if _, _, e := conf.Read(l, 0); e != api.ErrForm {
			t.Errorf("Read(%x) = %d", l, int(e))
		}
	}
}

// P11.3

func TestSame(t *testing.T) {
	if !conf.Same(api.Config{}, api.Config{Pools: []api.Pool{}, Bands: []api.Band{}, Plans: []api.Plan{}}) {
		t.Errorf("lists that are nil are others than lists without elements")
	}
	differs := []func(c *api.Config){
		func(c *api.Config) { c.Pools = c.Pools[:2] }, func(c *api.Config) { c.Pools[1].Name = "x" }, func(c *api.Config) { c.Pools[1].Spot = false },
		func(c *api.Config) { c.Pools[1].Weight-- }, func(c *api.Config) { c.Pools[1].Priority-- }, func(c *api.Config) { c.Strategy-- }, func(c *api.Config) { c.Spread-- },
		func(c *api.Config) { c.Fallback = false }, func(c *api.Config) { c.Min-- }, func(c *api.Config) { c.Max-- }, func(c *api.Config) { c.Base-- }, func(c *api.Config) { c.Percent-- },
		func(c *api.Config) { c.Surge-- }, func(c *api.Config) { c.Warm-- }, func(c *api.Config) { c.Drain-- }, func(c *api.Config) { c.HookIn-- }, func(c *api.Config) { c.HookOut-- },
		func(c *api.Config) { c.Black-- }, func(c *api.Config) { c.Deadline-- }, func(c *api.Config) { c.Cool-- }, func(c *api.Config) { c.Replace = false }, func(c *api.Config) { c.Target-- },
		func(c *api.Config) { c.Bands = nil }, func(c *api.Config) { c.Bands[1].From-- }, func(c *api.Config) { c.Bands[1].Add-- },
		func(c *api.Config) { c.Plans = c.Plans[1:] }, func(c *api.Config) { c.Plans[0].At-- }, func(c *api.Config) { c.Plans[0].Each-- }, func(c *api.Config) { c.Plans[0].Desired-- },
	}
	for i, do := range differs {
		c := large()
		if !conf.Same(c, large()) {
			t.Fatalf("it is not the same as itself")
		}
		do(&c)
		if conf.Same(c, large()) || conf.Same(large(), c) {
			t.Errorf("%d: they are the same", i)
		}
	}
}

func TestCopy(t *testing.T) {
	c := large()
	x := conf.Copy(c)
	if !reflect.DeepEqual(x, large()) {
		t.Errorf("Copy = %v", x)
	}
	x.Pools[0].Name, x.Bands[0].From, x.Plans[0].At = "z", 5, 5
	_ = append(x.Pools[:1], api.Pool{})
	if !reflect.DeepEqual(c, large()) {
		t.Errorf("a copy shares memory: %v", c)
	}
	if !conf.Same(conf.Copy(api.Config{Max: -5}), api.Config{Max: -5}) {
		t.Errorf("Copy of one that may not be")
	}
}

func TestWeightAndClasses(t *testing.T) {
	for _, x := range []struct {
		c            api.Config
		weight       int64
		demand, spot int
	}{
		{api.Config{}, 0, 0, 0}, {small(), 1, 1, 0}, {large(), 100, 1, 2},
		{api.Config{Pools: []api.Pool{{Weight: -7, Spot: true}, {Weight: -5, Spot: true}}}, -5, 0, 2},
	} {
		demand, spot := conf.Classes(x.c)
		if conf.Weight(x.c) != x.weight || demand != x.demand || spot != x.spot {
			t.Errorf("Weight %d, Classes %d, %d", conf.Weight(x.c), demand, spot)
		}
	}
}

// P11.4

func TestWhatIsLaidIsRead(t *testing.T) {
	all := changes()
	for i, x := range all {
		for _, c := range []api.Config{small(), large()} {
			x.do(&c)
			if i > 0 && i < len(all)-1 && all[i+1].e == api.OK {
				all[i+1].do(&c)
			}
			b, e := conf.Bytes(c)
			if e != api.OK {
				continue
			}
			for _, ahead := range []int{0, 1, 100} {
				l := append(append(make([]byte, ahead), b...), 1, 2, 3)
				got, next, e := conf.Read(l, ahead)
				if e != api.OK || next != ahead+len(b) || !conf.Same(got, c) {
					t.Fatalf("%d: %v is laid, read as %v, %d, %d", i, c, got, next, int(e))
				}
			}
		}
	}
}

func TestWhatIsReadHasJustTheseBytes(t *testing.T) {
	for _, c := range []api.Config{small(), large()} {
		b, _ := conf.Bytes(c)
		l := make([]byte, len(b))
		for i := range b {
			for to := range 256 {
				copy(l, b)
				l[i] = byte(to)
				got, next, e := conf.Read(l, 0)
				if e != api.OK {
					continue
				}
				if back, e := conf.Bytes(got); e != api.OK || !bytes.Equal(back, l[:next]) {
					t.Fatalf("%x is read, and laid as %x, %d", l[:next], back, int(e))
				}
			}
		}
	}
}
