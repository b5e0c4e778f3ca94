package disk_test

import (
	"math"
	"slices"
	"testing"

	"cohort/api"
	"cohort/disk"
)

func is[T comparable](t *testing.T, what string, got, want T) {
	t.Helper()
	if got != want {
		t.Errorf("%s: %v, want %v", what, got, want)
	}
}

// full is a block of one byte; halves one of two.
func full(c byte) api.Block { return halves(c, c) }

func halves(a, b byte) (x api.Block) {
	for i := range x {
		x[i] = a
		if i >= api.Size/2 {
			x[i] = b
		}
	}
	return x
}

func made(t *testing.T) *disk.Disk {
	t.Helper()
	d, e := disk.New(api.MinBlocks)
	if d == nil || e != api.OK {
		t.Fatalf("New: %d", int(e))
	}
	return d
}

func reads(t *testing.T, d *disk.Disk, n int, want api.Block) {
	t.Helper()
	if b, e := d.Read(n); b != want || e != api.OK {
		t.Errorf("Read(%d) = %x, %d, want %x", n, b, int(e), want)
	}
}

// P6.1

func TestNew(t *testing.T) {
	for _, n := range []int{math.MinInt, -1, 0, 1, 63, api.MaxBlocks + 1, math.MaxInt} {
		if d, e := disk.New(n); d != nil || e != api.ErrArg {
			t.Errorf("New(%d): %d", n, int(e))
		}
	}
	for _, n := range []int{64, 65, 400, api.MaxBlocks} {
		d, e := disk.New(n)
		if d == nil || e != api.OK || d.Blocks() != n {
			t.Fatalf("New(%d): %d", n, int(e))
		}
		reads(t, d, 0, api.Block{})
		reads(t, d, n-1, api.Block{})
		_, e = d.Read(n)
		is(t, "Read behind the last", e, api.ErrArg)
	}
}

func TestTheChaptersExample(t *testing.T) {
	d := made(t)
	is(t, "Arm(2)", d.Arm(2), api.OK)
	is(t, "Write", d.Write(0, full(0x11)), api.OK)
	is(t, "Flush", d.Flush(), api.ErrPower)
	_, e := d.Read(0)
	is(t, "Read", e, api.ErrPower)
	is(t, "Crash", d.Crash([]int{3}), api.OK)
	reads(t, d, 0, halves(0x11, 0))
	is(t, "Steps", d.Steps(), 1)
	is(t, "Write(64)", d.Write(64, full(1)), api.ErrArg)
}

func TestByDay(t *testing.T) {
	d := made(t)
	for _, n := range []int{-1, 64, math.MinInt, math.MaxInt} {
		b, e := d.Read(n)
		is(t, "Read of none", e, api.ErrArg)
		is(t, "what it told", b, api.Block{})
		is(t, "Write of none", d.Write(n, full(1)), api.ErrArg)
	}
	is(t, "Arm(-1)", d.Arm(-1), api.ErrArg)
	is(t, "Steps of what was refused", d.Steps(), 0)
	is(t, "Write", d.Write(63, full(7)), api.OK)
	reads(t, d, 63, full(7))
	is(t, "Loose", d.Loose(), 1)
	s, e := d.Sure(63)
	is(t, "Sure", s == api.Block{} && e == api.OK, true)
	is(t, "Flush", d.Flush(), api.OK)
	is(t, "Loose", d.Loose(), 0)
	s, e = d.Sure(63)
	is(t, "Sure", s == full(7) && e == api.OK, true)
	is(t, "Flush of nothing", d.Flush(), api.OK)
	is(t, "Steps", d.Steps(), 3)
}

func TestAlarm(t *testing.T) {
	d := made(t)
	d.Arm(3)
	d.Write(99, full(1)) // refused: no step
	d.Arm(-1)            // refused: the alarm stays
	is(t, "step 1", d.Write(0, full(1)), api.OK)
	is(t, "step 2", d.Flush(), api.OK)
	is(t, "step 3", d.Write(1, full(1)), api.ErrPower)
	is(t, "Dark", d.Dark(), true)
	is(t, "Steps", d.Steps(), 2)
	d.Crash(nil)
	reads(t, d, 1, api.Block{})
	d.Arm(1)
	d.Arm(2) // takes the place of the one ahead
	is(t, "step 1", d.Flush(), api.OK)
	is(t, "step 2", d.Flush(), api.ErrPower)
	d.Crash(nil)
	d.Arm(1)
	d.Arm(0)
	is(t, "a step without an alarm", d.Flush(), api.OK)
	d.Arm(1)
	d.Crash(nil) // by day: no alarm is set behind it
	is(t, "a step behind morning", d.Flush(), api.OK)
}

func TestNight(t *testing.T) {
	d := made(t)
	d.Arm(1)
	is(t, "Write", d.Write(0, full(1)), api.ErrPower)
	b, e := d.Read(-1)
	is(t, "Read of none at night", e == api.ErrPower && b == api.Block{}, true)
	is(t, "Write of none at night", d.Write(64, full(1)), api.ErrPower)
	is(t, "Flush at night", d.Flush(), api.ErrPower)
	is(t, "Arm(-1) at night", d.Arm(-1), api.ErrPower)
	is(t, "Arm at night", d.Arm(5), api.ErrPower)
	is(t, "Dark", d.Dark(), true)
	is(t, "Loose", d.Loose(), 0)
	is(t, "Blocks", d.Blocks(), 64)
}

func TestNoDisk(t *testing.T) {
	for _, d := range []*disk.Disk{nil, {}} {
		_, e := d.Read(0)
		is(t, "Read", e, api.ErrNil)
		is(t, "Write", d.Write(-1, api.Block{}), api.ErrNil)
		is(t, "Flush", d.Flush(), api.ErrNil)
		is(t, "Arm", d.Arm(-1), api.ErrNil)
		_, e = d.Sure(-1)
		is(t, "Sure", e, api.ErrNil)
		is(t, "Crash", d.Crash(nil), api.ErrNil)
		is(t, "Copy", d.Copy() == nil, true)
		is(t, "the rest", d.Blocks() == 0 && !d.Dark() && d.Steps() == 0 && d.Loose() == 0, true)
	}
}

// P6.2

func TestSure(t *testing.T) {
	d := made(t)
	for _, n := range []int{-1, 64} {
		b, e := d.Sure(n)
		is(t, "Sure of none", b == api.Block{} && e == api.ErrArg, true)
	}
	d.Write(5, full(1))
	d.Flush()
	d.Write(5, full(2))
	d.Arm(1)
	d.Flush()
	b, e := d.Sure(5)
	is(t, "Sure at night", b == full(1) && e == api.OK, true)
}

func TestPicks(t *testing.T) {
	for _, c := range []struct {
		pick int
		want api.Block
	}{
		{0, full(1)}, {-1, full(1)}, {math.MinInt, full(1)}, {-2, full(1)},
		{1, halves(2, 1)}, {63, halves(2, 1)}, {3, halves(2, 1)},
		{2, halves(1, 2)}, {62, halves(1, 2)},
		{64, full(2)}, {65, full(2)}, {math.MaxInt, full(2)}, {66, full(2)},
	} {
		d := made(t)
		d.Write(9, full(1))
		d.Flush()
		d.Write(9, full(2))
		d.Crash([]int{c.pick})
		reads(t, d, 9, c.want)
		if s, _ := d.Sure(9); s != c.want {
			t.Errorf("pick %d: held is %x", c.pick, s)
		}
		is(t, "Loose", d.Loose(), 0)
	}
}

func TestPicksOfSeveralWrites(t *testing.T) {
	d := made(t)
	d.Write(0, full(1))
	d.Write(1, full(2))
	d.Write(0, full(3))
	d.Write(0, full(4))
	d.Write(2, full(5))
	is(t, "Loose", d.Loose(), 5)
	picks := []int{64, 2, 1, 0}
	d.Crash(picks)
	reads(t, d, 0, halves(3, 1))
	reads(t, d, 1, halves(0, 2))
	reads(t, d, 2, api.Block{}) // the picks are used up
	is(t, "the picks", slices.Equal(picks, []int{64, 2, 1, 0}), true)
	d.Crash([]int{64, 64})
	reads(t, d, 2, api.Block{})
}

func TestCopy(t *testing.T) {
	d := made(t)
	d.Write(0, full(1))
	d.Flush()
	d.Write(0, full(2))
	d.Write(1, full(3))
	d.Arm(2)
	c := d.Copy()
	is(t, "Steps, Loose", c.Steps() == 4 && c.Loose() == 2 && c.Blocks() == 64, true)
	d.Write(0, full(9))
	d.Write(0, full(9))
	is(t, "Dark", d.Dark() && !c.Dark(), true)
	reads(t, c, 0, full(2))
	is(t, "step 1 of the copy", c.Write(5, full(5)), api.OK)
	is(t, "step 2 of the copy", c.Flush(), api.ErrPower)
	n := c.Copy()
	is(t, "Dark", n.Dark(), true)
	c.Crash([]int{64})
	reads(t, c, 0, full(2))
	reads(t, c, 1, api.Block{})
	n.Crash([]int{0, 64, 64})
	reads(t, n, 0, full(1))
	reads(t, n, 1, full(3))
	reads(t, n, 5, full(5))
	is(t, "Loose of the first", d.Loose(), 3)
}

// P6.3

func TestMorningAgainstAModel(t *testing.T) {
	d := made(t)
	asked, held := make([]api.Block, 64), make([]api.Block, 64)
	type write struct {
		n int
		b api.Block
	}
	var loose []write
	for i, seed := 0, uint32(1); i < 20000; i++ {
		seed = seed*1664525 + 1013904223
		n := int(seed>>8) % 5
		switch seed >> 28 {
		case 0:
			is(t, "Flush", d.Flush(), api.OK)
			copy(held, asked)
			loose = nil
		case 1:
			var picks []int
			for k := range int(seed>>16) % 12 {
				picks = append(picks, int(seed>>k)%80-10)
			}
			evening := slices.Clone(asked)
			before := slices.Clone(held)
			touched := map[int]int{}
			for k, w := range loose {
				touched[w.n]++
				p := 0
				if k < len(picks) {
					p = picks[k]
				}
				for at := range api.Size {
					first := at < api.Size/2
					if p >= api.Size || p >= 1 && (p%2 == 1) == first {
						held[w.n][at] = w.b[at]
					}
				}
			}
			switch seed >> 12 % 3 {
			case 0:
				picks = slices.Repeat([]int{api.Size}, len(loose))
				copy(held, evening)
			case 1:
				picks = nil
				copy(held, before)
			}
			is(t, "Crash", d.Crash(picks), api.OK)
			copy(asked, held)
			loose = nil
			for n := range 64 {
				if touched[n] == 0 && held[n] != evening[n] {
					t.Fatalf("the model is wrong of block %d", n)
				}
			}
		default:
			b := halves(byte(i), byte(i>>8))
			is(t, "Write", d.Write(n, b), api.OK)
			asked[n] = b
			loose = append(loose, write{n, b})
		}
		for n := range 6 {
			reads(t, d, n, asked[n])
			if s, e := d.Sure(n); s != held[n] || e != api.OK {
				t.Fatalf("call %d: Sure(%d) = %x, want %x", i, n, s, held[n])
			}
		}
		is(t, "Loose", d.Loose(), len(loose))
		if t.Failed() {
			t.Fatalf("call %d", i)
		}
	}
}
