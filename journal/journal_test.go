package journal_test

import (
	"bytes"
	"encoding/binary"
	"testing"

	"cohort/api"
	"cohort/disk"
	"cohort/journal"
	"cohort/seal"
)

func is[T comparable](t *testing.T, what string, got, want T) {
	t.Helper()
	if got != want {
		t.Errorf("%s: %v, want %v", what, got, want)
	}
}

func newDisk(t *testing.T, blocks int) *disk.Disk {
	t.Helper()
	d, e := disk.New(blocks)
	if e != api.OK {
		t.Fatalf("New(%d): %d", blocks, int(e))
	}
	return d
}

func made(t *testing.T, blocks int) (*disk.Disk, *journal.Journal) {
	t.Helper()
	d := newDisk(t, blocks)
	j, e := journal.Make(d)
	if j == nil || e != api.OK {
		t.Fatalf("Make: %d", int(e))
	}
	return d, j
}

// stuff is n bytes of a kind that seed tells, none of them 0.
func stuff(n, seed int) []byte {
	b := make([]byte, n)
	for i := range b {
		b[i] = byte(1 + (i*7+seed*31)%255)
	}
	return b
}

func same(a, b [][]byte) bool {
	if len(a) != len(b) {
		return false
	}
	for i := range a {
		if !bytes.Equal(a[i], b[i]) {
			return false
		}
	}
	return true
}

// leaf writes a leaf of a number by hand.
func leaf(t *testing.T, d *disk.Disk, n int, number uint64, h api.Head, rest ...byte) {
	t.Helper()
	body := make([]byte, 12)
	binary.LittleEndian.PutUint32(body, h.First)
	binary.LittleEndian.PutUint32(body[4:], h.Blocks)
	binary.LittleEndian.PutUint32(body[8:], h.Batches)
	b, e := seal.Put(number, append(body, rest...))
	if e != api.OK || d.Write(n, b) != api.OK {
		t.Fatalf("no leaf %d: %d", number, int(e))
	}
}

func opens(t *testing.T, what string, d *disk.Disk, want api.Errno) {
	t.Helper()
	before := d.Steps()
	j, e := journal.Open(d)
	if e != want || (j == nil) != (e != api.OK) || d.Steps() != before {
		t.Errorf("%s: Open %d, want %d, by %d steps", what, int(e), int(want), d.Steps()-before)
	}
}

// P8.1

func TestMakeAndOpen(t *testing.T) {
	for _, d := range []*disk.Disk{nil, {}} {
		j, e := journal.Make(d)
		is(t, "Make of none", j == nil && e == api.ErrNil, true)
		j, e = journal.Open(d)
		is(t, "Open of none", j == nil && e == api.ErrNil, true)
	}
	d := newDisk(t, 66)
	opens(t, "an empty disk", d, api.ErrForm)
	j, e := journal.Make(d)
	is(t, "Make", e, api.OK)
	is(t, "Steps of Make", d.Steps(), 5)
	is(t, "Room", j.Room(), 64)
	is(t, "Head", j.Head(), api.Head{})
	is(t, "Batches", len(j.Batches()), 0)
	opens(t, "what was made", d, api.OK)
	b, _ := d.Read(0)
	n, _, _ := seal.Get(b)
	is(t, "the first leaf's number", n, 1)
	d.Arm(1)
	d.Flush()
	j, e = journal.Make(d)
	is(t, "Make at night", j == nil && e == api.ErrPower, true)
	opens(t, "at night", d, api.ErrPower)
	for step := 1; step < 6; step++ {
		d := newDisk(t, 64)
		d.Arm(step)
		j, e := journal.Make(d)
		is(t, "Make, cut", j == nil && e == api.ErrPower, true)
	}
}

func TestMakeForgetsWhatThereWas(t *testing.T) {
	d, j := made(t, 64)
	for range 5 {
		j.Append(stuff(100, 1))
	}
	j, e := journal.Make(d)
	is(t, "Make", e, api.OK)
	is(t, "Room", j.Room(), 62)
	first, _ := d.Read(0)
	n, _, _ := seal.Get(first)
	second, _ := d.Read(1)
	is(t, "the leaves", n == 1 && second == api.Block{}, true)
	o, _ := journal.Open(d)
	is(t, "Room of what is opened", o.Room(), 62)
}

func TestOpenOfLeaves(t *testing.T) {
	for _, c := range []struct {
		h  api.Head
		e  api.Errno
		to []byte
	}{
		{api.Head{}, api.OK, nil},
		{api.Head{First: 61}, api.OK, nil},
		{api.Head{First: 62}, api.ErrForm, nil},
		{api.Head{First: 1 << 31}, api.ErrForm, nil},
		{api.Head{Blocks: 63, Batches: 63}, api.ErrForm, nil},
		{api.Head{First: 61, Blocks: 62, Batches: 62}, api.OK, nil}, // 62 batches of no bytes
		{api.Head{Blocks: 2, Batches: 2}, api.OK, nil},
		{api.Head{Blocks: 2, Batches: 1}, api.ErrForm, nil},
		{api.Head{Blocks: 2, Batches: 3}, api.ErrForm, nil},
		{api.Head{Blocks: 2}, api.ErrForm, nil},
		{api.Head{Batches: 1}, api.ErrForm, nil},
		{api.Head{}, api.ErrForm, []byte{1}}, // no 0s behind it
		{api.Head{}, api.ErrForm, append(make([]byte, 31), 1)},
		{api.Head{}, api.OK, make([]byte, 32)},
	} {
		d := newDisk(t, 64)
		leaf(t, d, 0, 1, c.h, c.to...)
		opens(t, "a leaf", d, c.e)
		leaf(t, d, 0, 7, api.Head{})
		leaf(t, d, 1, 8, c.h, c.to...)
		opens(t, "the newer leaf", d, c.e)
		leaf(t, d, 0, 9, api.Head{})
		opens(t, "an older leaf, which does not count", d, api.OK)
	}
}

func TestOpenOfNumbers(t *testing.T) {
	for _, c := range []struct {
		number uint64
		e      api.Errno
	}{{1, api.OK}, {1 << 61, api.OK}, {1<<61 + 1, api.ErrForm}, {1<<64 - 1, api.ErrForm}} {
		d := newDisk(t, 64)
		leaf(t, d, 1, c.number, api.Head{})
		opens(t, "a number", d, c.e)
		for _, at := range []int{4, 56} {
			leaf(t, d, 1, 5, api.Head{})
			var torn api.Block
			binary.LittleEndian.PutUint64(torn[at:], c.number)
			d.Write(0, torn)
			opens(t, "a number of a leaf that is not whole", d, c.e)
		}
	}
}

func TestOpenOfBatches(t *testing.T) {
	block := func(size int, from int) (b api.Block) {
		binary.LittleEndian.PutUint32(b[:], uint32(size))
		copy(b[4:from], bytes.Repeat([]byte{9}, 60))
		return b
	}
	for _, c := range []struct {
		what   string
		blocks []api.Block
		many   uint32
		e      api.Errno
	}{
		{"a batch of 60 bytes", []api.Block{block(60, 64)}, 1, api.OK},
		{"a batch of 59 bytes, and no 0 behind it", []api.Block{block(59, 64)}, 1, api.ErrForm},
		{"a batch of 61 bytes in one block", []api.Block{block(61, 64)}, 1, api.ErrForm},
		{"a batch of 61 bytes", []api.Block{block(61, 64), {9}}, 1, api.OK},
		{"a batch of 61 bytes, and no 0 behind it", []api.Block{block(61, 64), {9, 0, 0, 0, 0, 9}}, 1, api.ErrForm},
		{"two batches where one is told", []api.Block{block(3, 7), block(0, 4)}, 1, api.ErrForm},
		{"two batches", []api.Block{block(3, 7), block(0, 4)}, 2, api.OK},
		{"the last one too long", []api.Block{block(3, 7), block(61, 64)}, 2, api.ErrForm},
		{"more bytes than a batch has", []api.Block{block(1<<19+1, 64)}, 1, api.ErrForm},
		{"bytes beyond all", []api.Block{block(1<<32-1, 64)}, 1, api.ErrForm},
	} {
		d := newDisk(t, 64)
		for i, b := range c.blocks {
			d.Write(2+(60+i)%62, b)
		}
		leaf(t, d, 0, 3, api.Head{First: 60, Blocks: uint32(len(c.blocks)), Batches: c.many})
		opens(t, c.what, d, c.e)
	}
	d := newDisk(t, 9000)
	d.Write(2, block(api.MaxBatch+1, 4))
	leaf(t, d, 0, 1, api.Head{Blocks: 8193, Batches: 1})
	opens(t, "a batch that is too long", d, api.ErrForm)
	d.Write(2, block(api.MaxBatch, 4))
	opens(t, "the longest batch", d, api.OK)
}

// P8.2

func TestTheChaptersExample(t *testing.T) {
	d, j := made(t, 66)
	is(t, "Append(61)", j.Append(stuff(61, 1)), api.OK)
	is(t, "Room", j.Room(), 62)
	is(t, "Append(none)", j.Append(nil), api.OK)
	is(t, "Room", j.Room(), 61)
	is(t, "Batches", same(j.Batches(), [][]byte{stuff(61, 1), nil}), true)
	is(t, "Replace(7)", j.Replace(stuff(7, 2)), api.OK)
	is(t, "Batches", same(j.Batches(), [][]byte{stuff(7, 2)}), true)
	is(t, "Room", j.Room(), 63)
	is(t, "Head", j.Head(), api.Head{First: 3, Blocks: 1, Batches: 1})
	is(t, "Append(63 by 64)", j.Append(stuff(63*64, 3)), api.ErrFull)
	is(t, "Append(62 by 64 and 60)", j.Append(stuff(62*64+60, 3)), api.OK)
	is(t, "Room", j.Room(), 0)
	is(t, "Append(none)", j.Append(nil), api.ErrFull)
	is(t, "Replace(none)", j.Replace(nil), api.ErrFull)
	o, e := journal.Open(d)
	is(t, "Open", e, api.OK)
	is(t, "Batches", same(o.Batches(), [][]byte{stuff(7, 2), stuff(62*64+60, 3)}), true)
}

func TestErrorsOfAppendAndReplace(t *testing.T) {
	for _, j := range []*journal.Journal{nil, {}} {
		is(t, "Append of none", j.Append(make([]byte, api.MaxBatch+1)), api.ErrNil)
		is(t, "Replace of none", j.Replace(nil), api.ErrNil)
	}
	d, j := made(t, 64)
	long := make([]byte, api.MaxBatch+1)
	is(t, "Append too long", j.Append(long), api.ErrLimit)
	is(t, "Replace too long", j.Replace(long), api.ErrLimit)
	is(t, "Append too much", j.Append(long[1:]), api.ErrFull)
	is(t, "Replace too much", j.Replace(long[1:]), api.ErrFull)
	is(t, "Steps", d.Steps(), 5)
	d.Arm(1)
	d.Flush()
	is(t, "Append too long at night", j.Append(long), api.ErrLimit)
	is(t, "Append too much at night", j.Append(long[1:]), api.ErrPower)
	is(t, "Replace at night", j.Replace(nil), api.ErrPower)
	is(t, "what counts", j.Room() == 62 && j.Head() == api.Head{} && len(j.Batches()) == 0, true)
}

func TestTheLongestBatch(t *testing.T) {
	d, j := made(t, api.MaxBlocks)
	b := stuff(api.MaxBatch, 5)
	is(t, "Append", j.Append(b), api.OK)
	is(t, "Room", j.Room(), api.MaxBlocks-2-8193)
	o, e := journal.Open(d)
	is(t, "Open", e == api.OK && same(o.Batches(), [][]byte{b}), true)
}

func TestStepsAndNumbers(t *testing.T) {
	d, j := made(t, 64)
	for i := range uint64(20) {
		before := d.Steps()
		j.Append(stuff(61, 1))
		is(t, "Steps", d.Steps()-before, 2+1+2)
		b, _ := d.Read(int(i+1) % 2)
		n, _, e := seal.Get(b)
		is(t, "the leaf", n == i+2 && e == api.OK, true)
		is(t, "Loose", d.Loose(), 0)
	}
	// A leaf of which a half is left is not used again.
	var torn api.Block
	binary.LittleEndian.PutUint64(torn[56:], 1000)
	d.Write(1, torn)
	j.Append(nil)
	b, _ := d.Read(1)
	n, _, _ := seal.Get(b)
	is(t, "the number behind a torn one", n, 1001)
}

// P8.3

func TestBatchesRoomHead(t *testing.T) {
	for _, j := range []*journal.Journal{nil, {}} {
		is(t, "none", len(j.Batches()) == 0 && j.Room() == 0 && j.Head() == api.Head{}, true)
	}
	d, j := made(t, 70)
	var want [][]byte
	head := api.Head{}
	for i := range 300 {
		b := stuff(i*13%200, i)
		blocks := uint32(len(b)+4+63) / 64
		if i%7 == 6 {
			is(t, "Replace", j.Replace(b), api.OK)
			want = nil
			head = api.Head{First: (head.First + head.Blocks) % 68, Blocks: 0}
		} else {
			is(t, "Append", j.Append(b), api.OK)
		}
		want = append(want, b)
		head.Blocks += blocks
		head.Batches = uint32(len(want))
		o, e := journal.Open(d)
		for _, j := range []*journal.Journal{j, o} {
			if e != api.OK || j.Head() != head || j.Room() != 68-int(head.Blocks) || !same(j.Batches(), want) {
				t.Fatalf("call %d: %v, want %v, %d batches", i, j.Head(), head, len(j.Batches()))
			}
		}
		l := j.Batches()
		for _, b := range l {
			_ = append(b, 1, 2, 3)
			clear(b)
		}
		is(t, "what was told is the caller's", same(j.Batches(), want), true)
	}
}

func TestAtNight(t *testing.T) {
	d, j := made(t, 64)
	want := [][]byte{stuff(100, 1), nil, stuff(7, 2)}
	for _, b := range want {
		j.Append(b)
	}
	d.Arm(1)
	d.Flush()
	is(t, "what counts", same(j.Batches(), want) && j.Room() == 58 && j.Head() == api.Head{Blocks: 4, Batches: 3}, true)
}

func TestNoNumberIsLeft(t *testing.T) {
	d, j := made(t, 64)
	var b api.Block
	binary.LittleEndian.PutUint64(b[4:], 1<<64-1)
	d.Write(1, b)
	is(t, "Append", j.Append(nil) != api.OK && j.Room() == 62, true)
}

func TestBatchesAreNotKept(t *testing.T) {
	_, j := made(t, 64)
	room := append(stuff(9, 1), 77)
	j.Append(room[:9])
	room[0] = 200
	is(t, "the batch", same(j.Batches(), [][]byte{stuff(9, 1)}), true)
	is(t, "the room behind it", room[9], 77)
}

// P8.4

// mornings are picks of many kinds.
func mornings() [][]int {
	l := [][]int{nil, {64, 64, 64, 64, 64, 64, 64, 64}, {1, 1, 1, 1, 1, 1}, {2, 2, 2, 2, 2, 2}}
	for i := range 256 {
		var p []int
		for k := range 4 {
			p = append(p, []int{0, 1, 2, 64}[i>>(2*k)&3])
		}
		l = append(l, p)
	}
	return l
}

func TestNightInAppendAndReplace(t *testing.T) {
	for _, turns := range []int{0, 1, 5} {
		d, j := made(t, 64)
		var ahead [][]byte
		for i := range turns {
			ahead = append(ahead, stuff(40+i*20, i))
			j.Append(ahead[i])
		}
		b := stuff(70, 99)
		appended := append(append([][]byte{}, ahead...), b)
		for step := 1; step <= 6; step++ {
			for _, picks := range mornings() {
				for _, replace := range []bool{false, true} {
					c := d.Copy()
					k, _ := journal.Open(c)
					c.Arm(step)
					after, do := appended, k.Append
					if replace {
						after, do = [][]byte{b}, k.Replace
					}
					e := do(b)
					is(t, "night", (e == api.ErrPower) == (step < 6) && (step == 6) == (e == api.OK), true)
					c.Crash(picks)
					o, e := journal.Open(c)
					if e != api.OK || !same(o.Batches(), ahead) && !same(o.Batches(), after) {
						t.Fatalf("%d turns, step %d, picks %d: opened %d, %d batches", turns, step, picks, int(e), len(o.Batches()))
					}
					if step == 6 && !same(o.Batches(), after) {
						t.Fatalf("what was done is not held")
					}
				}
			}
		}
	}
}

func TestNightUponNight(t *testing.T) {
	d, j := made(t, 64)
	want := [][]byte{stuff(9, 9)}
	j.Append(want[0])
	l := mornings()
	for i := range 4000 {
		k, e := journal.Open(d)
		if e != api.OK || !same(k.Batches(), want) {
			t.Fatalf("night %d: opened %d", i, int(e))
		}
		b := stuff(i%130, i)
		d.Arm(1 + i*7%6)
		do, after := k.Append, append(append([][]byte{}, want...), b)
		if i%5 == 0 || k.Room() < 5 {
			do, after = k.Replace, [][]byte{b}
		}
		do(b)
		d.Crash(l[i*31%len(l)])
		k, e = journal.Open(d)
		if e != api.OK {
			t.Fatalf("night %d: opened %d", i, int(e))
		}
		if got := k.Batches(); !same(got, want) {
			if !same(got, after) {
				t.Fatalf("night %d: neither what was, nor what was to be", i)
			}
			want = after
		}
	}
}

func TestNightInMake(t *testing.T) {
	for step := 1; step <= 6; step++ {
		for _, picks := range mornings() {
			d := newDisk(t, 64)
			d.Arm(step)
			journal.Make(d)
			d.Crash(picks)
			j, e := journal.Open(d)
			if e == api.OK && len(j.Batches()) != 0 || e != api.OK && e != api.ErrForm || step == 6 && e != api.OK {
				t.Fatalf("step %d, picks %d: opened %d", step, picks, int(e))
			}
		}
	}
}
