package store_test

import (
	"bytes"
	"slices"
	"strconv"
	"testing"

	"cohort/api"
	"cohort/batch"
	"cohort/disk"
	"cohort/journal"
	"cohort/store"
)

func is[T comparable](t *testing.T, what string, got, want T) {
	t.Helper()
	if got != want {
		t.Errorf("%s: %v, want %v", what, got, want)
	}
}

func row(k string, v ...byte) api.Row { return api.Row{Key: k, Value: v} }

func put(k string, v ...byte) api.Change { return api.Change{Key: k, Value: v} }

func gone(k string) api.Change { return api.Change{Key: k, Gone: true} }

func same(a, b []api.Row) bool {
	return slices.EqualFunc(a, b, func(x, y api.Row) bool { return x.Key == y.Key && bytes.Equal(x.Value, y.Value) })
}

func made(t *testing.T, blocks int) (*disk.Disk, *store.Store) {
	t.Helper()
	d, _ := disk.New(blocks)
	s, e := store.Make(d)
	if s == nil || e != api.OK {
		t.Fatalf("Make: %d", int(e))
	}
	return d, s
}

func opened(t *testing.T, d *disk.Disk) *store.Store {
	t.Helper()
	s, e := store.Open(d)
	if s == nil || e != api.OK {
		t.Fatalf("Open: %d", int(e))
	}
	return s
}

// P10.1

func TestMakeAndOpen(t *testing.T) {
	for _, d := range []*disk.Disk{nil, {}} {
		s, e := store.Make(d)
		is(t, "Make of none", s == nil && e == api.ErrNil, true)
		s, e = store.Open(d)
		is(t, "Open of none", s == nil && e == api.ErrNil, true)
	}
	d, _ := disk.New(64)
	s, e := store.Open(d)
	is(t, "Open of an empty disk", s == nil && e == api.ErrForm, true)
	s, e = store.Make(d)
	is(t, "Make", e == api.OK && len(s.Rows()) == 0 && s.Room() == 62, true)
	is(t, "Room", opened(t, d).Room(), 62)
	d.Arm(3)
	s, e = store.Make(d)
	is(t, "Make into the night", s == nil && e == api.ErrPower, true)
	s, e = store.Make(d)
	is(t, "Make at night", s == nil && e == api.ErrPower, true)
	s, e = store.Open(d)
	is(t, "Open at night", s == nil && e == api.ErrPower, true)
}

func TestOpenOfOtherBatches(t *testing.T) {
	good, _ := batch.Put([]api.Change{put("a", 1)})
	for i, b := range [][]byte{nil, {0, 0, 0}, {1, 0, 0, 0}, {0, 0, 0, 0, 0}, append(slices.Clone(good), 9), {1, 0, 0, 0, 0, 1}} {
		d, _ := disk.New(64)
		j, _ := journal.Make(d)
		j.Append(good)
		is(t, "Open", same(opened(t, d).Rows(), []api.Row{row("a", 1)}), true)
		j.Append(b)
		j.Append(good)
		if s, e := store.Open(d); s != nil || e != api.ErrForm {
			t.Errorf("%d: Open: %d", i, int(e))
		}
	}
}

// P10.2

func TestTheChaptersExample(t *testing.T) {
	d, s := made(t, 66)
	is(t, "Commit of none", s.Commit(nil), api.OK)
	is(t, "Steps", d.Steps(), 5)
	is(t, "Commit(a: 7)", s.Commit([]api.Change{put("a", 7)}), api.OK)
	is(t, "Commit(b: 5000 bytes)", s.Commit([]api.Change{put("b", make([]byte, 5000)...)}), api.ErrFull)
	is(t, "Rows", same(s.Rows(), []api.Row{row("a", 7)}), true)
	is(t, "Room", s.Room(), 63)
	s = opened(t, d)
	is(t, "Rows", same(s.Rows(), []api.Row{row("a", 7)}), true)
}

func TestErrorsOfCommit(t *testing.T) {
	bad := []api.Change{put("b"), put("a")}
	for _, s := range []*store.Store{nil, {}} {
		is(t, "Commit of no store", s.Commit(bad), api.ErrNil)
		is(t, "the rest", len(s.Rows()) == 0 && s.Room() == 0, true)
	}
	d, s := made(t, 64)
	is(t, "Commit of what may not be", s.Commit(bad), api.ErrArg)
	is(t, "likewise", s.Commit([]api.Change{put("a", make([]byte, api.MaxBatch+1)...)}), api.ErrArg)
	is(t, "Commit of too much", s.Commit([]api.Change{put("a", make([]byte, api.MaxBatch)...)}), api.ErrFull)
	steps := d.Steps()
	d.Arm(1)
	d.Flush()
	is(t, "Commit of what may not be, at night", s.Commit(bad), api.ErrArg)
	is(t, "Commit of none at night", s.Commit(nil), api.ErrPower)
	is(t, "Commit of too much at night", s.Commit([]api.Change{put("a", make([]byte, 9999)...)}), api.ErrPower)
	is(t, "Rows", len(s.Rows()), 0)
	is(t, "Steps", d.Steps(), steps)
}

// value is a value with which a batch of one change, of a key of one byte,
// fills so many blocks.
func value(blocks int, c byte) []byte { return bytes.Repeat([]byte{c}, blocks*64-4-4-1-1-1-4) }

func TestHalfOfTheRing(t *testing.T) {
	for _, c := range []struct{ blocks, half int }{{66, 32}, {67, 32}, {68, 33}} {
		d, s := made(t, c.blocks)
		ring := c.blocks - 2
		is(t, "Commit of more than half", s.Commit([]api.Change{put("a", append(value(c.half, 1), 1)...)}), api.ErrFull)
		is(t, "Commit of half", s.Commit([]api.Change{put("a", value(c.half, 1)...)}), api.OK)
		is(t, "Room", s.Room(), ring-c.half)
		is(t, "Commit of one more row", s.Commit([]api.Change{put("b")}), api.ErrFull)
		is(t, "Steps", d.Steps(), 5+c.half+3)
		is(t, "Commit of less", s.Commit([]api.Change{put("a", value(c.half-1, 2)...)}), api.OK) // begun anew
		is(t, "Room", s.Room(), ring-c.half+1)
		is(t, "Commit of one more row", s.Commit([]api.Change{put("b")}), api.OK) // appended
		is(t, "Room", s.Room(), ring-c.half)
		is(t, "Commit of a row that is gone", s.Commit([]api.Change{gone("a")}), api.OK) // begun anew
		is(t, "Room", s.Room(), ring-1)
		is(t, "Rows", same(s.Rows(), []api.Row{row("b")}), true)
		is(t, "Rows", same(opened(t, d).Rows(), []api.Row{row("b")}), true)
	}
}

func TestAppendedUpToTheHalf(t *testing.T) {
	d, s := made(t, 66)
	for i := range 32 {
		is(t, "Room", s.Room(), 64-i)
		is(t, "Commit", s.Commit([]api.Change{put("a", byte(i))}), api.OK)
	}
	is(t, "Room of half", s.Room(), 32)
	is(t, "Commit of all that may be", s.Commit([]api.Change{put("b", value(31, 1)...)}), api.OK) // begun anew
	is(t, "Room", s.Room(), 64-32)
	is(t, "Commit of one more", s.Commit([]api.Change{put("c", append(value(1, 1), 1)...)}), api.ErrFull)
	is(t, "Commit of a byte less", s.Commit([]api.Change{gone("b")}), api.OK)
	is(t, "Room", s.Room(), 63)
	is(t, "Rows", same(opened(t, d).Rows(), []api.Row{row("a", 31)}), true)
}

func TestMoreThanHalfCounts(t *testing.T) {
	d, _ := disk.New(66)
	j, _ := journal.Make(d)
	b, _ := batch.Put([]api.Change{put("a", value(50, 1)...)})
	is(t, "Append", j.Append(b), api.OK)
	s := opened(t, d)
	is(t, "Commit where there is no room", s.Commit([]api.Change{put("a", value(15, 2)...)}), api.ErrFull)
	is(t, "Rows", same(s.Rows(), []api.Row{row("a", value(50, 1)...)}), true)
	is(t, "Commit where there is", s.Commit([]api.Change{put("a", value(14, 2)...)}), api.OK)
	is(t, "Room", s.Room(), 50)
	is(t, "Rows", same(opened(t, d).Rows(), s.Rows()), true)
}

func TestACommitThatMakesNoDifference(t *testing.T) {
	d, s := made(t, 64)
	is(t, "Commit", s.Commit([]api.Change{gone("a")}), api.OK)
	is(t, "Room", s.Room(), 61)
	is(t, "Rows", len(opened(t, d).Rows()), 0)
}

// P10.3

func TestRowsAreTheCallers(t *testing.T) {
	_, s := made(t, 64)
	v := []byte{1, 2}
	l := []api.Change{put("a", v...)}
	s.Commit(l)
	l[0].Value[0] = 9
	rows := s.Rows()
	rows[0].Value[0], rows[0].Key = 8, "z"
	is(t, "Rows", same(s.Rows(), []api.Row{row("a", 1, 2)}), true)
}

// P10.4

// changes are changes of some kinds, the i-th of them.
func changes(i int) []api.Change {
	var l []api.Change
	for k := range 5 {
		switch (i*7 + k*i + k) % 4 {
		case 0:
			l = append(l, gone("k"+strconv.Itoa(k)))
		case 1:
			l = append(l, put("k"+strconv.Itoa(k), bytes.Repeat([]byte{byte(i)}, i*k%90)...))
		}
	}
	return l
}

func TestTheTableIsWhatWasCommitted(t *testing.T) {
	d, s := made(t, 64)
	var want []api.Row
	for i := range 2000 {
		l := changes(i)
		if e := s.Commit(l); e != api.OK {
			t.Fatalf("commit %d: %d", i, int(e))
		}
		want, _ = batch.Apply(want, l)
		if !same(s.Rows(), want) || s.Room() < 31 {
			t.Fatalf("commit %d: %v, want %v, room %d", i, s.Rows(), want, s.Room())
		}
		if i%3 == 0 {
			s = opened(t, d)
		}
		if i%50 == 0 && !same(opened(t, d).Rows(), want) {
			t.Fatalf("commit %d: opened anew it is another table", i)
		}
	}
}

func TestNightInCommit(t *testing.T) {
	d, s := made(t, 64)
	seed := uint32(1)
	anew := 0
	for i := range 400 {
		l := changes(i)
		before := s.Rows()
		after, _ := batch.Apply(before, l)
		room := s.Room()
		for step := 1; ; step++ {
			var picks []int
			for range 12 {
				seed = seed*1664525 + 1013904223
				picks = append(picks, []int{0, 1, 2, 64}[seed>>30])
			}
			c := d.Copy()
			o := opened(t, c)
			c.Arm(step)
			e := o.Commit(l)
			dark := c.Dark()
			is(t, "Commit", e, map[bool]api.Errno{true: api.ErrPower, false: api.OK}[dark])
			c.Crash(picks)
			rows := opened(t, c).Rows()
			if !same(rows, after) && (!dark || !same(rows, before)) {
				t.Fatalf("commit %d, step %d, picks %d: %v, neither %v nor %v", i, step, picks, rows, before, after)
			}
			if !dark {
				break
			}
		}
		is(t, "Commit", s.Commit(l), api.OK)
		if s.Room() > room {
			anew++
		}
	}
	is(t, "it was begun anew", anew > 5, true)
}
