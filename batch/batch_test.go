package batch_test

import (
	"bytes"
	"slices"
	"strings"
	"testing"

	"cohort/api"
	"cohort/batch"
)

func row(k string, v ...byte) api.Row { return api.Row{Key: k, Value: v} }

func put(k string, v ...byte) api.Change { return api.Change{Key: k, Value: v} }

func gone(k string) api.Change { return api.Change{Key: k, Gone: true} }

func sameRows(a, b []api.Row) bool {
	return slices.EqualFunc(a, b, func(x, y api.Row) bool { return x.Key == y.Key && bytes.Equal(x.Value, y.Value) })
}

func sameChanges(a, b []api.Change) bool {
	return slices.EqualFunc(a, b, func(x, y api.Change) bool {
		return x.Key == y.Key && x.Gone == y.Gone && bytes.Equal(x.Value, y.Value)
	})
}

var (
	long16 = strings.Repeat("k", api.MaxKey)
	most   = make([]byte, api.MaxBatch)
	tooBig = make([]byte, api.MaxBatch+1)
)

// P9.1

func TestMay(t *testing.T) {
	for i, c := range []struct {
		l    []api.Row
		want bool
	}{
		{nil, true}, {[]api.Row{}, true}, {[]api.Row{row("a")}, true}, {[]api.Row{row(long16, 1)}, true}, {[]api.Row{row("a", most...)}, true},
		{[]api.Row{row("a"), row("aa"), row("b")}, true}, {[]api.Row{row("\x00"), row("\xff")}, true},
		{[]api.Row{row("")}, false}, {[]api.Row{row(long16 + "k")}, false}, {[]api.Row{row("a", tooBig...)}, false},
		{[]api.Row{row("a"), row("a")}, false}, {[]api.Row{row("b"), row("a")}, false}, {[]api.Row{row("b"), row("aa")}, false}, {[]api.Row{row("a"), row("")}, false},
	} {
		if batch.May(c.l) != c.want {
			t.Errorf("%d: May is %t", i, !c.want)
		}
		var l []api.Change
		for _, r := range c.l {
			l = append(l, api.Change{Key: r.Key, Value: r.Value})
		}
		if batch.MayChange(l) != c.want {
			t.Errorf("%d: MayChange is %t", i, !c.want)
		}
		for i := range l {
			l[i] = gone(l[i].Key)
		}
		if want := c.want || i == 9; batch.MayChange(l) != want {
			t.Errorf("%d: MayChange of what is gone is %t", i, !want)
		}
	}
	if batch.MayChange([]api.Change{{Key: "a", Gone: true, Value: []byte{1}}}) {
		t.Errorf("what is gone has a value")
	}
	if !batch.MayChange([]api.Change{{Key: "a", Gone: true, Value: []byte{}}}) {
		t.Errorf("what is gone may have a list without elements")
	}
}

func TestPut(t *testing.T) {
	for i, c := range []struct {
		l    []api.Change
		want string
		e    api.Errno
	}{
		{nil, "\x00\x00\x00\x00", 0},
		{[]api.Change{put("a", 7)}, "\x01\x00\x00\x00\x01a\x00\x01\x00\x00\x00\x07", 0},
		{[]api.Change{put("a"), gone("bc"), put("d", 1, 2)}, "\x03\x00\x00\x00\x01a\x00\x00\x00\x00\x00\x02bc\x01\x01d\x00\x02\x00\x00\x00\x01\x02", 0},
		{[]api.Change{put("b"), put("a")}, "", api.ErrArg},
		{[]api.Change{put("a"), gone("a")}, "", api.ErrArg},
		{[]api.Change{put("")}, "", api.ErrArg},
		{[]api.Change{put("a", tooBig...)}, "", api.ErrArg},
		{[]api.Change{{Key: "a", Gone: true, Value: []byte{1}}}, "", api.ErrArg},
	} {
		if b, e := batch.Put(c.l); string(b) != c.want || e != c.e {
			t.Errorf("%d: Put = %x, %d", i, b, int(e))
		}
	}
}

func TestGet(t *testing.T) {
	one := "\x01\x00\x00\x00"
	for i, c := range []struct {
		b    string
		want []api.Change
		e    api.Errno
	}{
		{"\x00\x00\x00\x00", nil, 0},
		{one + "\x01a\x00\x00\x00\x00\x00", []api.Change{put("a")}, 0},
		{one + "\x01a\x01", []api.Change{gone("a")}, 0},
		{one + "\x10" + long16 + "\x01", []api.Change{gone(long16)}, 0},
		{"", nil, api.ErrShort}, {"\x01\x00\x00", nil, api.ErrShort}, {one, nil, api.ErrShort}, {one + "\x02a", nil, api.ErrShort}, {one + "\x01a", nil, api.ErrShort},
		{one + "\x01a\x00\x00\x00\x00", nil, api.ErrShort}, {one + "\x01a\x00\x01\x00\x00\x00", nil, api.ErrShort}, {one + "\x01a\x00\x00\x00\x08\x00", nil, api.ErrShort},
		{"\xff\xff\xff\xff\x01a\x01", nil, api.ErrShort},
		{one + "\x01a\x00\x01\x00\x08\x00", nil, api.ErrLimit}, {one + "\x01a\x00\xff\xff\xff\xff", nil, api.ErrLimit},
		{one + "\x01a\x02", nil, api.ErrForm}, {one + "\x01a\xff\xff\xff\xff\xff", nil, api.ErrForm},
		{one + "\x00\x01", nil, api.ErrForm}, {one + "\x11" + long16 + "k\x01", nil, api.ErrForm},
		{one + "\x00\x00\x09\x00\x00\x00", nil, api.ErrShort},                // ahead of what follows the change
		{one + "\x11" + long16 + "k\x00\x01\x00\x08\x00", nil, api.ErrLimit}, // likewise
		{"\x02\x00\x00\x00\x01a\x01\x01a\x01", nil, api.ErrForm}, {"\x02\x00\x00\x00\x01b\x01\x01a\x01", nil, api.ErrForm}, {"\x02\x00\x00\x00\x01b\x01\x01a", nil, api.ErrShort},
		{"\x03\x00\x00\x00\x01b\x01\x01a\x01", nil, api.ErrForm}, // ahead of the third, which is not there
		{"\x00\x00\x00\x00\x00", nil, api.ErrForm}, {one + "\x01a\x01\x01", nil, api.ErrForm},
	} {
		b := []byte(c.b)
		l, e := batch.Get(b)
		if !sameChanges(l, c.want) || e != c.e || string(b) != c.b || e != api.OK && l != nil {
			t.Errorf("%d: Get(%x) = %v, %d, want %d", i, c.b, l, int(e), int(c.e))
		}
	}
	full, e := batch.Put([]api.Change{put("a", most...)})
	if l, f := batch.Get(full); e != api.OK || f != api.OK || len(l) != 1 || len(l[0].Value) != api.MaxBatch {
		t.Errorf("the longest value: %d, %d", int(e), int(f))
	}
}

// P9.2

func TestApply(t *testing.T) {
	a := []api.Row{row("a", 7), row("c", 8)}
	for i, c := range []struct {
		t    []api.Row
		l    []api.Change
		want []api.Row
		e    api.Errno
	}{
		{nil, nil, nil, 0}, {a, nil, a, 0}, {nil, []api.Change{gone("a")}, nil, 0}, {nil, []api.Change{put("x")}, []api.Row{row("x")}, 0},
		{[]api.Row{row("a", 7)}, []api.Change{gone("a"), put("b", 8)}, []api.Row{row("b", 8)}, 0},
		{a, []api.Change{put("a", 1), gone("b"), put("d", 2)}, []api.Row{row("a", 1), row("c", 8), row("d", 2)}, 0},
		{a, []api.Change{put("", 1)}, nil, api.ErrArg}, {a, []api.Change{put("b"), put("a")}, nil, api.ErrArg},
		{[]api.Row{row("b"), row("a")}, nil, nil, api.ErrArg}, {[]api.Row{row("")}, []api.Change{gone("")}, nil, api.ErrArg},
	} {
		got, e := batch.Apply(c.t, c.l)
		if !sameRows(got, c.want) || e != c.e {
			t.Errorf("%d: Apply = %v, %d", i, got, int(e))
		}
	}
}

func TestBetween(t *testing.T) {
	for i, c := range []struct {
		a, b []api.Row
		want []api.Change
		e    api.Errno
	}{
		{nil, nil, nil, 0}, {[]api.Row{row("a", 7)}, []api.Row{row("a", 9)}, []api.Change{put("a", 9)}, 0}, {[]api.Row{row("a", 7)}, []api.Row{row("a", 7)}, nil, 0},
		{[]api.Row{row("a", 7), row("b")}, nil, []api.Change{gone("a"), gone("b")}, 0}, {nil, []api.Row{row("a", 7)}, []api.Change{put("a", 7)}, 0},
		{[]api.Row{row("a"), row("b", 1), row("d")}, []api.Row{row("b", 1), row("c"), row("d", 0)}, []api.Change{gone("a"), put("c"), put("d", 0)}, 0},
		{[]api.Row{row("")}, nil, nil, api.ErrArg}, {nil, []api.Row{row("b"), row("a")}, nil, api.ErrArg},
	} {
		if l, e := batch.Between(c.a, c.b); !sameChanges(l, c.want) || e != c.e {
			t.Errorf("%d: Between = %v, %d", i, l, int(e))
		}
	}
}

func TestFind(t *testing.T) {
	l := []api.Row{row("a", 7), row("b"), row("c", 1, 2)}
	for _, c := range []struct {
		key  string
		want []byte
		ok   bool
	}{{"a", []byte{7}, true}, {"b", nil, true}, {"c", []byte{1, 2}, true}, {"", nil, false}, {"aa", nil, false}, {"d", nil, false}} {
		if v, ok := batch.Find(l, c.key); !bytes.Equal(v, c.want) || ok != c.ok {
			t.Errorf("Find(%q) = %x, %t", c.key, v, ok)
		}
	}
	if v, ok := batch.Find([]api.Row{row("b", 1), row("a", 2)}, "a"); v != nil || ok {
		t.Errorf("Find in what is no table = %x, %t", v, ok)
	}
}

func TestAnswersAreNewMemory(t *testing.T) {
	rows := []api.Row{row("a", 1), row("b", 2)}
	changes := []api.Change{put("c", 3)}
	got, _ := batch.Apply(rows, changes)
	for _, r := range got {
		r.Value[0] = 99
	}
	diff, _ := batch.Between(nil, rows)
	diff[0].Value[0] = 98
	v, _ := batch.Find(rows, "b")
	v[0] = 97
	b, _ := batch.Put(changes)
	l, _ := batch.Get(b)
	b[len(b)-1] = 96
	if rows[0].Value[0] != 1 || rows[1].Value[0] != 2 || changes[0].Value[0] != 3 || l[0].Value[0] != 3 {
		t.Errorf("memory is shared: %v %v %v", rows, changes, l)
	}
}

// P9.3

// tables are tables of some kinds.
func tables() [][]api.Row {
	var all [][]api.Row
	for seed := uint32(1); len(all) < 60; {
		var l []api.Row
		for _, k := range []string{"\x00", "a", "aa", "b", "c", long16, "z"} {
			seed = seed*1664525 + 1013904223
			switch seed >> 29 {
			case 0, 1, 2:
			case 3:
				l = append(l, row(k))
			default:
				l = append(l, row(k, bytes.Repeat([]byte{byte(seed >> 28)}, int(seed>>20)%4)...))
			}
		}
		all = append(all, l)
	}
	return append(all, nil)
}

func TestApplyOfBetween(t *testing.T) {
	for _, a := range tables() {
		for _, b := range tables() {
			l, e := batch.Between(a, b)
			got, f := batch.Apply(a, l)
			if e != api.OK || f != api.OK || !sameRows(got, b) {
				t.Fatalf("from %v to %v: %v, %d, %d", a, b, l, int(e), int(f))
			}
			for i := range l { // none of them is needless
				less, _ := batch.Apply(a, slices.Delete(slices.Clone(l), i, i+1))
				if sameRows(less, b) {
					t.Fatalf("from %v to %v: %v has one too many", a, b, l)
				}
			}
			x, e := batch.Put(l)
			back, f := batch.Get(x)
			if e != api.OK || f != api.OK || !sameChanges(back, l) {
				t.Fatalf("%v is put as %x and got as %v", l, x, back)
			}
			for i := range x {
				if _, e := batch.Get(x[:i]); e != api.ErrShort {
					t.Fatalf("%x cut at %d: %d", x, i, int(e))
				}
			}
		}
	}
}

func TestWhatIsGotIsPutAsTheSameBytes(t *testing.T) {
	var l []byte
	x, _ := batch.Put([]api.Change{put("a", 1, 2), gone("b"), put("cc"), put("d", 9)})
	for i := range x {
		for c := range 256 {
			l = append(l[:0], x...)
			l[i] = byte(c)
			if got, e := batch.Get(l); e == api.OK {
				if back, e := batch.Put(got); e != api.OK || !bytes.Equal(back, l) {
					t.Fatalf("%x is got, and put as %x, %d", l, back, int(e))
				}
			}
		}
	}
}
