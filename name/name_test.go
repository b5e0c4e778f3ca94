package name_test

import (
	"slices"
	"strings"
	"testing"

	"cohort/api"
	"cohort/name"
)

// P2.1

func TestIs(t *testing.T) {
	for _, s := range []string{"a", "z", "a0", "a9", "a-1", "a--b", "abc", "m5-large", strings.Repeat("z", api.MaxName), "a" + strings.Repeat("-", api.MaxName-2) + "9"} {
		if !name.Is(s) {
			t.Errorf("Is(%q): no", s)
		}
	}
	for _, s := range []string{"", "-", "-a", "a-", "0", "0a", "9", "A", "aB", "a b", "a_b", "a.b", " a", "a ", "a\x00", "a\n", "ä", "aé", "`", "{", "a/", "a:", "a,", strings.Repeat("z", api.MaxName+1), strings.Repeat("z", api.MaxName-1) + "-", strings.Repeat("z", 5000)} {
		if name.Is(s) {
			t.Errorf("Is(%q): yes", s)
		}
	}
}

func TestIsOfEachByte(t *testing.T) {
	small, rest := "abcdefghijklmnopqrstuvwxyz", "0123456789"
	for c := range 256 {
		b := string([]byte{byte(c)})
		first, mid, last := strings.Contains(small, b), strings.Contains(small+rest+"-", b), strings.Contains(small+rest, b)
		if name.Is(b) != first || name.Is(b+"a") != first || name.Is("a"+b+"a") != mid || name.Is("a"+b) != last {
			t.Errorf("byte %d: alone %t, first %t, amid %t, last %t", c, name.Is(b), name.Is(b+"a"), name.Is("a"+b+"a"), name.Is("a"+b))
		}
	}
}

func TestCompare(t *testing.T) {
	for _, c := range []struct {
		a, b string
		want int
	}{
		{"", "", 0}, {"", "a", -1}, {"b", "aa", -1}, {"aa", "b", 1}, {"a", "b", -1}, {"b", "a", 1}, {"ab", "ab", 0}, {"ab", "aa", 1},
		{"a-", "a0", -1}, {"\xff", "a", 1}, {"\x00", "\x01", -1}, {"é", "zz", 1}, {"é", "zzz", -1},
	} {
		if n := name.Compare(c.a, c.b); n != c.want {
			t.Errorf("Compare(%q, %q) = %d, want %d", c.a, c.b, n, c.want)
		}
	}
}

// P2.2

func TestAll(t *testing.T) {
	long := strings.Repeat("z", api.MaxName)
	for _, c := range []struct {
		l []string
		e api.Errno
	}{
		{nil, api.OK}, {[]string{}, api.OK}, {[]string{"a"}, api.OK}, {[]string{"a", "b", "aa", long}, api.OK},
		{[]string{"a", "b", "a"}, api.ErrTwice}, {[]string{"a", "a"}, api.ErrTwice}, {[]string{long, "b", long}, api.ErrTwice},
		{[]string{""}, api.ErrArg}, {[]string{"a", "-b"}, api.ErrArg},
		{[]string{"a", "a", "b-"}, api.ErrArg}, {[]string{"", ""}, api.ErrArg}, {[]string{"B", "a", "a"}, api.ErrArg},
	} {
		if e := name.All(c.l); e != c.e {
			t.Errorf("All(%q) = %d, want %d", c.l, int(e), int(c.e))
		}
	}
}

func TestSort(t *testing.T) {
	for _, c := range []struct {
		l, want []string
		places  []int
	}{
		{nil, nil, nil},
		{[]string{}, nil, nil},
		{[]string{"x"}, []string{"x"}, []int{0}},
		{[]string{"bb", "a", "aa", "a"}, []string{"a", "a", "aa", "bb"}, []int{1, 3, 2, 0}},
		{[]string{"", "-", "", "A"}, []string{"", "", "-", "A"}, []int{0, 2, 1, 3}},
	} {
		before := slices.Clone(c.l)
		l, places := name.Sort(c.l)
		if !slices.Equal(l, c.want) || !slices.Equal(places, c.places) || !slices.Equal(before, c.l) {
			t.Errorf("Sort(%q) = %q, %d, want %q, %d", c.l, l, places, c.want, c.places)
		}
	}
}

func TestSortTellsNewMemory(t *testing.T) {
	l := []string{"a", "b", "c"}
	a, p := name.Sort(l)
	a[0], p[0] = "z", 9
	b, q := name.Sort(l)
	if l[0] != "a" || b[0] != "a" || q[0] != 0 {
		t.Errorf("Sort shares memory: %q %q %d", l, b, q)
	}
}

// P2.3

// texts are all texts of up to three of some bytes.
func texts() []string {
	l := []string{""}
	for from := 0; len(l) < 85; from++ {
		for _, c := range []byte{'-', 'a', 'z', 255} {
			l = append(l, l[from]+string([]byte{c}))
		}
	}
	return l
}

func TestCompareIsAnOrder(t *testing.T) {
	l := texts()
	for _, a := range l {
		for _, b := range l {
			n := name.Compare(a, b)
			if n != -name.Compare(b, a) || (n == 0) != (a == b) || n < -1 || n > 1 {
				t.Fatalf("Compare(%q, %q) = %d, the other way %d", a, b, n, name.Compare(b, a))
			}
			for _, c := range l {
				if n < 0 && name.Compare(b, c) < 0 && name.Compare(a, c) >= 0 {
					t.Fatalf("%q, %q, %q are not in an order", a, b, c)
				}
			}
		}
	}
}

func TestSortTellsTheSameTexts(t *testing.T) {
	all := texts()
	for step := 1; step < 60; step++ {
		var l []string
		for i := range 120 {
			l = append(l, all[i*step%len(all)])
		}
		sorted, places := name.Sort(l)
		seen := make([]bool, len(l))
		for i, p := range places {
			if sorted[i] != l[p] || seen[p] {
				t.Fatalf("place %d tells %d", i, p)
			}
			seen[p] = true
			if i == 0 {
				continue
			}
			if n := name.Compare(sorted[i-1], sorted[i]); n > 0 || n == 0 && places[i-1] > p {
				t.Fatalf("%q (%d) stands ahead of %q (%d)", sorted[i-1], places[i-1], sorted[i], p)
			}
		}
		if len(sorted) != len(l) || len(places) != len(l) {
			t.Fatalf("%d texts are %d, %d places", len(l), len(sorted), len(places))
		}
	}
}
