package box_test

import (
	"bytes"
	"math"
	"reflect"
	"slices"
	"strings"
	"testing"

	"cohort/api"
	"cohort/batch"
	"cohort/box"
	"cohort/conf"
)

func config() api.Config {
	return api.Config{Pools: []api.Pool{{Name: "a", Weight: 1}, {Name: "b", Spot: true, Weight: 2}}, Strategy: 1, Spread: 1, Min: 2, Max: 10, Deadline: 5,
		Bands: []api.Band{{From: 1, Add: 1}}, Plans: []api.Plan{{At: 3}, {At: 9, Each: 4}}}
}

// full is a state that has something of all.
func full() api.State {
	before := config()
	before.Plans, before.Max = nil, 9
	return api.State{
		Config: config(), Before: before, Version: 258, Now: 77, Desired: 4, Token: 1 << 62, Until: 80,
		Quotes: []api.Quote{{Price: 5, Score: 6, Until: 7}, {Price: api.MaxPrice, Score: api.MaxCap, Until: api.MaxTick + api.MaxSpan}},
		Insts: []api.Inst{
			{Id: 1, Token: 9, Pool: 63, Weight: 100, Spot: true, State: api.Draining, Due: 79, Noticed: true, Kill: 99, Risk: true, Held: true, Version: 258},
			{Id: 300, Weight: 1, State: api.Serving},
			{Id: 1 << 62, Weight: 1, State: api.Serving, Version: 1},
		},
		Opens: []api.Open{
			{R: api.Request{Kind: api.AskLaunch, Token: 5, Pool: 1, Warm: true}, Since: 70, Weight: 2, Spot: true, Version: 257},
			{R: api.Request{Kind: api.AskEnd, Token: 256, Id: 300}, Since: 71},
		},
		Refresh: api.Refresh{On: true, Least: 50, Most: 150, Stop: 20, Stopped: true, Back: true},
		Next:    []uint64{0, 81},
	}
}

// changes are changes of the full state, and whether it may be behind them.
func changes() []struct {
	do func(s *api.State)
	ok bool
} {
	type row = struct {
		do func(s *api.State)
		ok bool
	}
	return []row{
		{func(s *api.State) {}, true}, {func(s *api.State) { s.Before = api.Config{} }, true}, {func(s *api.State) { s.Before = api.Config{Pools: []api.Pool{}} }, true}, {func(s *api.State) { s.Before.Deadline = 0 }, false}, {func(s *api.State) { s.Config.Deadline = 0 }, false},
		{func(s *api.State) { s.Version = 257 }, false}, {func(s *api.State) { s.Version = 1 << 31 }, true}, {func(s *api.State) { s.Version = 1<<31 + 1 }, false}, {func(s *api.State) { s.Version, s.Insts, s.Opens = 0, nil, nil }, false}, {func(s *api.State) { s.Version, s.Insts, s.Opens = 1, nil, nil }, true},
		{func(s *api.State) { s.Now = api.MaxTick }, true}, {func(s *api.State) { s.Now = api.MaxTick + 1 }, false}, {func(s *api.State) { s.Now = 0 }, true}, {func(s *api.State) { s.Until = api.MaxTick + api.MaxSpan }, true}, {func(s *api.State) { s.Until = api.MaxTick + api.MaxSpan + 1 }, false},
		{func(s *api.State) { s.Desired = 2 }, true}, {func(s *api.State) { s.Desired = 1 }, false}, {func(s *api.State) { s.Desired = 10 }, true}, {func(s *api.State) { s.Desired = 11 }, false}, {func(s *api.State) { s.Token = 1<<62 + 1 }, false}, {func(s *api.State) { s.Token = 256 }, true}, {func(s *api.State) { s.Token = 255 }, false},
		{func(s *api.State) { s.Quotes = s.Quotes[:1] }, false}, {func(s *api.State) { s.Quotes = append(s.Quotes, api.Quote{}) }, false}, {func(s *api.State) { s.Quotes[0].Price = -1 }, false}, {func(s *api.State) { s.Quotes[0].Price = api.MaxPrice + 1 }, false}, {func(s *api.State) { s.Quotes[0] = api.Quote{} }, true},
		{func(s *api.State) { s.Quotes[0].Score = -1 }, false}, {func(s *api.State) { s.Quotes[0].Score = api.MaxCap + 1 }, false}, {func(s *api.State) { s.Quotes[0].Until = api.MaxTick + api.MaxSpan + 1 }, false},
		{func(s *api.State) { s.Insts[1].Id = 1 }, false}, {func(s *api.State) { s.Insts[1].Weight = 0 }, false}, {func(s *api.State) { s.Insts[1].Version = 259 }, false}, {func(s *api.State) { s.Insts[1].Pool = 64 }, false}, {func(s *api.State) { s.Insts[0].Pool = 2 }, true},
		{func(s *api.State) { s.Opens[0].Version = 258 }, true}, {func(s *api.State) { s.Opens[0].Version = 259 }, false}, {func(s *api.State) { s.Opens[1].R.Token = 5 }, false}, {func(s *api.State) { s.Opens[1].Version = 1 }, false}, {func(s *api.State) { s.Opens[1].Since = math.MaxUint64 }, true},
		{func(s *api.State) { s.Refresh = api.Refresh{} }, true}, {func(s *api.State) { s.Refresh = api.Refresh{On: true} }, false}, {func(s *api.State) { s.Refresh.Most = 99 }, false}, {func(s *api.State) { s.Refresh.Most = 201 }, false}, {func(s *api.State) { s.Refresh.Least = 101 }, false}, {func(s *api.State) { s.Refresh.Least = -1 }, false}, {func(s *api.State) { s.Refresh.Stop = 101 }, false}, {func(s *api.State) { s.Refresh.Stop = -1 }, false}, {func(s *api.State) { s.Refresh = api.Refresh{Most: 100} }, true}, {func(s *api.State) { s.Refresh = api.Refresh{Stopped: true} }, false},
		{func(s *api.State) { s.Next = s.Next[:1] }, false}, {func(s *api.State) { s.Next = append(s.Next, 1) }, false}, {func(s *api.State) { s.Next[0] = api.MaxTick }, true}, {func(s *api.State) { s.Next[0] = api.MaxTick + 1 }, false},
		{func(s *api.State) { *s = api.State{} }, false},
	}
}

// P29.1

func TestMayAndRows(t *testing.T) {
	for i, x := range changes() {
		s := full()
		x.do(&s)
		l, e := box.Rows(s)
		if box.May(s) != x.ok || (e == api.OK) != x.ok || e != api.OK && (e != api.ErrArg || l != nil) || e == api.OK && !batch.May(l) {
			t.Errorf("%d: May is %t, Rows %d", i, box.May(s), int(e))
		}
	}
}

func TestNew(t *testing.T) {
	s, e := box.New(config(), 5)
	want := api.State{Config: config(), Version: 1, Now: 5, Desired: 2, Quotes: make([]api.Quote, 2), Next: []uint64{0, 9}}
	if e != api.OK || !box.Same(s, want) || !box.May(s) {
		t.Errorf("New = %v, %d", s, int(e))
	}
	if s, e := box.New(config(), api.MaxTick); e != api.OK || s.Now != api.MaxTick {
		t.Errorf("New at the last tick = %v, %d", s, int(e))
	}
	two := config()
	two.Pools[1].Name = "a"
	for i, c := range []api.Config{{}, {Pools: make([]api.Pool, 65)}, two} {
		if s, e := box.New(c, 0); e != api.ErrArg || !reflect.DeepEqual(s, api.State{}) {
			t.Errorf("%d: New = %v, %d", i, s, int(e))
		}
	}
	if s, e := box.New(config(), api.MaxTick+1); e != api.ErrArg || !reflect.DeepEqual(s, api.State{}) {
		t.Errorf("New behind the last tick = %v, %d", s, int(e))
	}
	c := config()
	s, _ = box.New(c, 0)
	c.Pools[0].Name, c.Bands[0].From, c.Plans[0].At = "z", 7, 7
	if !conf.Same(s.Config, config()) {
		t.Errorf("New shares memory: %v", s.Config)
	}
}

func TestTheRows(t *testing.T) {
	kinds := func(l []api.Row) (s string) {
		for _, r := range l {
			s += r.Key[:1]
		}
		return s
	}
	one := config()
	one.Pools, one.Plans = one.Pools[:1], nil
	s, _ := box.New(one, 5)
	if l, e := box.Rows(s); e != api.OK || kinds(l) != "cqs" {
		t.Errorf("Rows of a new state: %q, %d", kinds(l), int(e))
	}
	l, e := box.Rows(full())
	if e != api.OK || kinds(l) != "bciiiooppqqs" {
		t.Fatalf("Rows: %q, %d", kinds(l), int(e))
	}
	b, _ := conf.Bytes(full().Before)
	c, _ := conf.Bytes(full().Config)
	nought := strings.Repeat("\x00", 8)
	for i, want := range [][2]string{
		{"b", string(b)}, {"c", string(c)},
		{"i\x00\x00\x00\x00\x00\x00\x00\x01", "\x09\x00\x00\x00\x00\x00\x00\x00" + "\x3f\x64\x01\x04" + "\x4f\x00\x00\x00\x00\x00\x00\x00" + "\x01" + "\x63\x00\x00\x00\x00\x00\x00\x00" + "\x01\x01" + "\x02\x01\x00\x00"},
		{"i\x00\x00\x00\x00\x00\x00\x01\x2c", nought + "\x00\x01\x00\x03" + nought + "\x00" + nought + "\x00\x00" + "\x00\x00\x00\x00"},
		{"i\x40\x00\x00\x00\x00\x00\x00\x00", nought + "\x00\x01\x00\x03" + nought + "\x00" + nought + "\x00\x00" + "\x01\x00\x00\x00"},
		{"o\x00\x00\x00\x00\x00\x00\x00\x05", "\x01\x01\x01" + nought + "\x46\x00\x00\x00\x00\x00\x00\x00" + "\x02\x01" + "\x01\x01\x00\x00"},
		{"o\x00\x00\x00\x00\x00\x00\x01\x00", "\x02\x00\x00" + "\x2c\x01\x00\x00\x00\x00\x00\x00" + "\x47\x00\x00\x00\x00\x00\x00\x00" + "\x00\x00" + "\x00\x00\x00\x00"},
		{"p\x00", nought}, {"p\x01", "\x51\x00\x00\x00\x00\x00\x00\x00"},
		{"q\x00", "\x05\x00\x00\x00\x06\x00\x00\x00\x07\x00\x00\x00\x00\x00\x00\x00"}, {"q\x01", "\x00\x00\x00\x40\x00\x00\x01\x00\x00\x00\x01\x00\x00\x01\x00\x00"},
		{"s", "\x02\x01\x00\x00" + "\x4d\x00\x00\x00\x00\x00\x00\x00" + "\x04\x00\x00\x00" + "\x00\x00\x00\x00\x00\x00\x00\x40" + "\x50\x00\x00\x00\x00\x00\x00\x00" + "\x01\x32\x96\x14\x01\x01"},
	} {
		if l[i].Key != want[0] || string(l[i].Value) != want[1] {
			t.Errorf("row %d: %q, %x, want %q, %x", i, l[i].Key, l[i].Value, want[0], want[1])
		}
	}
}

func TestLoadRefuses(t *testing.T) {
	refused := func(what string, l []api.Row) {
		t.Helper()
		if s, e := box.Load(l); e != api.ErrForm || !reflect.DeepEqual(s, api.State{}) {
			t.Errorf("%s: Load = %v, %d", what, s, int(e))
		}
	}
	rows := func() []api.Row { l, _ := box.Rows(full()); return l }
	refused("none", nil)
	for i, r := range rows() {
		if i > 0 && r.Key[0] != 'i' && r.Key[0] != 'o' {
			refused("without a row", slices.Delete(rows(), i, i+1))
		}
		l := rows()
		l[i].Value = append(l[i].Value, 0)
		refused("a byte too many", l)
		l = rows()
		l[i].Value = l[i].Value[:len(l[i].Value)-1]
		refused("a byte too few", l)
		l = rows()
		l[i].Value = nil
		refused("no bytes", l)
		l = rows()
		l[i].Key += "\x00"
		refused("a longer key", l)
		if i > 0 {
			l = rows()
			l[i], l[i-1] = l[i-1], l[i]
			refused("two rows the other way round", l)
			l[i] = l[i-1]
			refused("a row twice", l)
		}
	}
	for _, key := range []string{"", "a", "d", "j", "r", "t", "i", "o", "p", "q", "p\x02", "q\x02", "z"} {
		l := append(rows(), api.Row{Key: key, Value: []byte{1}})
		slices.SortFunc(l, func(a, b api.Row) int { return strings.Compare(a.Key, b.Key) })
		refused("a row too many", l)
	}
}

// P29.2

func TestCopyAndSame(t *testing.T) {
	s := full()
	c := box.Copy(s)
	if !reflect.DeepEqual(c, full()) {
		t.Errorf("Copy = %v", c)
	}
	for _, x := range []*api.Config{&c.Config, &c.Before} {
		clear(x.Pools)
		clear(x.Bands)
		clear(x.Plans)
	}
	clear(c.Quotes)
	clear(c.Insts)
	clear(c.Opens)
	clear(c.Next)
	if !reflect.DeepEqual(s, full()) {
		t.Errorf("Copy shares memory: %v", s)
	}
	empty := api.State{Quotes: []api.Quote{}, Insts: []api.Inst{}, Opens: []api.Open{}, Next: []uint64{}, Before: api.Config{Pools: []api.Pool{}}}
	if !box.Same(api.State{}, empty) || !box.Same(box.Copy(empty), empty) {
		t.Errorf("lists that are nil are others than lists without elements")
	}
	more := []func(s *api.State){
		func(s *api.State) { s.Until++ }, func(s *api.State) { s.Refresh.On = false }, func(s *api.State) { s.Refresh.Stopped = false }, func(s *api.State) { s.Refresh.Back = false }, func(s *api.State) { s.Insts[0].Held = false }, func(s *api.State) { s.Opens[0].R.Warm = false }, func(s *api.State) { s.Insts = s.Insts[:2] }, func(s *api.State) { s.Now++ },
	}
	for _, x := range changes()[1:] {
		more = append(more, x.do)
	}
	for i, do := range more {
		s := full()
		do(&s)
		if want := reflect.DeepEqual(s, full()); box.Same(s, full()) != want || box.Same(full(), s) != want || !box.Same(s, box.Copy(s)) {
			t.Errorf("%d: Same is %t", i, !want)
		}
	}
}

// P29.3

func TestWhatIsLaidIsLoaded(t *testing.T) {
	for i, x := range changes() {
		s := full()
		x.do(&s)
		l, e := box.Rows(s)
		if e != api.OK {
			continue
		}
		got, e := box.Load(l)
		if e != api.OK || !box.Same(got, s) {
			t.Errorf("%d: %v is laid, and loaded as %v, %d", i, s, got, int(e))
		}
		for _, r := range l {
			clear(r.Value)
		}
		if !box.Same(got, s) {
			t.Errorf("%d: Load shares memory", i)
		}
	}
	s, _ := box.New(config(), 0)
	l, _ := box.Rows(s)
	if got, e := box.Load(l); e != api.OK || !box.Same(got, s) {
		t.Errorf("a new state is loaded as %v, %d", got, int(e))
	}
}

func TestWhatIsLoadedIsLaidAsTheSameRows(t *testing.T) {
	loaded := 0
	l, _ := box.Rows(full())
	for n := range l {
		was := l[n].Value
		for i := range was {
			for _, to := range []byte{0, 1, 2, 3, 64, 101, 255} {
				l[n].Value = bytes.Clone(was)
				l[n].Value[i] = to
				s, e := box.Load(l)
				if e != api.OK {
					continue
				}
				loaded++
				back, e := box.Rows(s)
				if e != api.OK || !slices.EqualFunc(back, l, func(a, b api.Row) bool { return a.Key == b.Key && bytes.Equal(a.Value, b.Value) }) {
					t.Fatalf("row %q, byte %d is %d: it is laid as others", l[n].Key, i, to)
				}
			}
		}
		l[n].Value = was
	}
	if loaded < 100 {
		t.Errorf("%d were loaded: too few to tell", loaded)
	}
}
