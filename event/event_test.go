package event_test

import (
	"bytes"
	"encoding/binary"
	"math"
	"reflect"
	"slices"
	"testing"

	"cohort/api"
	"cohort/conf"
	"cohort/crc"
	"cohort/event"
)

const most = 1 << 62

func config() api.Config {
	return api.Config{
		Pools: []api.Pool{{Name: "a", Weight: 1}, {Name: "b", Spot: true, Weight: 2}}, Strategy: 1, Spread: 1, Max: 10, Deadline: 5,
		Bands: []api.Band{{From: 1, Add: 1}}, Plans: []api.Plan{{At: 9}},
	}
}

// good are events that may be, with their bytes.
func good() map[string]api.Event {
	c, _ := conf.Bytes(config())
	return map[string]api.Event{
		"\x01\x00\x00\x00\x00":                     {Kind: api.EvDesired},
		"\x01\x00\x00\x01\x00":                     {Kind: api.EvDesired, A: api.MaxCap},
		"\x02" + string(c):                         {Kind: api.EvConfig, Config: config()},
		"\x03\x05\x00\x00\x00\x00\x00\x00\x00\x01": {Kind: api.EvHold, Id: 5, On: true},
		"\x03\x01\x00\x00\x00\x00\x00\x00\x00\x00": {Kind: api.EvHold, Id: 1},
		"\x04\x00\x00\x00\x00\x00\x00\x00\x40":     {Kind: api.EvBeat, Id: most},
		"\x05\x02\x00\x00\x00\x00\x00\x00\x00\x01": {Kind: api.EvDone, Id: 2, On: true},
		"\x05\x02\x00\x00\x00\x00\x00\x00\x00\x00": {Kind: api.EvDone, Id: 2},
		"\x06\x00\x00\x10\x00":                     {Kind: api.EvMetric, A: api.MaxMetric},
		"\x06\x00\x00\x00\x00":                     {Kind: api.EvMetric},
		"\x07\x00\x64\x00":                         {Kind: api.EvRefresh, B: 100},
		"\x07\x64\xc8\x64":                         {Kind: api.EvRefresh, A: 100, B: 200, At: 100},
		"\x08":                                     {Kind: api.EvCancel},
		"\x09":                                     {Kind: api.EvRollback},
		"\x0a\x00\x00\x00\x00\x00\x00\x00\x40\x01\x00\x00\x00\x00\x00\x00\x00": {Kind: api.EvGranted, Token: most, Id: 1},
		"\x0b\x01\x00\x00\x00\x00\x00\x00\x00":                                 {Kind: api.EvRefused, Token: 1},
		"\x0c\x07\x00\x00\x00\x00\x00\x00\x00":                                 {Kind: api.EvReady, Id: 7},
		"\x0d\x07\x00\x00\x00\x00\x00\x00\x00\x00\x00\x00\x00\x00\x01\x00\x00": {Kind: api.EvNotice, Id: 7, At: api.MaxTick},
		"\x0d\x07\x00\x00\x00\x00\x00\x00\x00\x00\x00\x00\x00\x00\x00\x00\x00": {Kind: api.EvNotice, Id: 7},
		"\x0e\x07\x00\x00\x00\x00\x00\x00\x00":                                 {Kind: api.EvRisk, Id: 7},
		"\x0f\x07\x00\x00\x00\x00\x00\x00\x00":                                 {Kind: api.EvGone, Id: 7},
		"\x10\x07\x00\x00\x00\x00\x00\x00\x00":                                 {Kind: api.EvStopped, Id: 7},
		"\x11\x00\x01\x00\x00\x00\x00\x00\x00\x00":                             {Kind: api.EvQuote, A: 1},
		"\x11\x3f\x00\x00\x00\x40\x00\x00\x01\x00":                             {Kind: api.EvQuote, Pool: 63, A: api.MaxPrice, B: api.MaxCap},
	}
}

// bad are events that may not be.
func bad() []api.Event {
	l := []api.Event{
		{}, {Kind: 18}, {Kind: 255}, {Kind: api.EvDesired, A: -1}, {Kind: api.EvDesired, A: api.MaxCap + 1}, {Kind: api.EvDesired, A: math.MinInt64},
		{Kind: api.EvConfig}, {Kind: api.EvConfig, Config: api.Config{Max: 1}},
		{Kind: api.EvHold}, {Kind: api.EvHold, Id: most + 1, On: true}, {Kind: api.EvBeat}, {Kind: api.EvBeat, Id: math.MaxUint64}, {Kind: api.EvDone, On: true}, {Kind: api.EvDone, Id: most + 1},
		{Kind: api.EvMetric, A: -1}, {Kind: api.EvMetric, A: api.MaxMetric + 1},
		{Kind: api.EvRefresh}, {Kind: api.EvRefresh, A: -1, B: 100}, {Kind: api.EvRefresh, A: 101, B: 100}, {Kind: api.EvRefresh, B: 99}, {Kind: api.EvRefresh, B: 201}, {Kind: api.EvRefresh, B: 100, At: 101},
		{Kind: api.EvGranted, Token: 1}, {Kind: api.EvGranted, Id: 1}, {Kind: api.EvGranted, Token: most + 1, Id: 1}, {Kind: api.EvGranted, Token: 1, Id: most + 1},
		{Kind: api.EvRefused}, {Kind: api.EvRefused, Token: most + 1}, {Kind: api.EvReady}, {Kind: api.EvRisk}, {Kind: api.EvGone}, {Kind: api.EvStopped}, {Kind: api.EvStopped, Id: most + 1},
		{Kind: api.EvNotice, At: 5}, {Kind: api.EvNotice, Id: 1, At: api.MaxTick + 1},
		{Kind: api.EvQuote}, {Kind: api.EvQuote, A: api.MaxPrice + 1}, {Kind: api.EvQuote, A: 1, B: -1}, {Kind: api.EvQuote, A: 1, B: api.MaxCap + 1}, {Kind: api.EvQuote, A: 1, Pool: -1}, {Kind: api.EvQuote, A: 1, Pool: 64},
	}
	// Each field that a kind does not have.
	has := map[uint8]string{
		api.EvDesired: "A", api.EvConfig: "Config", api.EvHold: "Id On", api.EvBeat: "Id", api.EvDone: "Id On", api.EvMetric: "A", api.EvRefresh: "A B At",
		api.EvGranted: "Token Id", api.EvRefused: "Token", api.EvReady: "Id", api.EvNotice: "Id At", api.EvRisk: "Id", api.EvGone: "Id", api.EvStopped: "Id", api.EvQuote: "Pool A B",
	}
	for _, e := range good() {
		for field, set := range map[string]func(e *api.Event){
			"Token": func(e *api.Event) { e.Token = 1 }, "Id": func(e *api.Event) { e.Id = 1 }, "Pool": func(e *api.Event) { e.Pool = 1 },
			"A": func(e *api.Event) { e.A = 1 }, "B": func(e *api.Event) { e.B = 100 }, "On": func(e *api.Event) { e.On = true }, "At": func(e *api.Event) { e.At = 1 },
			"Config": func(e *api.Event) { e.Config = config() },
		} {
			if !slices.Contains(fields(has[e.Kind]), field) {
				x := e
				set(&x)
				l = append(l, x)
			}
		}
	}
	return l
}

func fields(s string) []string {
	var l []string
	for _, b := range bytes.Fields([]byte(s)) {
		l = append(l, string(b))
	}
	return l
}

// P12.1

func TestMayBytesRead(t *testing.T) {
	for want, e := range good() {
		b, no := event.Bytes(e)
		if !event.May(e) || string(b) != want || no != api.OK {
			t.Errorf("%v: %x, %d, want %x", e, b, int(no), want)
		}
		got, no := event.Read([]byte(want))
		if !reflect.DeepEqual(got, e) || no != api.OK {
			t.Errorf("Read(%x) = %v, %d", want, got, int(no))
		}
	}
	for _, e := range bad() {
		if b, no := event.Bytes(e); event.May(e) || b != nil || no != api.ErrArg {
			t.Errorf("%v may be: %x, %d", e, b, int(no))
		}
	}
	e := api.Event{Kind: api.EvCancel, Config: api.Config{Pools: []api.Pool{}}}
	if !event.May(e) {
		t.Errorf("a list without elements is no zero one")
	}
}

func TestReadRefuses(t *testing.T) {
	c, _ := conf.Bytes(config())
	cut := func(at int, to byte) string {
		l := slices.Clone(c)
		l[at] = to
		return "\x02" + string(l)
	}
	for b, want := range map[string]api.Errno{
		"": api.ErrShort, "\x00": api.ErrForm, "\x12": api.ErrForm, "\xff\x01": api.ErrForm, "\x08\x00": api.ErrForm, "\x09\x01\x02": api.ErrForm,
		"\x01\x00\x00\x00": api.ErrShort, "\x01\x01\x00\x01\x00": api.ErrForm, "\x01\x00\x00\x00\x00\x00": api.ErrForm,
		"\x03\x05\x00\x00\x00\x00\x00\x00\x00": api.ErrShort, "\x03\x05\x00\x00\x00\x00\x00\x00\x00\x02": api.ErrForm, "\x03\x00\x00\x00\x00\x00\x00\x00\x00\x02": api.ErrForm,
		"\x03\x00\x00\x00\x00\x00\x00\x00\x00": api.ErrShort, "\x03\x00\x00\x00\x00\x00\x00\x00\x00\x01": api.ErrForm,
		"\x07\x00\x63\x00": api.ErrForm, "\x07\x65\x64\x00": api.ErrForm, "\x07\x65": api.ErrShort, "\x11\x40\x01\x00\x00\x00\x00\x00\x00\x00": api.ErrForm,
		"\x03\x02": api.ErrShort, "\x05\x01\x02\x03": api.ErrShort, "\x02": api.ErrShort, "\x02" + string(c[:len(c)-1]): api.ErrShort, "\x02" + string(c) + "\x00": api.ErrForm, cut(3, 2): api.ErrForm, cut(4, 0): api.ErrForm,
	} {
		e, no := event.Read([]byte(b))
		if !reflect.DeepEqual(e, api.Event{}) || no != want {
			t.Errorf("Read(%x) = %v, %d, want %d", b, e, int(no), int(want))
		}
	}
}

// P12.2

func frame(b string) string {
	l := binary.LittleEndian.AppendUint32(nil, uint32(len(b)))
	l = binary.LittleEndian.AppendUint32(l, crc.Of([]byte(b)))
	return string(l) + b
}

func TestPutAndGet(t *testing.T) {
	cancel := api.Event{Kind: api.EvCancel}
	for _, c := range []struct {
		l    []api.Event
		want string
		e    api.Errno
	}{
		{nil, "", 0}, {[]api.Event{}, "", 0}, {[]api.Event{cancel}, frame("\x08"), 0},
		{[]api.Event{cancel, {Kind: api.EvBeat, Id: 3}}, frame("\x08") + frame("\x04\x03\x00\x00\x00\x00\x00\x00\x00"), 0},
		{slices.Repeat([]api.Event{cancel}, 65), "", api.ErrLimit}, {make([]api.Event, 65), "", api.ErrLimit},
		{[]api.Event{cancel, {}}, "", api.ErrArg}, {make([]api.Event, 64), "", api.ErrArg},
	} {
		b, e := event.Put(c.l)
		if string(b) != c.want || e != c.e {
			t.Errorf("Put(%v) = %x, %d", c.l, b, int(e))
		}
		if e == api.OK {
			if l, e := event.Get(b); e != api.OK || !slices.EqualFunc(l, c.l, event.Same) {
				t.Errorf("Get(%x) = %v, %d", b, l, int(e))
			}
		}
	}
	b, e := event.Put(slices.Repeat([]api.Event{cancel}, 64))
	l, f := event.Get(b)
	if e != api.OK || f != api.OK || len(b) != 64*9 || len(l) != 64 {
		t.Errorf("64 events: %d bytes, %d, %d", len(b), int(e), int(f))
	}
}

func TestGetRefuses(t *testing.T) {
	one := frame("\x08")
	full, _ := event.Put(slices.Repeat([]api.Event{{Kind: api.EvCancel}}, 64))
	for _, c := range []struct {
		b string
		e api.Errno
	}{
		{one[:8], api.ErrShort}, {one[:7], api.ErrShort}, {one[:3], api.ErrShort}, {one + "\x00", api.ErrShort}, {one + "\xff\xff\xff\xff\x00\x00\x00\x00\x08", api.ErrShort},
		{string(full) + "\x00", api.ErrLimit}, {string(full) + one, api.ErrLimit},
		{one[:4] + "\x00" + one[5:], api.ErrSum}, {one[:8] + "\x09", api.ErrSum}, {"\x00\x00\x00\x00\x00\x00\x00\x00", api.ErrSum},
		{frame(""), api.ErrShort}, {frame("\x00"), api.ErrForm}, {frame("\x08\x08"), api.ErrForm}, {one + frame("\x01\x00"), api.ErrShort}, {frame("\x03\x05\x00\x00\x00\x00\x00\x00\x00\x02"), api.ErrForm},
	} {
		if l, e := event.Get([]byte(c.b)); l != nil || e != c.e {
			t.Errorf("Get(%x) = %v, %d, want %d", c.b, l, int(e), int(c.e))
		}
	}
}

// P12.3

func TestSame(t *testing.T) {
	var l []api.Event
	for _, e := range good() {
		l = append(l, e)
	}
	l = append(l, bad()...)
	for i, a := range l {
		for k, b := range l {
			if want := i == k || reflect.DeepEqual(a, b); event.Same(a, b) != want {
				t.Errorf("Same(%v, %v) is %t", a, b, !want)
			}
		}
	}
	if !event.Same(api.Event{}, api.Event{Config: api.Config{Plans: []api.Plan{}}}) {
		t.Errorf("a list without elements is another one than nil")
	}
}

// P12.4

func TestWhatIsReadHasJustTheseBytes(t *testing.T) {
	for b := range good() {
		l := []byte(b)
		for i := range b {
			for to := range 256 {
				copy(l, b)
				l[i] = byte(to)
				if e, no := event.Read(l); no == api.OK {
					if back, no := event.Bytes(e); no != api.OK || !bytes.Equal(back, l) {
						t.Fatalf("%x is read, and laid as %x, %d", l, back, int(no))
					}
				}
			}
		}
	}
}

func TestAListThatIsCut(t *testing.T) {
	l := []api.Event{{Kind: api.EvConfig, Config: config()}, {Kind: api.EvCancel}, {Kind: api.EvHold, Id: 9, On: true}, {Kind: api.EvCancel}, {Kind: api.EvQuote, A: 5}}
	b, _ := event.Put(l)
	for i := range b {
		got, e := event.Get(b[:i])
		if e == api.OK && (len(got) >= len(l) || !slices.EqualFunc(got, l[:len(got)], event.Same)) || e != api.OK && e != api.ErrShort {
			t.Errorf("cut at %d: %v, %d", i, got, int(e))
		}
	}
}

func TestAnswersAreNewMemory(t *testing.T) {
	e := api.Event{Kind: api.EvConfig, Config: config()}
	b, _ := event.Bytes(e)
	x, _ := event.Read(b)
	x.Config.Pools[0].Name = "z"
	clear(b)
	y, _ := event.Bytes(e)
	z, _ := event.Read(y)
	if !event.Same(z, e) || !event.May(e) {
		t.Errorf("memory is shared: %v, %v", z, e)
	}
}
