package recon_test

import (
	"math"
	"slices"
	"testing"

	"cohort/api"
	"cohort/event"
	"cohort/recon"
)

func told(id uint64, state uint8) api.Told { return api.Told{Id: id, Token: id + 4, State: state} }

func known(id uint64, state uint8) api.Inst {
	return api.Inst{Id: id, Token: id + 4, Weight: 1, State: state}
}

func ev(kind uint8, id uint64) api.Event { return api.Event{Kind: kind, Id: id} }

func granted(id uint64) api.Event { return api.Event{Kind: api.EvGranted, Id: id, Token: id + 4} }

func TestMay(t *testing.T) {
	for i, x := range []struct {
		l    []api.Told
		want bool
	}{
		{nil, true}, {[]api.Told{}, true}, {[]api.Told{told(1, 1)}, true}, {[]api.Told{told(1, 2), told(2, 3), told(9, 1)}, true}, {[]api.Told{{Id: 1 << 62, Token: 1 << 62, State: 1}}, true}, {[]api.Told{{Id: 1, Token: 1, State: 1}}, true},
		{[]api.Told{told(2, 1), told(1, 1)}, false}, {[]api.Told{told(2, 1), told(2, 1)}, false}, {[]api.Told{told(0, 1)}, false}, {[]api.Told{{Id: 1<<62 + 1, Token: 1, State: 1}}, false}, {[]api.Told{{Id: math.MaxUint64, Token: 1, State: 1}}, false},
		{[]api.Told{{Id: 1, State: 1}}, false}, {[]api.Told{{Id: 1, Token: 1<<62 + 1, State: 1}}, false}, {[]api.Told{told(1, 0)}, false}, {[]api.Told{told(1, api.CloudGone)}, false}, {[]api.Told{told(1, 255)}, false},
	} {
		if recon.May(x.l) != x.want {
			t.Errorf("%d: May is %t", i, !x.want)
		}
	}
}

// P20.1

func TestEventsOfOne(t *testing.T) {
	for cloud := uint8(1); cloud <= 3; cloud++ {
		for state := uint8(1); state <= 9; state++ {
			var want []api.Event
			switch {
			case cloud == api.CloudUp && (state == api.Pending || state == api.Waking || state == api.Warming):
				want = []api.Event{ev(api.EvReady, 7)}
			case cloud == api.CloudStopped && state == api.Warming:
				want = []api.Event{ev(api.EvStopped, 7)}
			}
			l, e := recon.Events([]api.Told{told(7, cloud)}, []api.Inst{known(7, state)})
			if e != api.OK || !slices.EqualFunc(l, want, event.Same) {
				t.Errorf("%d, known as %d: %v, %d", cloud, state, l, int(e))
			}
		}
	}
}

func TestEvents(t *testing.T) {
	for i, x := range []struct {
		told  []api.Told
		known []api.Inst
		want  []api.Event
	}{
		{nil, nil, nil},
		{[]api.Told{told(1, api.CloudUp)}, nil, []api.Event{granted(1), ev(api.EvReady, 1)}},
		{[]api.Told{told(1, api.CloudBooting)}, nil, []api.Event{granted(1)}},
		{[]api.Told{told(1, api.CloudStopped)}, nil, []api.Event{granted(1)}},
		{nil, []api.Inst{known(1, api.Serving)}, []api.Event{ev(api.EvGone, 1)}},
		{nil, []api.Inst{known(1, api.Ending), known(2, api.Warm)}, []api.Event{ev(api.EvGone, 1), ev(api.EvGone, 2)}},
		{
			[]api.Told{told(2, api.CloudUp), told(4, api.CloudUp), told(5, api.CloudStopped), told(6, api.CloudBooting), told(9, api.CloudUp)},
			[]api.Inst{known(1, api.Serving), known(2, api.Pending), known(3, api.Pending), known(5, api.Warming), known(6, api.Pending), known(8, api.Draining)},
			[]api.Event{ev(api.EvReady, 2), granted(4), ev(api.EvReady, 4), ev(api.EvStopped, 5), granted(9), ev(api.EvReady, 9), ev(api.EvGone, 1), ev(api.EvGone, 3), ev(api.EvGone, 8)},
		},
	} {
		kept, insts := slices.Clone(x.told), slices.Clone(x.known)
		l, e := recon.Events(x.told, x.known)
		if e != api.OK || !slices.EqualFunc(l, x.want, event.Same) || !slices.Equal(kept, x.told) || !slices.Equal(insts, x.known) {
			t.Errorf("%d: %v, %d, want %v", i, l, int(e), x.want)
		}
	}
}

func TestEventsOfWhatMayNotBe(t *testing.T) {
	for i, x := range []struct {
		told  []api.Told
		known []api.Inst
	}{
		{[]api.Told{told(2, 1), told(1, 1)}, nil}, {[]api.Told{told(1, api.CloudGone)}, nil}, {nil, []api.Inst{{}}}, {nil, []api.Inst{known(2, 1), known(1, 1)}}, {[]api.Told{told(0, 1)}, []api.Inst{{}}},
	} {
		if l, e := recon.Events(x.told, x.known); l != nil || e != api.ErrArg {
			t.Errorf("%d: %v, %d", i, l, int(e))
		}
	}
}

// P20.2

func TestWhatIsAsItShouldBe(t *testing.T) {
	fits := map[uint8][]uint8{
		api.CloudBooting: {api.Pending, api.Warming, api.Draining, api.Leaving, api.Ending},
		api.CloudUp:      {api.Hooked, api.Serving, api.Draining, api.Leaving, api.Ending},
		api.CloudStopped: {api.Warm, api.Waking, api.Ending},
	}
	var l []api.Told
	var k []api.Inst
	for cloud := uint8(1); cloud <= 3; cloud++ {
		for _, state := range fits[cloud] {
			id := uint64(len(l) + 1)
			l, k = append(l, told(id, cloud)), append(k, known(id, state))
		}
	}
	if got, e := recon.Events(l, k); len(got) != 0 || e != api.OK {
		t.Errorf("Events = %v, %d", got, int(e))
	}
}
