package seal_test

import (
	"bytes"
	"encoding/binary"
	"math"
	"testing"

	"cohort/api"
	"cohort/crc"
	"cohort/seal"
)

// laid is a sealed block as the chapter says it: of two numbers, with a sum.
func laid(first, last uint64, body []byte, more uint32) (b api.Block) {
	binary.LittleEndian.PutUint64(b[4:], first)
	copy(b[12:56], body)
	binary.LittleEndian.PutUint64(b[56:], last)
	binary.LittleEndian.PutUint32(b[:], crc.Of(b[4:])+more)
	return b
}

func put(t *testing.T, number uint64, body []byte) api.Block {
	t.Helper()
	b, e := seal.Put(number, body)
	if e != api.OK {
		t.Fatalf("Put(%d, %x): %d", number, body, int(e))
	}
	return b
}

func bodies() [][]byte {
	long := make([]byte, api.MaxBody)
	for i := range long {
		long[i] = byte(i*37 + 1)
	}
	return [][]byte{nil, {}, {7}, {0, 0, 9}, long[:43], long}
}

// P7.1

func TestPut(t *testing.T) {
	for _, n := range []uint64{1, 5, 1 << 40, math.MaxUint64} {
		for _, body := range bodies() {
			room := append(append(make([]byte, 0, 80), body...), 99, 98)
			if b := put(t, n, room[:len(body)]); b != laid(n, n, body, 0) || room[len(body)] != 99 {
				t.Errorf("Put(%d, %x) = %x", n, body, b)
			}
		}
	}
	for _, c := range []struct {
		n    uint64
		many int
		e    api.Errno
	}{{0, 0, api.ErrArg}, {0, 45, api.ErrArg}, {1, 45, api.ErrLimit}, {1, 1000, api.ErrLimit}} {
		if b, e := seal.Put(c.n, make([]byte, c.many)); b != (api.Block{}) || e != c.e {
			t.Errorf("Put(%d, %d bytes) = %x, %d", c.n, c.many, b, int(e))
		}
	}
}

func TestGet(t *testing.T) {
	for _, c := range []struct {
		b api.Block
		e api.Errno
	}{
		{api.Block{}, api.ErrForm},
		{laid(0, 0, nil, 0), api.ErrForm},
		{laid(0, 0, nil, 1), api.ErrForm},
		{laid(5, 6, nil, 0), api.ErrForm},
		{laid(5, 5|1<<63, nil, 1), api.ErrForm},
		{laid(0, 1, nil, 0), api.ErrForm},
		{laid(5, 5, nil, 1), api.ErrSum},
		{laid(5, 5, nil, 1<<31), api.ErrSum},
		{laid(5, 5, nil, 0), api.OK},
		{laid(math.MaxUint64, math.MaxUint64, []byte{1}, 0), api.OK},
	} {
		n, body, e := seal.Get(c.b)
		if e != c.e || e != api.OK && (n != 0 || len(body) != 0) || e == api.OK && len(body) != api.MaxBody {
			t.Errorf("Get(%x) = %d, %x, %d, want %d", c.b, n, body, int(e), int(c.e))
		}
	}
}

// P7.2

func TestNewestAndNext(t *testing.T) {
	none, old, same, young := api.Block{}, put(t, 5, []byte{1}), put(t, 5, []byte{2}), put(t, 6, nil)
	most, bad := put(t, math.MaxUint64, nil), laid(9, 9, nil, 1)
	for i, c := range []struct {
		a, b        api.Block
		which, next int
		e           api.Errno
	}{
		{none, none, 0, 0, api.ErrNone}, {bad, none, 0, 0, api.ErrNone}, {none, bad, 0, 0, api.ErrNone}, {bad, bad, 0, 0, api.ErrNone},
		{old, none, 0, 1, 0}, {none, old, 1, 0, 0}, {old, bad, 0, 1, 0}, {bad, old, 1, 0, 0},
		{old, young, 1, 0, 0}, {young, old, 0, 1, 0}, {old, same, 0, 1, 0}, {same, old, 0, 1, 0},
		{most, young, 0, 1, 0}, {young, most, 1, 0, 0},
	} {
		which, e := seal.Newest(c.a, c.b)
		if which != c.which || e != c.e || seal.Next(c.a, c.b) != c.next {
			t.Errorf("%d: Newest = %d, %d, Next = %d", i, which, int(e), seal.Next(c.a, c.b))
		}
	}
}

// P7.3

func TestWhatIsSealedIsTold(t *testing.T) {
	for _, n := range []uint64{1, 2, 255, 256, 1 << 61, math.MaxUint64} {
		for _, body := range bodies() {
			got, back, e := seal.Get(put(t, n, body))
			want := make([]byte, api.MaxBody)
			copy(want, body)
			if got != n || !bytes.Equal(back, want) || e != api.OK {
				t.Errorf("Get(Put(%d, %x)) = %d, %x, %d", n, body, got, back, int(e))
			}
		}
	}
}

func TestHalves(t *testing.T) {
	const half = api.Size / 2
	for _, below := range []api.Block{{}, put(t, 4, bodies()[4]), put(t, 1<<63, bodies()[5])} {
		old, _, oldE := seal.Get(below)
		for _, body := range bodies() {
			for _, n := range []uint64{1, 5, 5 << 32} {
				b := put(t, n, body)
				first, last := below, below
				copy(first[:half], b[:half])
				copy(last[half:], b[half:])
				for _, torn := range []api.Block{first, last} {
					got, back, e := seal.Get(torn)
					if e == api.OK && torn != b && torn != below {
						t.Errorf("Get(%x) = %d, %x: torn of %d and %d (%d)", torn, got, back, n, old, int(oldE))
					}
				}
			}
		}
	}
}

func TestEachByteCounts(t *testing.T) {
	for _, body := range bodies() {
		b := put(t, 77, body)
		for i := range b {
			for _, against := range []byte{1, 128, 255} {
				other := b
				other[i] ^= against
				if n, back, e := seal.Get(other); e == api.OK || n != 0 || len(back) != 0 {
					t.Errorf("byte %d against %d: %d, %x, %d", i, against, n, back, int(e))
				}
			}
		}
	}
}
