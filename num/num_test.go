package num_test

import (
	"bytes"
	"math"
	"math/big"
	"testing"

	"cohort/api"
	"cohort/num"
)

const (
	least    = math.MinInt64
	greatest = math.MaxInt64
)

// edges are numbers around all powers of 2, of both signs, around the roots
// of the greatest number, and the quotients of the greatest and the least
// number by small ones, where products begin to run over.
func edges() []int64 {
	l := []int64{least, least + 1, greatest, greatest - 1, 3037000499, 3037000500, -3037000499, -3037000500}
	for i := range 63 {
		for d := range int64(3) {
			n := int64(1)<<i + d - 1
			l = append(l, n, -n)
		}
	}
	for n := int64(2); n < 12; n++ {
		for d := int64(-1); d < 2; d++ {
			l = append(l, greatest/n+d, least/n+d)
		}
	}
	return l
}

// want tells what a call is to answer that is to tell n: it, or ErrOver.
func want(n *big.Int) (int64, api.Errno) {
	if !n.IsInt64() {
		return 0, api.ErrOver
	}
	return n.Int64(), api.OK
}

// quotient tells a by b, up, from the numbers without bounds: the least q of
// which q times b is at least a.
func quotient(a, b *big.Int) *big.Int {
	q, r := new(big.Int).DivMod(a, b, new(big.Int))
	if r.Sign() > 0 {
		q.Add(q, big.NewInt(1))
	}
	return q
}

type row struct {
	a, b, want int64
	e          api.Errno
}

func check(t *testing.T, call string, f func(a, b int64) (int64, api.Errno), rows []row) {
	t.Helper()
	for _, r := range rows {
		if n, e := f(r.a, r.b); n != r.want || e != r.e {
			t.Errorf("%s(%d, %d) = %d, %d, want %d, %d", call, r.a, r.b, n, int(e), r.want, int(r.e))
		}
	}
}

// P1.1

func TestAddRows(t *testing.T) {
	check(t, "Add", num.Add, []row{
		{0, 0, 0, api.OK},
		{2, 3, 5, api.OK},
		{-1, 1, 0, api.OK},
		{greatest, 0, greatest, api.OK},
		{0, least, least, api.OK},
		{greatest - 1, 1, greatest, api.OK},
		{greatest, 1, 0, api.ErrOver},
		{1, greatest, 0, api.ErrOver},
		{greatest, greatest, 0, api.ErrOver},
		{least + 1, -1, least, api.OK},
		{least, -1, 0, api.ErrOver},
		{-1, least, 0, api.ErrOver},
		{least, least, 0, api.ErrOver},
		{greatest, least, -1, api.OK},
		{least, greatest, -1, api.OK},
	})
}

func TestMulRows(t *testing.T) {
	check(t, "Mul", num.Mul, []row{
		{0, 0, 0, api.OK},
		{0, least, 0, api.OK},
		{least, 0, 0, api.OK},
		{6, 7, 42, api.OK},
		{-6, 7, -42, api.OK},
		{6, -7, -42, api.OK},
		{-6, -7, 42, api.OK},
		{1 << 32, 1 << 31, 0, api.ErrOver},
		{1 << 32, 1<<31 - 1, greatest - 1<<32 + 1, api.OK},
		{1 << 32, -1 << 31, least, api.OK},
		{-1 << 32, 1 << 31, least, api.OK},
		{-1 << 32, -1 << 31, 0, api.ErrOver},
		{-1, least, 0, api.ErrOver},
		{least, -1, 0, api.ErrOver},
		{least, 1, least, api.OK},
		{1, least, least, api.OK},
		{-1, greatest, -greatest, api.OK},
		{greatest, -1, -greatest, api.OK},
		{least, 2, 0, api.ErrOver},
		{least, least, 0, api.ErrOver},
		{greatest, greatest, 0, api.ErrOver},
		{3037000499, 3037000499, 9223372030926249001, api.OK},
		{3037000500, 3037000500, 0, api.ErrOver},
	})
}

func TestUpRows(t *testing.T) {
	check(t, "Up", num.Up, []row{
		{7, 2, 4, api.OK},
		{6, 2, 3, api.OK},
		{1, 2, 1, api.OK},
		{0, 5, 0, api.OK},
		{-7, 2, -3, api.OK},
		{-6, 2, -3, api.OK},
		{-1, 2, 0, api.OK},
		{1, greatest, 1, api.OK},
		{-1, greatest, 0, api.OK},
		{greatest, 1, greatest, api.OK},
		{greatest, 2, 1 << 62, api.OK},
		{greatest, greatest, 1, api.OK},
		{least, 1, least, api.OK},
		{least, 2, -1 << 62, api.OK},
		{least, 3, -3074457345618258602, api.OK},
		{least, greatest, -1, api.OK},
		{1, 0, 0, api.ErrArg},
		{0, 0, 0, api.ErrArg},
		{5, -1, 0, api.ErrArg},
		{least, -1, 0, api.ErrArg},
		{least, least, 0, api.ErrArg},
	})
}

func TestReckonsAsWithoutBounds(t *testing.T) {
	l := edges()
	for _, a := range l {
		for _, b := range l {
			x, y := big.NewInt(a), big.NewInt(b)
			n, e := want(new(big.Int).Add(x, y))
			check(t, "Add", num.Add, []row{{a, b, n, e}})
			n, e = want(new(big.Int).Mul(x, y))
			check(t, "Mul", num.Mul, []row{{a, b, n, e}})
			n, e = 0, api.ErrArg
			if b >= 1 {
				n, e = want(quotient(x, y))
			}
			check(t, "Up", num.Up, []row{{a, b, n, e}})
		}
	}
}

// P1.2

func TestPartRows(t *testing.T) {
	check(t, "Part", num.Part, []row{
		{10, 25, 3, api.OK},
		{10, 0, 0, api.OK},
		{3, 150, 5, api.OK},
		{0, 1000, 0, api.OK},
		{0, 0, 0, api.OK},
		{1, 1, 1, api.OK},
		{100, 1, 1, api.OK},
		{101, 1, 2, api.OK},
		{7, 100, 7, api.OK},
		{5, 1000, 50, api.OK},
		{5, 1001, 0, api.ErrArg},
		{5, -1, 0, api.ErrArg},
		{5, greatest, 0, api.ErrArg},
		{5, least, 0, api.ErrArg},
		{-1, 5, 0, api.ErrArg},
		{-1, 0, 0, api.ErrArg},
		{least, 1, 0, api.ErrArg},
		{-1, 1001, 0, api.ErrArg},
		{greatest, 0, 0, api.OK},
		{greatest, 1, 92233720368547759, api.OK},
		{greatest, 2, 0, api.ErrOver},
		{greatest, 100, 0, api.ErrOver},
		{greatest / 1000, 1000, greatest / 1000 * 10, api.OK},
		{greatest/1000 + 1, 1000, 0, api.ErrOver},
	})
}

func TestPartTellsErrArgAheadOfErrOver(t *testing.T) {
	check(t, "Part", num.Part, []row{
		{greatest, 1001, 0, api.ErrArg},
		{greatest, -2, 0, api.ErrArg},
		{least, 2, 0, api.ErrArg},
		{least, -2, 0, api.ErrArg},
	})
}

func TestPartAsWithoutBounds(t *testing.T) {
	for _, n := range edges() {
		for percent := int64(-2); percent < 1003; percent++ {
			w, e := int64(0), api.ErrArg
			if n >= 0 && percent >= 0 && percent <= 1000 {
				p := new(big.Int).Mul(big.NewInt(n), big.NewInt(percent))
				if _, e = want(p); e == api.OK {
					w, e = want(quotient(p, big.NewInt(100)))
				}
			}
			check(t, "Part", num.Part, []row{{n, percent, w, e}})
		}
	}
}

func TestClamp(t *testing.T) {
	for _, c := range []struct{ n, low, high, want int64 }{
		{5, 1, 3, 3},
		{0, 1, 3, 1},
		{1, 1, 3, 1},
		{2, 1, 3, 2},
		{3, 1, 3, 3},
		{4, 1, 3, 3},
		{7, 5, 5, 5},
		{5, 5, 5, 5},
		{3, 5, 5, 5},
		{0, 3, 1, 3},
		{1, 3, 1, 3},
		{2, 3, 1, 3},
		{3, 3, 1, 3},
		{9, 3, 1, 3},
		{-4, -3, -1, -3},
		{0, -3, -1, -1},
		{least, least, greatest, least},
		{greatest, least, greatest, greatest},
		{least, greatest, least, greatest},
		{greatest, greatest, least, greatest},
		{0, greatest, least, greatest},
	} {
		if n := num.Clamp(c.n, c.low, c.high); n != c.want {
			t.Errorf("Clamp(%d, %d, %d) = %d, want %d", c.n, c.low, c.high, n, c.want)
		}
	}
}

// P1.3

func TestPut(t *testing.T) {
	all := bytes.Repeat([]byte{255}, 8)
	for _, c := range []struct {
		n    uint64
		size int
		want []byte
		e    api.Errno
	}{
		{258, 2, []byte{2, 1}, api.OK},
		{0, 1, []byte{0}, api.OK},
		{0, 8, make([]byte, 8), api.OK},
		{7, 4, []byte{7, 0, 0, 0}, api.OK},
		{0x0807060504030201, 8, []byte{1, 2, 3, 4, 5, 6, 7, 8}, api.OK},
		{0x04030201, 4, []byte{1, 2, 3, 4}, api.OK},
		{1<<8 - 1, 1, all[:1], api.OK},
		{1<<16 - 1, 2, all[:2], api.OK},
		{1<<32 - 1, 4, all[:4], api.OK},
		{1<<64 - 1, 8, all, api.OK},
		{1 << 8, 1, nil, api.ErrArg},
		{1 << 16, 2, nil, api.ErrArg},
		{1 << 32, 4, nil, api.ErrArg},
		{1<<64 - 1, 1, nil, api.ErrArg},
		{1<<64 - 1, 2, nil, api.ErrArg},
		{1<<64 - 1, 4, nil, api.ErrArg},
	} {
		if b, e := num.Put(c.n, c.size); !bytes.Equal(b, c.want) || e != c.e {
			t.Errorf("Put(%d, %d) = %x, %d, want %x, %d", c.n, c.size, b, int(e), c.want, int(c.e))
		}
	}
}

// noSizes are sizes that are none.
var noSizes = []int{math.MinInt, -8, -4, -2, -1, 0, 3, 5, 6, 7, 9, 16, 64, math.MaxInt}

func TestNoSize(t *testing.T) {
	long := make([]byte, 100)
	for _, size := range noSizes {
		for _, n := range []uint64{0, 1, 1<<64 - 1} {
			if b, e := num.Put(n, size); b != nil || e != api.ErrArg {
				t.Errorf("Put(%d, %d) = %x, %d", n, size, b, int(e))
			}
		}
		for _, b := range [][]byte{nil, {1}, long} {
			if n, e := num.Get(b, 0, size); n != 0 || e != api.ErrArg {
				t.Errorf("Get(%d bytes, 0, %d) = %d, %d", len(b), size, n, int(e))
			}
		}
	}
}

func TestGet(t *testing.T) {
	b := []byte{1, 2, 3, 4, 5, 6, 7, 8, 255}
	for _, c := range []struct {
		b        []byte
		at, size int
		want     uint64
		e        api.Errno
	}{
		{[]byte{2, 1}, 0, 2, 258, api.OK},
		{[]byte{9, 2, 1}, 1, 2, 258, api.OK},
		{b, 0, 1, 1, api.OK},
		{b, 8, 1, 255, api.OK},
		{b, 7, 2, 0xff08, api.OK},
		{b, 2, 4, 0x06050403, api.OK},
		{b, 5, 4, 0xff080706, api.OK},
		{b, 0, 8, 0x0807060504030201, api.OK},
		{b, 1, 8, 0xff08070605040302, api.OK},
		{b, 9, 1, 0, api.ErrShort},
		{b, 8, 2, 0, api.ErrShort},
		{b, 6, 4, 0, api.ErrShort},
		{b, 2, 8, 0, api.ErrShort},
		{b[:8:9], 8, 1, 0, api.ErrShort},
		{b[:2], 1, 2, 0, api.ErrShort},
		{nil, 0, 1, 0, api.ErrShort},
		{[]byte{}, 0, 8, 0, api.ErrShort},
	} {
		if n, e := num.Get(c.b, c.at, c.size); n != c.want || e != c.e {
			t.Errorf("Get(%x, %d, %d) = %d, %d, want %d, %d", c.b, c.at, c.size, n, int(e), c.want, int(c.e))
		}
	}
}

func TestGetTellsErrArgAheadOfErrShort(t *testing.T) {
	for _, c := range []struct {
		b        []byte
		at, size int
	}{
		{nil, -1, 1},
		{nil, 1, 1},
		{[]byte{2}, 2, 1},
		{[]byte{2}, 2, 8},
		{[]byte{2}, -1, 1},
		{[]byte{2}, math.MinInt, 8},
		{[]byte{2}, math.MaxInt, 8},
		{[]byte{2}, 1, 3},
		{[]byte{2}, 0, 3},
		{make([]byte, 2, 20), 3, 1},
	} {
		if n, e := num.Get(c.b, c.at, c.size); n != 0 || e != api.ErrArg {
			t.Errorf("Get(%x, %d, %d) = %d, %d", c.b, c.at, c.size, n, int(e))
		}
	}
}

func TestBytesAreNobodyElses(t *testing.T) {
	a, _ := num.Put(258, 2)
	b, _ := num.Put(258, 2)
	a[0] = 9
	if !bytes.Equal(b, []byte{2, 1}) {
		t.Errorf("two answers of Put share memory: %x", b)
	}
	room := []byte{1, 2, 3, 4}
	num.Get(room[:2], 0, 2)
	if !bytes.Equal(room, []byte{1, 2, 3, 4}) {
		t.Errorf("Get changed what it was handed: %x", room)
	}
}

// P1.4

func TestPartsOfWholeAndRest(t *testing.T) {
	whole := []int64{0, 1, 2, 3, 7, 10, 99, 100, 101, 1 << 16, 1<<16 + 1, greatest / 100, greatest/100 - 1}
	for n := range int64(300) {
		whole = append(whole, n)
	}
	for _, n := range whole {
		for percent := range int64(101) {
			a, e1 := num.Part(n, percent)
			b, e2 := num.Part(n, 100-percent)
			sum, e3 := num.Add(a, b)
			if e1 != api.OK || e2 != api.OK || e3 != api.OK || sum < n || sum-n >= 2 {
				t.Errorf("of %d: %d percent are %d (%d), the rest is %d (%d)", n, percent, a, int(e1), b, int(e2))
			}
		}
	}
}

func TestWhatIsPutIsGot(t *testing.T) {
	for _, size := range []int{1, 2, 4, 8} {
		for i := range 8 * size {
			for d := range uint64(3) {
				n := uint64(1)<<i + d - 1
				if n>>(8*size) != 0 {
					continue
				}
				b, e := num.Put(n, size)
				if e != api.OK || len(b) != size {
					t.Fatalf("Put(%d, %d) = %x, %d", n, size, b, int(e))
				}
				framed := append(append([]byte{170}, b...), 85)
				if got, e := num.Get(framed, 1, size); got != n || e != api.OK {
					t.Errorf("Get(%x, 1, %d) = %d, %d, want %d", framed, size, got, int(e), n)
				}
			}
		}
	}
}
