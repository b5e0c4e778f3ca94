package crc_test

import (
	"slices"
	"testing"

	"cohort/crc"
)

// step is a step as the chapter says it, bit by bit.
func step(r uint32) uint32 {
	if r >= 1<<31 {
		return uint32(uint64(r)*2%(1<<32)) ^ 0x04c11db7
	}
	return r * 2
}

func take(r uint32, c byte) uint32 {
	r ^= uint32(c) << 24
	for range 8 {
		r = step(r)
	}
	return r
}

// numbers are some numbers of 32 bits, each bit of them both 0 and 1.
func numbers() []uint32 {
	l := []uint32{0, 1, 2, 0x7fffffff, 0x80000000, 0x80000001, 0xffffffff, 0x04c11db7, 0xdeadbeef}
	for i, r := 0, uint32(12345); i < 3000; i++ {
		r = r*1664525 + 1013904223
		l = append(l, r, 1<<(i%32), ^uint32(1<<(i%32)))
	}
	return l
}

// stuff is n bytes of a kind that seed tells.
func stuff(n int, seed uint32) []byte {
	b := make([]byte, n)
	for i := range b {
		seed = seed*1664525 + 1013904223
		b[i] = byte(seed >> 24)
	}
	return b
}

// P3.1

func TestStep(t *testing.T) {
	if crc.Step(1) != 2 || crc.Step(0x80000000) != 0x04c11db7 || crc.Step(0) != 0 {
		t.Errorf("Step = %x, %x, %x", crc.Step(1), crc.Step(0x80000000), crc.Step(0))
	}
	for _, r := range numbers() {
		if crc.Step(r) != step(r) {
			t.Fatalf("Step(%x) = %x, want %x", r, crc.Step(r), step(r))
		}
	}
}

func TestTake(t *testing.T) {
	if crc.Take(0, 1) != 0x04c11db7 || crc.Take(0, 0) != 0 {
		t.Errorf("Take = %x, %x", crc.Take(0, 1), crc.Take(0, 0))
	}
	for i, r := range numbers() {
		if c := byte(i); crc.Take(r, c) != take(r, c) {
			t.Fatalf("Take(%x, %x) = %x, want %x", r, c, crc.Take(r, c), take(r, c))
		}
	}
	for c := range 256 {
		if crc.Take(0, byte(c)) != take(0, byte(c)) {
			t.Errorf("Take(0, %x) = %x, want %x", c, crc.Take(0, byte(c)), take(0, byte(c)))
		}
	}
}

func TestMoreAndOf(t *testing.T) {
	if n := crc.Of(nil); n != 0xffffffff {
		t.Errorf("Of(none) = %x", n)
	}
	if n := crc.Of([]byte("123456789")); n != 0x0376e6e7 {
		t.Errorf("Of(123456789) = %x", n)
	}
	for i, r := range numbers()[:300] {
		b := stuff(i%50, r)
		want := r
		for _, c := range b {
			want = take(want, c)
		}
		kept := slices.Clone(b)
		if n := crc.More(r, b); n != want || !slices.Equal(b, kept) {
			t.Fatalf("More(%x, %x) = %x, want %x", r, kept, n, want)
		}
		if n := crc.Of(b); n != crc.More(0xffffffff, b) {
			t.Fatalf("Of(%x) = %x", b, n)
		}
	}
}

// P3.2

func TestOfTwoPieces(t *testing.T) {
	b := stuff(200, 7)
	for i := range len(b) + 1 {
		if n := crc.More(crc.Of(b[:i]), b[i:]); n != crc.Of(b) {
			t.Errorf("in two at %d: %x, want %x", i, n, crc.Of(b))
		}
	}
}

func TestUpToFourBytesSideBySideAreTold(t *testing.T) {
	b := stuff(64, 3)
	sum := crc.Of(b)
	for i, r := range numbers() {
		other := slices.Clone(b)
		many, at := 1+i%4, i%61
		changed := false
		for k := range many {
			other[at+k] ^= byte(r >> (8 * k))
			changed = changed || byte(r>>(8*k)) != 0
		}
		if changed == (crc.Of(other) == sum) {
			t.Fatalf("%d bytes from %d on against %x: the sums %x, %x", many, at, r, sum, crc.Of(other))
		}
	}
}

func TestBytesWithTheirSumBehindThem(t *testing.T) {
	for n := range 100 {
		b := stuff(n, uint32(n))
		sum := crc.Of(b)
		b = append(b, byte(sum>>24), byte(sum>>16), byte(sum>>8), byte(sum))
		if crc.Of(b) != 0 {
			t.Errorf("%d bytes and their sum have the sum %x", n, crc.Of(b))
		}
	}
}
