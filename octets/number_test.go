package octets_test

import (
	"bytes"
	"encoding/binary"
	"math"
	"testing"

	"flagstone/api"
	"flagstone/octets"
)

// numbers are those at the edges of each size, and some with eight different octets.
func numbers() []uint64 {
	l := []uint64{0, 1, 0x0102030405060708, 0xf1e2d3c4b5a69788}
	for bits := uint(1); bits <= 64; bits++ {
		top := uint64(1) << (bits - 1)
		l = append(l, top-1, top, top+1, top|(top-1))
	}
	return l
}

// lowestFirst is what the library says of the eight octets of n.
func lowestFirst(n uint64) []byte {
	return binary.LittleEndian.AppendUint64(nil, n)
}

func wrongSizes() []int {
	return []int{0, -1, 9, 10, 64, -8, 256 + 4, 1<<32 + 4, math.MaxInt, math.MinInt, math.MinInt + 4}
}

// P1.1, P5.
func TestPutTellsTheLowestOctetFirst(t *testing.T) {
	for _, n := range numbers() {
		whole := lowestFirst(n)
		for size := 1; size <= 8; size++ {
			fits := len(bytes.TrimRight(whole, "\x00")) <= size
			b, err := octets.Put(n, size)
			if fits && (err != api.OK || !bytes.Equal(b, whole[:size])) {
				t.Errorf("P1.1: Put(%#x, %d): % x, %d; want % x", n, size, b, err, whole[:size])
			}
			if !fits && (err != api.ErrRange || len(b) != 0) {
				t.Errorf("P1.1: Put(%#x, %d): % x, %d; want ErrRange", n, size, b, err)
			}
		}
	}
}

// P1.1.
func TestPutOfWhatJustFits(t *testing.T) {
	for size := 1; size < 8; size++ {
		most := uint64(1)<<(8*size) - 1
		if b, err := octets.Put(most, size); err != api.OK || !bytes.Equal(b, bytes.Repeat([]byte{255}, size)) {
			t.Errorf("P1.1: Put(%#x, %d): % x, %d", most, size, b, err)
		}
		if b, err := octets.Put(most+1, size); err != api.ErrRange || len(b) != 0 {
			t.Errorf("P1.1: Put(%#x, %d): % x, %d; want ErrRange", most+1, size, b, err)
		}
	}
	if b, err := octets.Put(math.MaxUint64, 8); err != api.OK || !bytes.Equal(b, bytes.Repeat([]byte{255}, 8)) {
		t.Errorf("P1.1: Put of the greatest: % x, %d", b, err)
	}
}

// P1.1, P1, P4: the size counts ahead of the number.
func TestPutRefusesSizes(t *testing.T) {
	for _, size := range wrongSizes() {
		for _, n := range []uint64{0, 258, math.MaxUint64} {
			if b, err := octets.Put(n, size); err != api.ErrArg || len(b) != 0 {
				t.Errorf("P1.1: Put(%d, %d): % x, %d; want ErrArg", n, size, b, err)
			}
		}
	}
}

// P1.1, P5.
func TestGetReadsTheLowestOctetFirst(t *testing.T) {
	b := []byte{9, 2, 1, 0, 0, 255, 254, 253, 252, 251, 250, 249, 248}
	for at := range b {
		for size := 1; size <= 8; size++ {
			n, err := octets.Get(b, at, size)
			if at+size > len(b) {
				if err != api.ErrShort || n != 0 {
					t.Errorf("P1.1: Get(at %d, size %d): %#x, %d; want ErrShort", at, size, n, err)
				}
				continue
			}
			want := binary.LittleEndian.Uint64(append(bytes.Clone(b[at:at+size]), make([]byte, 8)...))
			if err != api.OK || n != want {
				t.Errorf("P1.1: Get(at %d, size %d): %#x, %d; want %#x", at, size, n, err, want)
			}
		}
	}
}

// P1.1: octets that end just ahead of what is read, or just behind.
func TestGetAtTheEnd(t *testing.T) {
	for size := 1; size <= 8; size++ {
		for length := range 12 {
			b := bytes.Repeat([]byte{7}, length)
			if _, err := octets.Get(b, length-size, size); length >= size && err != api.OK {
				t.Errorf("P1.1: Get of the last %d of %d: %d", size, length, err)
			}
			if n, err := octets.Get(b, length-size+1, size); length >= size && (err != api.ErrShort || n != 0) {
				t.Errorf("P1.1: Get of %d, one is missing, of %d: %d, %d; want ErrShort", size, length, n, err)
			}
		}
	}
}

// P1.1: what stands in the list's memory behind its end is not read.
func TestGetStopsAtTheLength(t *testing.T) {
	b := []byte{1, 2, 3, 4}[:2]
	if n, err := octets.Get(b, 0, 3); err != api.ErrShort || n != 0 {
		t.Errorf("P1.1: Get beyond the length: %#x, %d; want ErrShort", n, err)
	}
}

// P1.1, P1, P4: the size, then the place, then the octets.
func TestGetRefuses(t *testing.T) {
	lists := [][]byte{nil, {}, {1}, {1, 2, 3, 4, 5, 6, 7, 8, 9}}
	for _, b := range lists {
		for _, size := range wrongSizes() {
			for _, at := range []int{0, -1, 1, math.MinInt, math.MaxInt} {
				if n, err := octets.Get(b, at, size); err != api.ErrArg || n != 0 {
					t.Errorf("P1.1: Get(%v, %d, %d): %d, %d; want ErrArg", b, at, size, n, err)
				}
			}
		}
		for size := 1; size <= 8; size++ {
			for _, at := range []int{-1, -8, math.MinInt, math.MinInt + 8} {
				if n, err := octets.Get(b, at, size); err != api.ErrRange || n != 0 {
					t.Errorf("P1.1: Get(%v, %d, %d): %d, %d; want ErrRange", b, at, size, n, err)
				}
			}
			for _, at := range []int{len(b), len(b) + 1, math.MaxInt, math.MaxInt - 1, math.MaxInt - 8} {
				if n, err := octets.Get(b, at, size); err != api.ErrShort || n != 0 {
					t.Errorf("P1.1: Get(%v, %d, %d): %d, %d; want ErrShort", b, at, size, n, err)
				}
			}
		}
	}
}

// P1.4.
func TestWhatWasPutIsGot(t *testing.T) {
	for _, n := range numbers() {
		for size := 1; size <= 8; size++ {
			b, err := octets.Put(n, size)
			if err != api.OK {
				continue
			}
			for at := range 4 {
				l := append(bytes.Repeat([]byte{0xee}, at), b...)
				l = append(l, 0xdd)
				if got, err := octets.Get(l, at, size); err != api.OK || got != n {
					t.Errorf("P1.4: Get of Put(%#x, %d) at %d: %#x, %d", n, size, at, got, err)
				}
			}
		}
	}
}
