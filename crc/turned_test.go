package crc_test

import (
	"bytes"
	"math/bits"
	"testing"

	"flagstone/api"
	"flagstone/crc"
)

// turn turns the bits of the pattern, the lowest at the place from; bits are
// counted from the lowest of each octet on.
func turn(b []byte, from int, pattern uint32) []byte {
	out := bytes.Clone(b)
	for bit := range 32 {
		if pattern>>bit&1 == 1 {
			place := from + bit
			out[place/8] ^= 1 << (place % 8)
		}
	}
	return out
}

// rows are bits in a row of which at least the first and the last are turned:
// of each length all of them, the ends alone, every second, and some others.
func rows() []uint32 {
	var l []uint32
	state := uint32(1)
	for length := 1; length <= 32; length++ {
		ends := uint32(1) | 1<<(length-1)
		all := ^uint32(0) >> (32 - length)
		l = append(l, ends, all, ends|all&0x55555555)
		for range 4 {
			state = state*1664525 + 1013904223
			l = append(l, ends|all&(state^state>>16))
		}
	}
	return l
}

// P2.4: at every place, so at the first bit, at the last, and over the border
// between the octets and their sum.
func TestTurnedBitsAreTold(t *testing.T) {
	for _, length := range []int{0, 1, 3, 4, 5, 60, 64} {
		for _, b := range [][]byte{make([]byte, length), mixed(length, 21)} {
			sealed := crc.Seal(b)
			for _, row := range rows() {
				last := 8*len(sealed) - bits.Len32(row)
				for from := range last + 1 {
					got, err := crc.Open(turn(sealed, from, row))
					if err != api.ErrCorrupt || len(got) != 0 {
						t.Fatalf("P2.4: % x, %x turned at bit %d: % x, %d; want ErrCorrupt", sealed, row, from, got, err)
					}
				}
			}
		}
	}
}

// P2.4: a row that is turned is told by its sum; turned back, it is as before.
func TestTurnedBackIsOpened(t *testing.T) {
	b := mixed(60, 4)
	sealed := crc.Seal(b)
	border := 8 * len(b)
	for _, from := range []int{0, border - 16, border - 1, border} {
		turned := turn(sealed, from, 1<<31|1)
		if _, err := crc.Open(turned); err != api.ErrCorrupt {
			t.Errorf("P2.4: turned at bit %d: %d; want ErrCorrupt", from, err)
		}
		wantOpen(t, "P2.4", turn(turned, from, 1<<31|1), b, api.OK)
	}
}

// P2.1: 33 bits in a row are the least that may go untold. The polynomial, with
// the bit that fell out ahead of it, leaves the sum of what it is laid over as
// it is; so the rows above are as long as rows that must be told can be.
func TestThePolynomialItselfIsNotTold(t *testing.T) {
	sealed := crc.Seal(mixed(20, 8))
	polynomial := uint32(0x82f63b78)
	for from := range 8*len(sealed) - 32 {
		turned := turn(turn(sealed, from, 1), from+1, polynomial)
		if _, err := crc.Open(turned); err != api.OK {
			t.Errorf("P2.1: the polynomial turned at bit %d: %d; want OK", from, err)
		}
	}
}
