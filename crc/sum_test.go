package crc_test

import (
	"bytes"
	"hash/crc32"
	"math"
	"testing"

	"flagstone/crc"
)

// sumBitByBit is the chapter's rule as it stands, from a register on.
func sumBitByBit(register uint32, b []byte) uint32 {
	for _, octet := range b {
		register ^= uint32(octet)
		for range 8 {
			fallen := register & 1
			register >>= 1
			if fallen == 1 {
				register ^= 0x82f63b78
			}
		}
	}
	return ^register
}

// mixed is so many octets, of all values, that do not repeat soon.
func mixed(count int, seed uint32) []byte {
	b := make([]byte, count)
	state := seed*2654435761 + 12345
	for i := range b {
		state = state*1664525 + 1013904223
		b[i] = byte(state >> 24)
	}
	return b
}

func counted(from, step byte, count int) []byte {
	b := make([]byte, count)
	for i := range b {
		b[i] = from + step*byte(i)
	}
	return b
}

// P2.1: the chapter's example, and sums that others have told.
func TestSumsThatAreKnown(t *testing.T) {
	for _, c := range []struct {
		b    []byte
		want uint32
	}{
		{nil, 0},
		{[]byte{}, 0},
		{[]byte("123456789"), 0xe3069283},
		{[]byte("a"), 0xc1d04330},
		{[]byte{0}, 0x527d5351},
		{bytes.Repeat([]byte{255}, 4), 0xffffffff},
		{make([]byte, 32), 0x8a9136aa},
		{bytes.Repeat([]byte{255}, 32), 0x62a8ab43},
		{counted(0, 1, 32), 0x46dd794e},
		{counted(31, 255, 32), 0x113fdb5c},
	} {
		if got := crc.Sum(c.b); got != c.want {
			t.Errorf("P2.1: Sum(% x): %08x; want %08x", c.b, got, c.want)
		}
	}
}

// P2.1.
func TestSumOfEachOctet(t *testing.T) {
	for octet := range 256 {
		b := []byte{byte(octet)}
		if got, want := crc.Sum(b), sumBitByBit(math.MaxUint32, b); got != want {
			t.Errorf("P2.1: Sum(%02x): %08x; want %08x", b, got, want)
		}
	}
}

// P2.1: lengths up to more than four sectors, and a great one.
func TestSumOfEachLength(t *testing.T) {
	table := crc32.MakeTable(crc32.Castagnoli)
	for _, length := range append(lengths(300), 1<<16, 1<<20+1) {
		b := mixed(length, uint32(length))
		got := crc.Sum(b)
		if want := sumBitByBit(math.MaxUint32, b); got != want {
			t.Errorf("P2.1: Sum of %d octets: %08x; want %08x", length, got, want)
		}
		if want := crc32.Checksum(b, table); got != want {
			t.Errorf("P2.1: Sum of %d octets: %08x; the library says %08x", length, got, want)
		}
	}
}

func lengths(upTo int) []int {
	var l []int
	for length := range upTo + 1 {
		l = append(l, length)
	}
	return l
}

func someSums() []uint32 {
	l := []uint32{0, math.MaxUint32, 0x82f63b78, ^uint32(0x82f63b78), 0xe3069283, 0x01020304}
	for bit := range 32 {
		l = append(l, 1<<bit, ^uint32(1<<bit))
	}
	return l
}

// P2.1: More over no octets is what it went on from.
func TestMoreOverNothing(t *testing.T) {
	for _, c := range someSums() {
		for _, b := range [][]byte{nil, {}} {
			if got := crc.More(c, b); got != c {
				t.Errorf("P2.1: More(%08x, %v): %08x", c, b, got)
			}
		}
	}
}

// P2.1: from 0 (no octets), from all bits set (four octets ff), and from others.
func TestMoreFromASum(t *testing.T) {
	for _, length := range []int{1, 2, 3, 4, 5, 63, 64, 65} {
		b := mixed(length, 7)
		for _, c := range someSums() {
			if got, want := crc.More(c, b), sumBitByBit(^c, b); got != want {
				t.Errorf("P2.1: More(%08x, % x): %08x; want %08x", c, b, got, want)
			}
		}
		if got, want := crc.More(0, b), crc.Sum(b); got != want {
			t.Errorf("P2.1: More(0, % x): %08x; want %08x", b, got, want)
		}
		behind := append(bytes.Repeat([]byte{255}, 4), b...)
		if got, want := crc.More(math.MaxUint32, b), crc.Sum(behind); got != want {
			t.Errorf("P2.1: More(all set, % x): %08x; want %08x", b, got, want)
		}
	}
}

// P2.2: wherever octets are cut, in two, in three, or into each octet alone.
func TestSumGoesOn(t *testing.T) {
	b := mixed(70, 3)
	want := crc.Sum(b)
	for cut := range len(b) + 1 {
		if got := crc.More(crc.Sum(b[:cut]), b[cut:]); got != want {
			t.Errorf("P2.2: cut at %d: %08x; want %08x", cut, got, want)
		}
		for second := cut; second <= len(b); second++ {
			got := crc.More(crc.More(crc.Sum(b[:cut]), b[cut:second]), b[second:])
			if got != want {
				t.Errorf("P2.2: cut at %d and %d: %08x; want %08x", cut, second, got, want)
			}
		}
	}
	var c uint32
	for i := range b {
		c = crc.More(c, b[i:i+1])
		if sum := crc.Sum(b[:i+1]); c != sum {
			t.Errorf("P2.2: octet by octet, behind %d: %08x; want %08x", i, c, sum)
		}
	}
}

func exclusiveOr(lists ...[]byte) []byte {
	out := make([]byte, len(lists[0]))
	for _, l := range lists {
		for i := range out {
			out[i] ^= l[i]
		}
	}
	return out
}

// P2.5.
func TestSumsAreLinear(t *testing.T) {
	for length := range 130 {
		ones := bytes.Repeat([]byte{255}, length)
		texts := [][]byte{make([]byte, length), ones, mixed(length, 1), mixed(length, 2), mixed(length, 3)}
		for _, x := range texts {
			for _, y := range texts {
				for _, z := range texts {
					got := crc.Sum(exclusiveOr(x, y, z))
					if want := crc.Sum(x) ^ crc.Sum(y) ^ crc.Sum(z); got != want {
						t.Fatalf("P2.5: % x, % x, % x: %08x; want %08x", x, y, z, got, want)
					}
				}
			}
		}
	}
}
