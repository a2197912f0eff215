package octets_test

import (
	"bytes"
	"math"
	"slices"
	"testing"

	"flagstone/api"
	"flagstone/octets"
)

func ones(n int) []int {
	return slices.Repeat([]int{1}, n)
}

// P1.2, P5.
func TestPackLaysOneBehindTheOther(t *testing.T) {
	cases := []struct {
		widths []int
		values []uint64
		want   []byte
	}{
		{nil, nil, nil},
		{[]int{}, nil, nil},
		{nil, []uint64{}, nil},
		{[]int{1}, []uint64{7}, []byte{7}},
		{[]int{1, 2}, []uint64{7, 258}, []byte{7, 2, 1}},
		{[]int{2, 1}, []uint64{258, 7}, []byte{2, 1, 7}},
		{[]int{8, 3, 1}, []uint64{math.MaxUint64, 0, 255}, []byte{255, 255, 255, 255, 255, 255, 255, 255, 0, 0, 0, 255}},
	}
	for _, c := range cases {
		if b, err := octets.Pack(c.widths, c.values); err != api.OK || !bytes.Equal(b, c.want) {
			t.Errorf("P1.2: Pack(%v, %v): % x, %d; want % x", c.widths, c.values, b, err, c.want)
		}
		if l, err := octets.Unpack(c.widths, c.want); err != api.OK || !slices.Equal(l, c.values) {
			t.Errorf("P1.2: Unpack(%v, % x): %v, %d; want %v", c.widths, c.want, l, err, c.values)
		}
	}
}

// P1.2, P4.
func TestPackRefuses(t *testing.T) {
	cases := []struct {
		why    string
		widths []int
		values []uint64
		want   api.Errno
	}{
		{"a value is missing", []int{1, 1}, []uint64{1}, api.ErrCount},
		{"a width is missing", []int{1}, []uint64{1, 1}, api.ErrCount},
		{"no widths", nil, []uint64{1}, api.ErrCount},
		{"no values", []int{1}, nil, api.ErrCount},
		{"the count is ahead of a wrong width", []int{0}, nil, api.ErrCount},
		{"the count is ahead of a wrong value", []int{1}, []uint64{256, 0}, api.ErrCount},
		{"65 of both", ones(65), make([]uint64, 65), api.ErrCount},
		{"65 of both, wrong ones", make([]int, 65), make([]uint64, 65), api.ErrCount},
		{"64 and 65", ones(64), make([]uint64, 65), api.ErrCount},
		{"a width of 0", []int{1, 0}, []uint64{1, 0}, api.ErrArg},
		{"a width of 9", []int{1, 9}, []uint64{1, 0}, api.ErrArg},
		{"a width below 0", []int{-1}, []uint64{0}, api.ErrArg},
		{"the least width", []int{math.MinInt}, []uint64{0}, api.ErrArg},
		{"the greatest width", []int{math.MaxInt}, []uint64{0}, api.ErrArg},
		{"a value that does not fit", []int{1, 1}, []uint64{255, 256}, api.ErrRange},
		{"one by one: the value first", []int{1, 9}, []uint64{256, 0}, api.ErrRange},
		{"one by one: the width first", []int{9, 1}, []uint64{0, 256}, api.ErrArg},
		{"both of one: its width first", []int{0}, []uint64{256}, api.ErrArg},
	}
	for _, c := range cases {
		if b, err := octets.Pack(c.widths, c.values); err != c.want || len(b) != 0 {
			t.Errorf("P1.2: Pack: %s: % x, %d; want error %d", c.why, b, err, c.want)
		}
	}
}

// P1.2, P4.
func TestUnpackRefuses(t *testing.T) {
	cases := []struct {
		why    string
		widths []int
		b      []byte
		want   api.Errno
	}{
		{"65 widths", ones(65), make([]byte, 65), api.ErrCount},
		{"65 wrong widths", make([]int, 65), nil, api.ErrCount},
		{"a width of 0", []int{0}, nil, api.ErrArg},
		{"a width of 9", []int{9}, make([]byte, 9), api.ErrArg},
		{"a width below 0", []int{-1}, []byte{1}, api.ErrArg},
		{"the least width", []int{math.MinInt}, []byte{1}, api.ErrArg},
		{"the greatest width", []int{math.MaxInt}, []byte{1}, api.ErrArg},
		{"widths that would go round", []int{math.MaxInt, math.MaxInt, 2}, nil, api.ErrArg},
		{"a width behind where the octets end", []int{2, 9}, []byte{1}, api.ErrArg},
		{"a width, and something left", []int{1, 0}, []byte{1, 2, 3}, api.ErrArg},
		{"no octets", []int{1}, nil, api.ErrShort},
		{"one octet short", []int{2}, []byte{1}, api.ErrShort},
		{"one octet short at the last", []int{1, 8}, make([]byte, 8), api.ErrShort},
		{"octets in the memory behind", []int{1, 2}, []byte{1, 2, 3}[:2], api.ErrShort},
		{"one octet left", []int{1, 8}, make([]byte, 10), api.ErrTail},
		{"all left", nil, []byte{0}, api.ErrTail},
		{"64 widths, one left", ones(64), make([]byte, 65), api.ErrTail},
		{"64 widths, one short", ones(64), make([]byte, 63), api.ErrShort},
	}
	for _, c := range cases {
		if l, err := octets.Unpack(c.widths, c.b); err != c.want || len(l) != 0 {
			t.Errorf("P1.2: Unpack: %s: %v, %d; want error %d", c.why, l, err, c.want)
		}
	}
}

// mixed is 64 widths of all sizes, and values that fill them.
func mixed(count int) ([]int, []uint64) {
	var widths []int
	var values []uint64
	n := uint64(0x9e3779b97f4a7c15)
	for i := range count {
		width := i%8 + 1
		n = n*6364136223846793005 + 1442695040888963407
		widths = append(widths, width)
		values = append(values, n>>(64-8*width))
	}
	return widths, values
}

// P1.2, P1.5.
func TestUnpackOfPackIsTheNumbers(t *testing.T) {
	for _, count := range []int{0, 1, 2, 8, 9, 63, 64} {
		widths, values := mixed(count)
		b, err := octets.Pack(widths, values)
		if err != api.OK {
			t.Fatalf("P1.2: Pack of %d: %d", count, err)
		}
		if l, err := octets.Unpack(widths, b); err != api.OK || !slices.Equal(l, values) {
			t.Errorf("P1.5: Unpack of Pack of %d: %v, %d; want %v", count, l, err, values)
		}
	}
}

// P1.5.
func TestPackOfUnpackIsTheOctets(t *testing.T) {
	for _, count := range []int{0, 1, 2, 8, 9, 63, 64} {
		widths, _ := mixed(count)
		total := 0
		for _, w := range widths {
			total += w
		}
		b := make([]byte, total)
		for i := range b {
			b[i] = byte(i*151 + 200)
		}
		l, err := octets.Unpack(widths, b)
		if err != api.OK || len(l) != count {
			t.Fatalf("P1.2: Unpack of %d: %v, %d", count, l, err)
		}
		if back, err := octets.Pack(widths, l); err != api.OK || !bytes.Equal(back, b) {
			t.Errorf("P1.5: Pack of Unpack of %d: % x, %d; want % x", count, back, err, b)
		}
	}
}
