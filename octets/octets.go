// Package octets is layer 1: see shared/doc/01-octets.md.
package octets

import "flagstone/api"

const (
	maxSize   = 8
	maxWidths = 64
	maxText   = 255
)

// Put lays n in so many octets, the lowest first.
func Put(n uint64, size int) ([]byte, api.Errno) {
	if !isSize(size) {
		return nil, api.ErrArg
	}
	if n>>(8*uint(size)) != 0 {
		return nil, api.ErrRange
	}
	out := make([]byte, size)
	for i := range out {
		out[i] = byte(n >> (8 * uint(i)))
	}
	return out, api.OK
}

// Get is the number of so many octets that stands in b from at on.
func Get(b []byte, at int, size int) (uint64, api.Errno) {
	if !isSize(size) {
		return 0, api.ErrArg
	}
	if at < 0 {
		return 0, api.ErrRange
	}
	next := reader(b, at)
	n, ok := next(size)
	if !ok {
		return 0, api.ErrShort
	}
	return n, api.OK
}

// Pack lays all values, each in octets of its width, one behind the other.
func Pack(widths []int, values []uint64) ([]byte, api.Errno) {
	if len(widths) != len(values) || len(widths) > maxWidths {
		return nil, api.ErrCount
	}
	var out []byte
	for i, width := range widths {
		b, err := Put(values[i], width)
		if err != api.OK {
			return nil, err
		}
		out = append(out, b...)
	}
	return out, api.OK
}

// Unpack is the numbers of these widths that b is made of.
func Unpack(widths []int, b []byte) ([]uint64, api.Errno) {
	if len(widths) > maxWidths {
		return nil, api.ErrCount
	}
	// A wrong width counts ahead of octets that end, even where they end first.
	total := 0
	for _, width := range widths {
		if !isSize(width) {
			return nil, api.ErrArg
		}
		total += width
	}
	next := reader(b, 0)
	out := make([]uint64, 0, len(widths))
	for _, width := range widths {
		n, ok := next(width)
		if !ok {
			return nil, api.ErrShort
		}
		out = append(out, n)
	}
	if len(b) > total {
		return nil, api.ErrTail
	}
	return out, api.OK
}

// Text is how many octets s has, in one octet, and they.
func Text(s string) ([]byte, api.Errno) {
	if len(s) > maxText {
		return nil, api.ErrLong
	}
	out := make([]byte, 0, 1+len(s))
	out = append(out, byte(len(s)))
	return append(out, s...), api.OK
}

// Read is the text that stands in b from at on, and where it ends.
func Read(b []byte, at int) (string, int, api.Errno) {
	if at < 0 {
		return "", 0, api.ErrRange
	}
	next := reader(b, at)
	count, ok := next(1)
	if !ok {
		return "", 0, api.ErrShort
	}
	from := at + 1
	if int(count) > len(b)-from {
		return "", 0, api.ErrShort
	}
	end := from + int(count)
	return string(b[from:end]), end, api.OK
}

func isSize(size int) bool {
	return size >= 1 && size <= maxSize
}

// reader hands out the numbers that stand in b from at on, one a call. It
// keeps the place itself, so that all that reads has one bound to keep; at is
// not below 0, and size is from 1 to 8. A number that b is too short for is
// none, and the place stays.
func reader(b []byte, at int) func(size int) (uint64, bool) {
	return func(size int) (uint64, bool) {
		// Subtracted, not added: at may be as great as an int can be.
		if at > len(b)-size {
			return 0, false
		}
		var n uint64
		for i := size - 1; i >= 0; i-- {
			n = n<<8 | uint64(b[at+i])
		}
		at += size
		return n, true
	}
}
