package octets_test

import (
	"bytes"
	"math"
	"strings"
	"testing"

	"flagstone/api"
	"flagstone/octets"
)

func texts() []string {
	return []string{"", "a", "ab", "\x00", "\x00\xff\x00", "\xff\xfe", "äß→", strings.Repeat("x", 127), strings.Repeat("y", 128), strings.Repeat("z", 254), strings.Repeat("\xff", 255)}
}

// P1.3.
func TestTextTellsHowManyAndThey(t *testing.T) {
	for _, s := range texts() {
		want := append([]byte{byte(len(s))}, s...)
		if b, err := octets.Text(s); err != api.OK || !bytes.Equal(b, want) {
			t.Errorf("P1.3: Text(%q): % x, %d; want % x", s, b, err, want)
		}
	}
}

// P1.3: octets count, not runes.
func TestTextRefusesLongOnes(t *testing.T) {
	for _, s := range []string{strings.Repeat("x", 256), strings.Repeat("x", 257), strings.Repeat("ä", 128), strings.Repeat("x", 512), strings.Repeat("x", 1<<16+1)} {
		if b, err := octets.Text(s); err != api.ErrLong || len(b) != 0 {
			t.Errorf("P1.3: Text of %d octets: % x, %d; want ErrLong", len(s), b, err)
		}
	}
}

// P1.3, P1.4.
func TestReadOfTextIsTheText(t *testing.T) {
	for _, s := range texts() {
		b, _ := octets.Text(s)
		for at := range 3 {
			for left := range 3 {
				l := append(bytes.Repeat([]byte{0xee}, at), b...)
				l = append(l, bytes.Repeat([]byte{0xdd}, left)...)
				got, end, err := octets.Read(l, at)
				if got != s || end != at+1+len(s) || err != api.OK {
					t.Errorf("P1.3: Read of Text(%q) at %d: %q, %d, %d", s, at, got, end, err)
				}
			}
		}
	}
}

// P1.3: where one ends, the next begins.
func TestReadGoesOnWhereItEnded(t *testing.T) {
	var b []byte
	for _, s := range texts() {
		one, _ := octets.Text(s)
		b = append(b, one...)
	}
	at := 0
	for _, s := range texts() {
		got, end, err := octets.Read(b, at)
		if got != s || err != api.OK {
			t.Fatalf("P1.3: Read at %d: %q, %d, %d; want %q", at, got, end, err, s)
		}
		at = end
	}
	if at != len(b) {
		t.Errorf("P1.3: the last ends at %d; want %d", at, len(b))
	}
}

// P1.3, P1, P4.
func TestReadRefuses(t *testing.T) {
	cases := []struct {
		why  string
		b    []byte
		at   int
		want api.Errno
	}{
		{"below 0", []byte{0}, -1, api.ErrRange},
		{"far below 0", []byte{0}, math.MinInt, api.ErrRange},
		{"below 0, and no octets", nil, -1, api.ErrRange},
		{"no octets", nil, 0, api.ErrShort},
		{"no octets, an empty list", []byte{}, 0, api.ErrShort},
		{"at the end", []byte{0}, 1, api.ErrShort},
		{"behind the end", []byte{0}, 2, api.ErrShort},
		{"the greatest place", []byte{0}, math.MaxInt, api.ErrShort},
		{"the greatest place, no octets", nil, math.MaxInt, api.ErrShort},
		{"one octet short", []byte{2, 'a'}, 0, api.ErrShort},
		{"one octet short, further on", []byte{0, 0, 3, 'a', 'b'}, 2, api.ErrShort},
		{"only how many", []byte{1}, 0, api.ErrShort},
		{"255, and 254 are there", append([]byte{255}, make([]byte, 254)...), 0, api.ErrShort},
		{"octets in the memory behind", []byte{2, 'a', 'b'}[:2], 0, api.ErrShort},
	}
	for _, c := range cases {
		if s, end, err := octets.Read(c.b, c.at); err != c.want || s != "" || end != 0 {
			t.Errorf("P1.3: Read: %s: %q, %d, %d; want error %d", c.why, s, end, err, c.want)
		}
	}
}
