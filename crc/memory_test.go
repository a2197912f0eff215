package crc_test

import (
	"bytes"
	"testing"

	"flagstone/api"
	"flagstone/crc"
)

// roomy is b with memory behind its end, in which a call might write.
func roomy(b []byte) []byte {
	return append(append(make([]byte, 0, len(b)+8), b...), 0xe1, 0xe2, 0xe3, 0xe4, 0xe5)[:len(b)]
}

// P2.6, P2: neither what is handed in nor the memory behind it is changed.
func TestArgumentsStay(t *testing.T) {
	sealed := crc.Seal([]byte("123456789"))
	for _, b := range [][]byte{nil, {}, {1}, {1, 2, 3}, make([]byte, 4), []byte("123456789"), sealed, sealed[:12]} {
		b = roomy(b)
		before := bytes.Clone(b[:cap(b)])
		crc.Sum(b)
		crc.More(77, b)
		crc.Seal(b)
		crc.Open(b)
		if !bytes.Equal(b[:cap(b)], before) {
			t.Errorf("P2.6: changed: % x; was % x", b[:cap(b)], before)
		}
	}
}

// P2.6, P2: an answer of the whole memory that it has shares none with the
// argument, nor with another answer.
func TestAnswersAreNewMemory(t *testing.T) {
	sealed := crc.Seal([]byte("123456789"))
	calls := []struct {
		name string
		call func(b []byte) []byte
	}{
		{"Seal", crc.Seal},
		{"Open", func(b []byte) []byte {
			out, _ := crc.Open(b)
			return out
		}},
	}
	for _, b := range [][]byte{{}, {1, 2, 3}, make([]byte, 4), sealed} {
		for _, c := range calls {
			given := roomy(b)
			whole := bytes.Clone(given[:cap(given)])
			first, second := c.call(given), c.call(given)
			want := bytes.Clone(second)
			first = first[:cap(first)]
			for i := range first {
				first[i] ^= 0x55
			}
			if !bytes.Equal(given[:cap(given)], whole) {
				t.Errorf("P2.6: %s(% x) shares memory with its argument", c.name, b)
			}
			if third := c.call(given); !bytes.Equal(second, want) || !bytes.Equal(third, want) {
				t.Errorf("P2.6: %s(% x): % x, then % x; want % x", c.name, b, second, third, want)
			}
		}
	}
}

// P2.6, P2: what becomes of the argument later is not seen in answers.
func TestAnswersKeepNoArgument(t *testing.T) {
	b := []byte("123456789")
	sealed := crc.Seal(b)
	clear(b)
	if string(sealed) != "123456789\x83\x92\x06\xe3" {
		t.Errorf("P2.6: Seal: % x", sealed)
	}
	opened, err := crc.Open(sealed)
	clear(sealed)
	if err != api.OK || string(opened) != "123456789" {
		t.Errorf("P2.6: Open: %q, %d", opened, err)
	}
}

// P3: a sum hangs on its arguments alone, not on the calls ahead of it.
func TestSumsKeepNothing(t *testing.T) {
	b := mixed(64, 6)
	sum, more := crc.Sum(b), crc.More(5, b)
	crc.More(0xffffffff, []byte("other"))
	crc.Open(b)
	if again := crc.Sum(b); again != sum {
		t.Errorf("P3: Sum: %08x, then %08x", sum, again)
	}
	if again := crc.More(5, b); again != more {
		t.Errorf("P3: More: %08x, then %08x", more, again)
	}
}
