package octets_test

import (
	"bytes"
	"slices"
	"testing"

	"flagstone/api"
	"flagstone/octets"
)

// roomy is the list with memory behind its end, in which a call might write.
func roomy[T any](l []T, behind T) []T {
	return append(append(make([]T, 0, len(l)+8), l...), behind, behind, behind)[:len(l)]
}

// whole is a list with the memory behind its end.
func whole[T any](l []T) []T {
	return slices.Clone(l[:cap(l)])
}

// P1.6, P2: neither what is handed in nor the memory behind it is changed.
func TestArgumentsStay(t *testing.T) {
	b := roomy([]byte{3, 'a', 'b', 'c', 5, 6, 7, 8}, 0xee)
	widths := roomy([]int{1, 2, 5}, 77)
	values := roomy([]uint64{3, 258, 9}, 88)
	b0, widths0, values0 := whole(b), whole(widths), whole(values)
	octets.Get(b, 1, 4)
	octets.Get(b, 1, 8)
	octets.Pack(widths, values)
	octets.Pack(widths, values[:2])
	octets.Unpack(widths, b)
	octets.Unpack(widths, b[:7])
	octets.Unpack(widths[:2], b)
	octets.Read(b, 0)
	octets.Read(b, 4)
	if !bytes.Equal(whole(b), b0) || !slices.Equal(whole(widths), widths0) || !slices.Equal(whole(values), values0) {
		t.Errorf("P1.6: arguments changed: %v %v %v", whole(b), whole(widths), whole(values))
	}
}

// P1.6, P2: what becomes of the arguments later is not seen in answers.
func TestAnswersKeepNoArgument(t *testing.T) {
	b := []byte{3, 'a', 'b', 'c'}
	widths := []int{1, 3}
	values := []uint64{3, 0x636261}
	packed, e1 := octets.Pack(widths, values)
	numbers, e2 := octets.Unpack(widths, b)
	text, end, e3 := octets.Read(b, 0)
	clear(b)
	clear(widths)
	clear(values)
	if e1 != api.OK || string(packed) != "\x03abc" {
		t.Errorf("P1.6: Pack: % x, %d", packed, e1)
	}
	if e2 != api.OK || !slices.Equal(numbers, []uint64{3, 0x636261}) {
		t.Errorf("P1.6: Unpack: %v, %d", numbers, e2)
	}
	if e3 != api.OK || text != "abc" || end != 4 {
		t.Errorf("P1.6: Read: %q, %d, %d", text, end, e3)
	}
}

// apart spoils a whole answer, and looks whether another call of it is spoilt.
func apart[T comparable](t *testing.T, name string, call func() ([]T, api.Errno), spoil T) {
	t.Helper()
	first, err1 := call()
	want := slices.Clone(first)
	second, err2 := call()
	all := first[:cap(first)]
	for i := range all {
		all[i] = spoil
	}
	third, err3 := call()
	if err1 != api.OK || err2 != api.OK || err3 != api.OK {
		t.Fatalf("%s: errors %d, %d, %d", name, err1, err2, err3)
	}
	if !slices.Equal(second, want) || !slices.Equal(third, want) {
		t.Errorf("P1.6: %s: %v, then %v; want %v", name, second, third, want)
	}
}

// P1.6, P2, P3: an answer is new memory, and hangs on the arguments alone.
func TestAnswersAreNewMemory(t *testing.T) {
	widths, values := mixed(64)
	b, _ := octets.Pack(widths, values)
	b0, widths0, values0 := bytes.Clone(b), slices.Clone(widths), slices.Clone(values)
	for size := 1; size <= 8; size++ {
		apart(t, "Put", func() ([]byte, api.Errno) { return octets.Put(7, size) }, 0xee)
	}
	apart(t, "Pack", func() ([]byte, api.Errno) { return octets.Pack(widths, values) }, 0xee)
	apart(t, "Pack of one", func() ([]byte, api.Errno) { return octets.Pack(widths[:1], values[:1]) }, 0xee)
	apart(t, "Pack of none", func() ([]byte, api.Errno) { return octets.Pack(nil, nil) }, 0xee)
	apart(t, "Unpack", func() ([]uint64, api.Errno) { return octets.Unpack(widths, b) }, 1<<40)
	apart(t, "Unpack of none", func() ([]uint64, api.Errno) { return octets.Unpack(nil, nil) }, 1<<40)
	apart(t, "Text", func() ([]byte, api.Errno) { return octets.Text("flag") }, 0xee)
	apart(t, "Text of none", func() ([]byte, api.Errno) { return octets.Text("") }, 0xee)
	if !bytes.Equal(b, b0) || !slices.Equal(widths, widths0) || !slices.Equal(values, values0) {
		t.Error("P1.6: an answer shares memory with an argument")
	}
}
