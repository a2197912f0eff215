package super_test

import (
	"bytes"
	"testing"

	"flagstone/api"
	"flagstone/super"
)

// roomy has memory behind its end, in which a call might write.
func roomy(b []byte) []byte {
	out := append(make([]byte, 0, len(b)+8), b...)
	return append(out, 0xe1, 0xe2, 0xe3, 0xe4)[:len(b)]
}

// whole is b with the memory behind its end.
func whole(b []byte) []byte {
	return b[:cap(b)]
}

// P4.3, P2: neither what is handed in nor the memory behind it is changed,
// be it taken or refused.
func TestArgumentsStay(t *testing.T) {
	lists := [][]byte{sectorOf(ordinary()), sectorOf(ofEpoch(3, 1)), sectorOf(super.Super{}), make([]byte, 64), sectorOf(ordinary())[:63], {}}
	for _, x := range lists {
		for _, y := range lists {
			a, b := roomy(x), roomy(y)
			a0, b0 := bytes.Clone(whole(a)), bytes.Clone(whole(b))
			super.Decode(a)
			super.Newest(a, b)
			if !bytes.Equal(whole(a), a0) || !bytes.Equal(whole(b), b0) {
				t.Errorf("P4.3: an argument changed: % x, % x", whole(a), whole(b))
			}
		}
	}
}

// P4.3, P2: what becomes of the octets later is not seen in a superblock.
func TestAnswersKeepNoArgument(t *testing.T) {
	a, b := sectorOf(ofEpoch(3, 1)), sectorOf(ofEpoch(4, 2))
	one, err1 := super.Decode(a)
	newest, place, err2 := super.Newest(a, b)
	clear(a)
	clear(b)
	if one != ofEpoch(3, 1) || err1 != api.OK {
		t.Errorf("P4.3: Decode: %+v, %d", one, err1)
	}
	if newest != ofEpoch(4, 2) || place != 1 || err2 != api.OK {
		t.Errorf("P4.3: Newest: %+v, %d, %d", newest, place, err2)
	}
}

// P4.3, P2, P3: each sector is new memory, and hangs on the superblock alone.
func TestSectorsAreNewMemory(t *testing.T) {
	want := sectorOf(ordinary())
	first, err1 := super.Encode(ordinary())
	second, err2 := super.Encode(ordinary())
	for i := range whole(first) {
		whole(first)[i] ^= 0x55
	}
	super.Encode(ofEpoch(3, 1))
	third, err3 := super.Encode(ordinary())
	if err1 != api.OK || err2 != api.OK || err3 != api.OK || !bytes.Equal(second, want) || !bytes.Equal(third, want) {
		t.Errorf("P4.3: Encode: % x, then % x; want % x", second, third, want)
	}
}

// P3: what was refused or decoded ahead is not seen in an answer.
func TestCallsKeepNothing(t *testing.T) {
	for range 3 {
		wantNewest(t, "two", sectorOf(ofEpoch(9, 1)), sectorOf(ofEpoch(4, 2)), ofEpoch(9, 1), 0, api.OK)
		wantNewest(t, "none", nil, nil, super.Super{}, 0, api.ErrCorrupt)
		wantDecode(t, "P3", sectorOf(ordinary()), ordinary(), api.OK)
		wantDecode(t, "P3", nil, super.Super{}, api.ErrShort)
	}
}
