package super_test

import (
	"bytes"
	"testing"

	"flagstone/api"
	"flagstone/super"
)

func wantNewest(t *testing.T, what string, a, b []byte, want super.Super, wantPlace int, wantErr api.Errno) {
	t.Helper()
	if s, place, err := super.Newest(a, b); s != want || place != wantPlace || err != wantErr {
		t.Errorf("P4.1: Newest, %s: %+v, %d, %d; want %+v, %d, %d", what, s, place, err, want, wantPlace, wantErr)
	}
}

// ofEpoch has a Seq that runs against the Epoch, so that it is seen which counts.
func ofEpoch(epoch int, tag int) super.Super {
	return super.Super{Epoch: epoch, Virtual: tag, Journal: 4, Pages: 8, Data: 10, Seq: 1<<40 - epoch, Root: tag}
}

// spoiltSectors has what is no superblock, each for another reason, though
// its Epoch would be the greatest.
func spoiltSectors() map[string][]byte {
	whole := sectorOf(ofEpoch(1<<40, 3))
	turned := bytes.Clone(whole)
	turned[20] ^= 1
	beyond := ofEpoch(1<<40+1, 3)
	return map[string][]byte{
		"nil":                      nil,
		"empty":                    {},
		"63 octets":                whole[:63],
		"65 octets":                append(bytes.Clone(whole), 0),
		"two sectors":              append(bytes.Clone(whole), whole...),
		"zeros":                    make([]byte, 64),
		"another octet":            turned,
		"another beginning":        with(ofEpoch(1<<40, 3), 0, 'g'),
		"no zero":                  with(ofEpoch(1<<40, 3), 50, 1),
		"an Epoch above the most":  sectorOf(beyond),
		"a journal of no sectors":  sectorOf(super.Super{Epoch: 1 << 40, Pages: 1}),
		"a root behind the pages":  sectorOf(super.Super{Epoch: 1 << 40, Journal: 1, Pages: 1, Root: 2}),
		"an Epoch of all bits set": sectorOf(super.Super{Epoch: -1, Journal: 1, Pages: 1}),
	}
}

// P4.1: both are whole: the greater Epoch counts, and of one Epoch the first.
func TestNewestOfTwo(t *testing.T) {
	epochs := []int{0, 1, 2, 127, 128, 255, 256, 1<<31 - 1, 1 << 31, 1 << 32, 1<<32 + 1, 1<<40 - 1, 1 << 40}
	for _, x := range epochs {
		for _, y := range epochs {
			first, second := ofEpoch(x, 1), ofEpoch(y, 2)
			if x >= y {
				wantNewest(t, "the first", sectorOf(first), sectorOf(second), first, 0, api.OK)
			} else {
				wantNewest(t, "the second", sectorOf(first), sectorOf(second), second, 1, api.OK)
			}
		}
	}
}

// P4.1: one of them is none: the other counts, even of Epoch 0.
func TestNewestBesideASpoiltOne(t *testing.T) {
	for name, spoilt := range spoiltSectors() {
		for _, epoch := range []int{0, 1, 1 << 40} {
			s := ofEpoch(epoch, 5)
			wantNewest(t, name+" in the first place", spoilt, sectorOf(s), s, 1, api.OK)
			wantNewest(t, name+" in the second place", sectorOf(s), spoilt, s, 0, api.OK)
		}
	}
}

// P4.1, P4: neither is one: ErrCorrupt, whatever Decode says of them, and
// nothing beside it.
func TestNewestOfNone(t *testing.T) {
	for _, a := range spoiltSectors() {
		for _, b := range spoiltSectors() {
			wantNewest(t, "none", a, b, super.Super{}, 0, api.ErrCorrupt)
		}
	}
}

// P4.1: one piece of memory in both places.
func TestNewestOfOneSectorTwice(t *testing.T) {
	b := sectorOf(ordinary())
	wantNewest(t, "one twice", b, b, ordinary(), 0, api.OK)
}
