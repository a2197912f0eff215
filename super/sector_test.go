package super_test

import (
	"bytes"
	"encoding/binary"
	"hash/crc32"
	"math"
	"testing"

	"flagstone/api"
	"flagstone/super"
)

// sealed lays, by the library's own sum, that of the first 60 octets behind
// them, so that it fits whatever they are.
func sealed(b []byte) []byte {
	b = bytes.Clone(b[:60])
	return binary.LittleEndian.AppendUint32(b, crc32.Checksum(b, crc32.MakeTable(crc32.Castagnoli)))
}

// sectorOf is the chapter's sector of s, by the library; of a number that
// does not fit its octets the lowest are laid.
func sectorOf(s super.Super) []byte {
	b := []byte("fst1")
	b = binary.LittleEndian.AppendUint64(b, uint64(s.Epoch))
	b = binary.LittleEndian.AppendUint32(b, uint32(s.Virtual))
	b = binary.LittleEndian.AppendUint32(b, uint32(s.Journal))
	b = binary.LittleEndian.AppendUint32(b, uint32(s.Pages))
	b = binary.LittleEndian.AppendUint32(b, uint32(s.Data))
	b = binary.LittleEndian.AppendUint64(b, uint64(s.Seq))
	b = binary.LittleEndian.AppendUint32(b, uint32(s.Root))
	return sealed(append(b, make([]byte, 20)...))
}

// with is the sector of s with one octet another, whose sum fits again.
func with(s super.Super, at int, octet byte) []byte {
	b := sectorOf(s)
	b[at] = octet
	return sealed(b)
}

func wantDecode(t *testing.T, what string, b []byte, want super.Super, wantErr api.Errno) {
	t.Helper()
	if s, err := super.Decode(b); s != want || err != wantErr {
		t.Errorf("%s: Decode(% x): %+v, %d; want %+v, %d", what, b, s, err, want, wantErr)
	}
}

// P4.1, P5: the octets of one superblock, written out.
func TestEncodeTellsTheseOctets(t *testing.T) {
	want := []byte{'f', 's', 't', '1',
		5, 4, 3, 2, 1, 0, 0, 0,
		7, 6, 0, 0,
		8, 3, 0, 0,
		9, 7, 0, 0,
		0xb, 0xa, 0, 0,
		0x10, 0xf, 0xe, 0xd, 0xc, 0, 0, 0,
		0x11, 5, 0, 0,
		0, 0, 0, 0, 0, 0, 0, 0, 0, 0, 0, 0, 0, 0, 0, 0, 0, 0, 0, 0,
	}
	b, err := super.Encode(ordinary())
	if err != api.OK || len(b) != api.Sector || !bytes.Equal(b[:60], want) || !bytes.Equal(b, sealed(want)) {
		t.Errorf("P4.1: Encode: % x, %d; want % x", b, err, sealed(want))
	}
}

// P4.1.
func TestEncodeTellsTheSector(t *testing.T) {
	for _, s := range mayBe() {
		if b, err := super.Encode(s); err != api.OK || !bytes.Equal(b, sectorOf(s)) {
			t.Fatalf("P4.1: Encode(%+v): % x, %d; want % x", s, b, err, sectorOf(s))
		}
	}
}

// P4.2.
func TestDecodeOfEncode(t *testing.T) {
	for _, s := range append(mayBe(), ordinary(), super.Super{Journal: 4, Pages: 8, Data: 10}) {
		b, err := super.Encode(s)
		got, err2 := super.Decode(b)
		if got != s || err != api.OK || err2 != api.OK {
			t.Fatalf("P4.2: Decode of Encode(%+v): %+v, %d, %d", s, got, err, err2)
		}
	}
}

// P4.1: what is decoded was laid by nobody but the test.
func TestDecodeReadsTheSector(t *testing.T) {
	for _, s := range append(mayBe(), ordinary()) {
		wantDecode(t, "P4.1", sectorOf(s), s, api.OK)
	}
}

// P4.1, P1: any octets but 64 are ErrShort, be there too few or too many,
// and whatever they are.
func TestDecodeWantsOneSector(t *testing.T) {
	wantDecode(t, "P4.1: nil", nil, super.Super{}, api.ErrShort)
	long := append(sectorOf(ordinary()), sectorOf(ordinary())...)
	for length := range len(long) + 1 {
		want, wantErr := super.Super{}, api.ErrShort
		if length == api.Sector {
			want, wantErr = ordinary(), api.OK
		}
		wantDecode(t, "P4.1: a piece", long[:length], want, wantErr)
		if length != api.Sector {
			wantDecode(t, "P4.1: zeros", make([]byte, length), super.Super{}, api.ErrShort)
			wantDecode(t, "P4.1: full octets", bytes.Repeat([]byte{255}, length), super.Super{}, api.ErrShort)
		}
	}
}

// P4.1: each octet, the sum's too, made each other one.
func TestDecodeTellsAnotherOctet(t *testing.T) {
	for _, s := range []super.Super{ordinary(), {Journal: 1, Pages: 1}} {
		b := sectorOf(s)
		for at := range b {
			for change := 1; change < 256; change++ {
				spoilt := bytes.Clone(b)
				spoilt[at] ^= byte(change)
				wantDecode(t, "P4.1: another octet", spoilt, super.Super{}, api.ErrCorrupt)
			}
		}
	}
	wantDecode(t, "P4.1: zeros", make([]byte, 64), super.Super{}, api.ErrCorrupt)
	wantDecode(t, "P4.1: full octets", bytes.Repeat([]byte{255}, 64), super.Super{}, api.ErrCorrupt)
}

// P4.1: the sum fits, but it begins otherwise.
func TestDecodeWantsItsBeginning(t *testing.T) {
	for _, begin := range []string{"\x00\x00\x00\x00", "fst2", "fst0", "Fst1", "FST1", "1tsf", "fst\x00", "\x00st1", "fst ", "ffst", "st1f"} {
		b := sectorOf(ordinary())
		copy(b, begin)
		wantDecode(t, "P4.1: begins "+begin, sealed(b), super.Super{}, api.ErrCorrupt)
	}
	for at := range 4 {
		for change := 1; change < 256; change++ {
			wantDecode(t, "P4.1: begins otherwise", with(ordinary(), at, sectorOf(ordinary())[at]^byte(change)), super.Super{}, api.ErrCorrupt)
		}
	}
	wantDecode(t, "P4.1: zeros whose sum fits", sealed(make([]byte, 60)), super.Super{}, api.ErrCorrupt)
}

// P4.1: the sum fits, but one of the zeros is none; or several are.
func TestDecodeWantsItsZeros(t *testing.T) {
	for at := 40; at < 60; at++ {
		for octet := 1; octet < 256; octet++ {
			wantDecode(t, "P4.1: no zero", with(ordinary(), at, byte(octet)), super.Super{}, api.ErrCorrupt)
		}
	}
	b := sectorOf(ordinary())
	b[40], b[59] = 255, 1
	wantDecode(t, "P4.1: no zeros", sealed(b), super.Super{}, api.ErrCorrupt)
}

// P4.1: the sum fits, but the superblock may not be.
func TestDecodeRefusesWhatMayNotBe(t *testing.T) {
	for _, base := range []super.Super{ordinary(), {Journal: 1, Pages: 1}} {
		for _, f := range append(fields(), rootField(base.Pages)) {
			for _, n := range []uint64{uint64(f.least) - 1, uint64(f.most) + 1, uint64(f.most) + 256, 1<<32 - 1, 1 << 31, 1<<31 + uint64(f.least),
				1<<40 + 1, 1<<48 + uint64(f.least), 1 << 63, 1<<63 + uint64(f.least), 1<<63 + uint64(f.most), math.MaxUint64, math.MaxInt64} {
				if f.size == 4 && n > math.MaxUint32 || f.size == 8 && n <= uint64(f.most) {
					continue
				}
				b := sectorOf(base)
				copy(b[f.at:], binary.LittleEndian.AppendUint64(nil, n)[:f.size])
				wantDecode(t, "P4.1: "+f.name, sealed(b), super.Super{}, api.ErrRange)
			}
		}
	}
}

// P4.1, P4: of a sector that has several faults the first one named counts.
func TestDecodeOrdersItsErrors(t *testing.T) {
	bad := super.Super{Epoch: -1}
	wantDecode(t, "P4.1: may not be", sectorOf(bad), super.Super{}, api.ErrRange)
	wantDecode(t, "P4.1: begins otherwise, may not be", with(bad, 3, '2'), super.Super{}, api.ErrCorrupt)
	wantDecode(t, "P4.1: no zero, may not be", with(bad, 59, 1), super.Super{}, api.ErrCorrupt)
	b := sectorOf(bad)
	b[63] ^= 1
	wantDecode(t, "P4.1: a wrong sum, may not be", b, super.Super{}, api.ErrCorrupt)
	wantDecode(t, "P4.1: a wrong sum, one octet too many", append(b, 0), super.Super{}, api.ErrShort)
	wantDecode(t, "P4.1: may not be, one octet too few", sectorOf(bad)[:63], super.Super{}, api.ErrShort)
}
