package journal_test

import (
	"bytes"
	"testing"

	"flagstone/api"
	"flagstone/journal"
)

// padded is b, and zeros up to whole sectors.
func padded(b ...byte) []byte {
	return append(b, make([]byte, (64-len(b)%64)%64)...)
}

// P15.1: the chapter's example: 26 octets, one sector; its sum is written
// out.
func TestTheExample(t *testing.T) {
	r := journal.Record{Seq: 3}
	want := padded('f', 's', 'j', '1', 3, 0, 0, 0, 0, 0, 0, 0, 0, 0, 0, 0, 0, 0, 0, 0, 0, 0, 0x1b, 0x67, 0x6a, 0x83)
	wantEncode(t, "the example", r, want, api.OK)
	wantDecode(t, "the example", want, r, 64, api.OK)
	wantCheck(t, "the example", r, api.OK)
	wantScan(t, "the example", want, 3, []journal.Record{r}, 64)
}

// P15.1, P5: octets written out, each number with octets that differ.
func TestEncodeTellsTheseOctets(t *testing.T) {
	want := []byte{'f', 's', 'j', '1',
		5, 6, 7, 8, 9, 0, 0, 0,
		0x0b, 7, 0, 0,
		0xaa, 0xbb, 0, 0,
		3, 0,
		2, 1, 0,
		4, 3, 1}
	want = append(want, full(3)...)
	want = append(want, 5, 3, 0)
	if len(want) != 95 {
		t.Fatal("the test's own octets:", len(want))
	}
	want = sealed(want)
	wantEncode(t, "ordinary", ordinary(), want, api.OK)
	wantDecode(t, "ordinary", want, ordinary(), 128, api.OK)
	most := journal.Record{Seq: 1 << 40, Root: 2048, Room: 1 << 16, Pages: pagesOf(256, empty)}
	want = []byte{'f', 's', 'j', '1',
		0, 0, 0, 0, 0, 1, 0, 0,
		0, 8, 0, 0,
		0, 0, 1, 0,
		0, 1}
	for number := 1; number <= 256; number++ {
		want = append(want, byte(number), byte(number/256), 0)
	}
	wantEncode(t, "the most", most, sealed(want), api.OK)
}

// P15.1: each octet of each record.
func TestEncodeTellsTheOctets(t *testing.T) {
	for name, r := range recordsThatMayBe() {
		wantEncode(t, name, r, octetsOf(r), api.OK)
	}
}

// P15.1: whole sectors, and no more of them than the octets need.
func TestEncodeTellsWholeSectors(t *testing.T) {
	for count := range 257 {
		for _, data := range []func(int) []byte{empty, full, mixed} {
			r := journal.Record{Seq: 1, Pages: pagesOf(count, data)}
			size := 26
			for _, p := range r.Pages {
				size += 3 + len(p.Data)
			}
			sectors := (size + 63) / 64
			b, err := journal.Encode(r)
			if len(b) != 64*sectors || err != api.OK {
				t.Errorf("P15.1: Encode of %d pages: %d octets, %d; want %d sectors", count, len(b), err, sectors)
				continue
			}
			if !bytes.Equal(b[size:], make([]byte, len(b)-size)) {
				t.Errorf("P15.1: Encode of %d pages: % x behind the sum; want zeros", count, b[size:])
			}
		}
	}
}

// P15.2; and the octets of what is decoded are the octets.
func TestDecodeOfEncode(t *testing.T) {
	for name, r := range recordsThatMayBe() {
		b, err := journal.Encode(r)
		if err != api.OK {
			t.Errorf("P15.2: Encode, %s: %d", name, err)
		}
		wantDecode(t, "P15.2: "+name, b, r, len(b), api.OK)
	}
	for number := 1; number <= 2048; number++ {
		r := journal.Record{Seq: number<<29 - 1, Root: number, Room: 32 * number, Pages: []api.Page{{Number: number, Data: full(number)}}}
		b, _ := journal.Encode(r)
		wantDecode(t, "P15.2: each number", b, r, 128, api.OK)
	}
	for count := range 257 {
		for _, data := range []func(int) []byte{empty, full, mixed} {
			r := journal.Record{Seq: 1 + count, Pages: pagesOf(count, data)}
			b, _ := journal.Encode(r)
			wantDecode(t, "P15.2: each count", b, r, len(b), api.OK)
		}
	}
}

// P15.1: what stands behind the record is none of Decode's, whatever it is.
func TestDecodeWithMoreBehind(t *testing.T) {
	for name, r := range recordsThatMayBe() {
		b := octetsOf(r)
		for _, behind := range [][]byte{{0}, {1}, {255}, []byte("fsj1"), make([]byte, 64), bytes.Repeat([]byte{255}, 200), b, octetsOf(ordinary())[:63]} {
			wantDecode(t, name+", and more", append(bytes.Clone(b), behind...), r, len(b), api.OK)
		}
	}
}
