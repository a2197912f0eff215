package journal_test

import (
	"bytes"
	"math/rand"
	"testing"

	"flagstone/api"
	"flagstone/journal"
)

// anyRecord may be, mostly; its pages are few, mostly.
func anyRecord(r *rand.Rand, seq int) journal.Record {
	one := journal.Record{Seq: seq, Root: r.Intn(2049), Room: r.Intn(1<<16 + 1)}
	count := r.Intn(5)
	if r.Intn(20) == 0 {
		count = 250 + r.Intn(8)
	}
	number := 0
	for range count {
		number += 1 + r.Intn(8)
		var data []byte
		if r.Intn(2) == 0 {
			data = make([]byte, 64)
			r.Read(data)
		}
		one.Pages = append(one.Pages, api.Page{Number: number, Data: data})
	}
	return one
}

// spoilt has some of what may become of a record's octets.
func spoilt(r *rand.Rand, from journal.Record) []byte {
	body := bodyOf(from)
	if r.Intn(3) == 0 {
		// Another octet, or one more or less, of which there is the sum.
		at := r.Intn(len(body))
		switch r.Intn(3) {
		case 0:
			body[at] = byte(r.Intn(3))
		case 1:
			body = append(body[:at:at], append([]byte{byte(r.Intn(3))}, body[at:]...)...)
		default:
			body = append(body[:at:at], body[at+1:]...)
		}
	}
	b := sealed(body)
	for r.Intn(2) == 0 {
		b[r.Intn(len(b))] ^= byte(1 << r.Intn(8))
	}
	if r.Intn(3) == 0 {
		b = b[:r.Intn(len(b)+1)]
	}
	return b
}

// P15.1: octets of many kinds, held against the chapter's words done the
// plain way.
func TestDecodeOfManyOctets(t *testing.T) {
	r := rand.New(rand.NewSource(15))
	told := map[api.Errno]int{}
	for range 60000 {
		b := spoilt(r, anyRecord(r, 1+r.Intn(9)))
		told[wantTold(t, "many octets", b)]++
		if t.Failed() {
			t.FailNow()
		}
	}
	for _, err := range []api.Errno{api.OK, api.ErrShort, api.ErrCorrupt} {
		if told[err] < 1000 {
			t.Errorf("the test's own octets are too few of %d: %d", err, told[err])
		}
	}
}

// P15.1, P1: octets that were never a record's.
func TestDecodeOfAnyOctets(t *testing.T) {
	r := rand.New(rand.NewSource(16))
	for range 60000 {
		b := make([]byte, r.Intn(400))
		if r.Intn(2) == 0 {
			for i := range b {
				b[i] = byte(r.Intn(2))
			}
		} else {
			r.Read(b)
		}
		copy(b, "fsj1"[:r.Intn(5)])
		wantTold(t, "any octets", b)
		next := r.Intn(4)
		all, size := scannedFrom(b, next)
		wantScan(t, "any octets", b, next, all, size)
	}
}

// P15.1, P15.3: rows of records, of which some are spoilt, twice there, left
// out or cut off.
func TestScanOfManyRows(t *testing.T) {
	r := rand.New(rand.NewSource(17))
	counts := map[int]int{}
	for range 6000 {
		first := 1 + r.Intn(5)
		var b []byte
		seq := first
		for range r.Intn(8) {
			one := anyRecord(r, seq)
			switch r.Intn(12) {
			case 0:
				b = append(b, spoilt(r, one)...)
			case 1:
				one.Seq += r.Intn(3) - 1
				b = append(b, octetsOf(one)...)
			default:
				b = append(b, octetsOf(one)...)
			}
			seq++
		}
		if r.Intn(4) == 0 {
			b = b[:r.Intn(len(b)+1)]
		}
		all, size := scannedFrom(b, first)
		counts[len(all)]++
		wantScan(t, "many rows", b, first, all, size)
		if t.Failed() {
			t.FailNow()
		}
	}
	for count := range 7 {
		if counts[count] < 50 {
			t.Errorf("the test's own rows are too few of %d records: %d", count, counts[count])
		}
	}
}

// P15.2, P15.3: what was encoded one by one is scanned as it was.
func TestScanOfEncode(t *testing.T) {
	r := rand.New(rand.NewSource(18))
	for range 2000 {
		var all []journal.Record
		var b []byte
		for seq := 9; len(all) < 6; seq++ {
			one := anyRecord(r, seq)
			more, err := journal.Encode(one)
			if err != wanted(one) {
				t.Fatalf("P15.1: Encode: %d; want %d", err, wanted(one))
			}
			if err != api.OK {
				seq--
				continue
			}
			all = append(all, one)
			b = append(b, more...)
		}
		wantScan(t, "P15.3: of Encode", b, 9, all, len(b))
		cut := 64 * r.Intn(len(b)/64)
		whole, size := scannedFrom(b[:cut], 9)
		wantScan(t, "P15.3: of Encode, cut off at a sector", b[:cut], 9, whole, size)
		if !bytes.Equal(b[:size], rowOf(all[:len(whole)]...)) || !allAlike(whole, all[:len(whole)]) {
			t.Fatalf("P15.3: not those that are whole, of %d octets", cut)
		}
	}
}
