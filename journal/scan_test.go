package journal_test

import (
	"bytes"
	"math"
	"testing"

	"flagstone/api"
	"flagstone/journal"
)

// rowFrom has records of one, two and more sectors, numbered from seq on.
func rowFrom(seq int) []journal.Record {
	return []journal.Record{
		{Seq: seq},
		{Seq: seq + 1, Root: 1, Room: 9, Pages: []api.Page{{Number: 1, Data: full(1)}}},
		{Seq: seq + 2, Root: 4, Room: 9, Pages: pagesOf(7, mixed)},
		{Seq: seq + 3, Pages: pagesOf(13, empty)},
		{Seq: seq + 4, Room: 2},
	}
}

// endsOf is where each record ends.
func endsOf(all []journal.Record) []int {
	var ends []int
	for i := range all {
		ends = append(ends, len(rowOf(all[:i+1]...)))
	}
	return ends
}

// P15.1, P15.3.
func TestScanOfARow(t *testing.T) {
	for _, first := range []int{1, 2, 3, 255, 1 << 16, 1 << 32, 1<<40 - 4} {
		all := rowFrom(first)
		b := rowOf(all...)
		wantScan(t, "a row", b, first, all, len(b))
		wantScan(t, "a row, zeros behind", append(bytes.Clone(b), make([]byte, 640)...), first, all, len(b))
		wantScan(t, "a row, octets behind", append(bytes.Clone(b), bytes.Repeat([]byte{255}, 99)...), first, all, len(b))
		wantScan(t, "a row, a mark behind", append(bytes.Clone(b), "fsj1"...), first, all, len(b))
		for count := range len(all) + 1 {
			part := rowOf(all[:count]...)
			wantScan(t, "a part", part, first, all[:count], len(part))
		}
	}
}

// P15.1: no octets, and such as no record begins with.
func TestScanOfNone(t *testing.T) {
	for _, next := range []int{math.MinInt, -1, 0, 1, 3, 1 << 40, math.MaxInt} {
		for _, b := range [][]byte{nil, {}, {0}, make([]byte, 64), make([]byte, 1<<16), bytes.Repeat([]byte{255}, 64), []byte("fsj1"), octetsOf(journal.Record{Seq: 7})} {
			wantScan(t, "none", b, next, nil, 0)
		}
	}
}

// P15.3: cut off at each octet: just those that are whole.
func TestScanOfWhatIsCutOff(t *testing.T) {
	all := rowFrom(3)
	b := rowOf(all...)
	ends := endsOf(all)
	for length := range len(b) + 1 {
		whole, size := 0, 0
		for whole < len(all) && ends[whole] <= length {
			size = ends[whole]
			whole++
		}
		wantScan(t, "P15.3: cut off", b[:length], 3, all[:whole], size)
		// As a host shows it: the sectors behind are zeros, or were used.
		zeros := append(bytes.Clone(b[:length]), make([]byte, len(b)-length)...)
		if length%64 == 0 {
			wantScan(t, "P15.3: cut off, zeros behind", zeros, 3, all[:whole], size)
			elder := append(bytes.Clone(b[:length]), rowOf(rowFrom(1)...)[length:]...)
			wantScan(t, "P15.3: cut off, elder ones behind", elder, 3, all[:whole], size)
		}
	}
}

// P15.1: the first is not next, or one behind is not one more.
func TestScanOfAnotherSeq(t *testing.T) {
	all := rowFrom(5)
	b := rowOf(all...)
	for _, next := range []int{math.MinInt, -5, -1, 0, 1, 4, 6, 7, 10, 1<<32 + 5, 1 << 40, 1<<40 + 5, math.MaxInt} {
		wantScan(t, "another next", b, next, nil, 0)
	}
	for at := range all {
		for _, seq := range []int{1, 4, 5, 6, 7, 8, 9, 10, 1<<32 + 5, 1 << 40} {
			if seq == 5+at {
				continue
			}
			other := rowFrom(5)
			other[at].Seq = seq
			wantScan(t, "another Seq", rowOf(other...), 5, all[:at], len(rowOf(all[:at]...)))
		}
	}
	twice := append(octetsOf(all[0]), octetsOf(all[0])...)
	wantScan(t, "the same twice", twice, 5, all[:1], 64)
	wantScan(t, "one left out", append(octetsOf(all[0]), octetsOf(all[2])...), 5, all[:1], 64)
	wantScan(t, "falling", append(octetsOf(all[1]), octetsOf(all[0])...), 6, all[1:2], 128)
	wantScan(t, "a sector between", append(append(octetsOf(all[0]), make([]byte, 64)...), octetsOf(all[1])...), 5, all[:1], 64)
	wantScan(t, "an octet between", append(append(octetsOf(all[0]), 0), octetsOf(all[1])...), 5, all[:1], 64)
}

// P15.1: one is spoilt among whole ones, in each of its octets.
func TestScanOfWhatIsSpoilt(t *testing.T) {
	all := rowFrom(5)
	b := rowOf(all...)
	from := 0
	for i, end := range endsOf(all) {
		for at := from; at < end; at++ {
			for _, change := range []byte{1, 2, 16, 128, 255} {
				spoilt := bytes.Clone(b)
				spoilt[at] ^= change
				wantScan(t, "a spoilt one", spoilt, 5, all[:i], from)
			}
		}
		from = end
	}
}

// P15.1: the greatest Seq; what comes behind it is numbered by none.
func TestScanAtTheGreatestSeq(t *testing.T) {
	last := []journal.Record{{Seq: 1<<40 - 1}, {Seq: 1 << 40}}
	b := rowOf(last...)
	wantScan(t, "the last two", b, 1<<40-1, last, 128)
	b = append(b, octetsOf(journal.Record{Seq: 1<<40 + 1})...)
	wantScan(t, "one too many", b, 1<<40-1, last, 128)
	wantScan(t, "none that may be", b[128:], 1<<40+1, nil, 0)
	wantScan(t, "Seq 0", octetsOf(journal.Record{}), 0, nil, 0)
	b = bodyOf(journal.Record{})
	for i := 4; i < 12; i++ {
		b[i] = 255
	}
	wantScan(t, "Seq -1", sealed(b), -1, nil, 0)
}

// P15.1, P1: very many records, and long ones.
func TestScanOfVeryMany(t *testing.T) {
	var all []journal.Record
	var b []byte
	for seq := 1; seq <= 20000; seq++ {
		r := journal.Record{Seq: seq, Root: seq % 2049}
		if seq%500 == 0 {
			r.Pages = pagesOf(256, full)
		}
		all = append(all, r)
		b = append(b, octetsOf(r)...)
	}
	got, size := journal.Scan(b, 1)
	if !allAlike(got, all) || size != len(b) {
		t.Errorf("P15.1: Scan of %d records: %d, %d octets of %d", len(all), len(got), size, len(b))
	}
}
