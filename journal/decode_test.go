package journal_test

import (
	"bytes"
	"encoding/binary"
	"testing"

	"flagstone/api"
	"flagstone/journal"
)

// P15.1: a record cut off at each place is ErrShort, also where all but some
// of the zeros up to the sector's end is there.
func TestDecodeOfWhatIsCutOff(t *testing.T) {
	wantRefused(t, "nil", nil, api.ErrShort)
	wantRefused(t, "no octets", []byte{}, api.ErrShort)
	for name, r := range recordsThatMayBe() {
		b := octetsOf(r)
		for length := range len(b) {
			if size, err := sizeAndErr(b[:length]); size != 0 || err != api.ErrShort {
				t.Errorf("P15.1: Decode, %s, cut off at %d: %d, %d; want ErrShort", name, length, size, err)
			}
		}
	}
	wantRefused(t, "21 octets", octetsOf(journal.Record{Seq: 3})[:21], api.ErrShort)
	wantRefused(t, "22 octets", octetsOf(journal.Record{Seq: 3})[:22], api.ErrShort)
	wantRefused(t, "26 octets", octetsOf(journal.Record{Seq: 3})[:26], api.ErrShort)
	wantRefused(t, "63 octets", octetsOf(journal.Record{Seq: 3})[:63], api.ErrShort)
}

func sizeAndErr(b []byte) (int, api.Errno) {
	_, size, err := journal.Decode(b)
	return size, err
}

// P15.1: one of the first four octets is another: ErrCorrupt, ahead of
// ErrShort, as far as they go.
func TestDecodeWantsItsMark(t *testing.T) {
	for _, r := range []journal.Record{{Seq: 3}, ordinary()} {
		b := octetsOf(r)
		for at := range 4 {
			for octet := range 256 {
				spoilt := bytes.Clone(b)
				spoilt[at] = byte(octet)
				for length := range len(b) + 1 {
					want := api.ErrShort
					switch {
					case at < length && octet != int(b[at]):
						want = api.ErrCorrupt
					case length == len(b):
						want = api.OK
					}
					if size, err := sizeAndErr(spoilt[:length]); err != want || (size != 0) != (want == api.OK) {
						t.Errorf("P15.1: Decode, octet %d is %d, cut off at %d: %d, %d; want %d", at, octet, length, size, err, want)
					}
				}
				// Also where the sum fits again.
				want := api.ErrCorrupt
				if octet == int(b[at]) {
					want = api.OK
				}
				if _, err := sizeAndErr(with(r, at, byte(octet))); err != want {
					t.Errorf("P15.1: Decode, octet %d is %d, its sum fits: %d; want %d", at, octet, err, want)
				}
			}
		}
	}
	for _, b := range [][]byte{{0}, {'s'}, {'f', 'f'}, []byte("fst"), []byte("fst1"), []byte("fsj"), []byte("fsj2"), make([]byte, 21), make([]byte, 64), bytes.Repeat([]byte{255}, 64)} {
		want := api.ErrCorrupt
		if string(b) == "fsj" {
			want = api.ErrShort
		}
		wantRefused(t, "another mark", b, want)
	}
}

// P15.1: each octet made each other one: an error, that which the chapter's
// words say.
func TestDecodeTellsAnotherOctet(t *testing.T) {
	for _, r := range []journal.Record{
		{Seq: 3},
		ordinary(),
		{Seq: 1, Pages: []api.Page{{Number: 1, Data: full(1)}}},
		{Seq: 1, Root: 2, Room: 3, Pages: pagesOf(13, empty)},
	} {
		b := octetsOf(r)
		for at := range b {
			for change := 1; change < 256; change++ {
				spoilt := bytes.Clone(b)
				spoilt[at] ^= byte(change)
				if err := wantTold(t, "another octet", spoilt); err == api.OK {
					t.Errorf("the test's own way takes octet %d changed by %d", at, change)
				}
			}
		}
	}
}

// P15.1: the numbers, a page's octets, the sum and the zeros: ErrCorrupt.
func TestDecodeWantsItsSum(t *testing.T) {
	b := octetsOf(ordinary())
	for at := range b {
		if at >= 20 && at < 28 || at >= 92 && at < 95 {
			continue // the count, and the pages' numbers and kinds
		}
		for change := 1; change < 256; change++ {
			spoilt := bytes.Clone(b)
			spoilt[at] ^= byte(change)
			wantRefused(t, "another octet", spoilt, api.ErrCorrupt)
		}
	}
	for _, at := range []int{22, 23, 25, 26, 92, 93} {
		for change := 1; change < 256; change++ {
			spoilt := bytes.Clone(b)
			spoilt[at] ^= byte(change)
			wantRefused(t, "another number", spoilt, api.ErrCorrupt)
		}
	}
	// The sum is the third of octets in which it stands, whatever they are.
	for at := 95; at < 99; at++ {
		spoilt := bytes.Clone(b)
		spoilt[at] = ^spoilt[at]
		wantRefused(t, "another sum", spoilt, api.ErrCorrupt)
	}
	clear(b[95:99])
	wantRefused(t, "no sum", b, api.ErrCorrupt)
}

// P15.1: zeros up to the sector's end, and they alone.
func TestDecodeWantsItsZeros(t *testing.T) {
	for name, r := range recordsThatMayBe() {
		b := octetsOf(r)
		for at := len(bodyOf(r)) + 4; at < len(b); at++ {
			for _, octet := range []byte{1, 128, 255} {
				spoilt := bytes.Clone(b)
				spoilt[at] = octet
				wantRefused(t, name+", no zero", spoilt, api.ErrCorrupt)
			}
		}
		// What is behind the sector's end is another's.
		behind := append(bytes.Clone(b), bytes.Repeat([]byte{255}, 64)...)
		wantDecode(t, name, behind, r, len(b), api.OK)
	}
}

// counted is octets whose count of pages is told to be this, with its sum.
func counted(r journal.Record, count int) []byte {
	b := bodyOf(r)
	binary.LittleEndian.PutUint16(b[20:], uint16(count))
	return sealed(b)
}

// P15.1: more than 256 pages are told: ErrCorrupt, ahead of ErrShort.
func TestDecodeOfTooManyPages(t *testing.T) {
	for _, count := range []int{257, 258, 300, 512, 1 << 15, 1<<16 - 256, 1<<16 - 1} {
		for _, r := range []journal.Record{{Seq: 3}, ordinary(), {Seq: 3, Pages: pagesOf(256, full)}, {Seq: 3, Pages: pagesOf(257, empty)}} {
			b := counted(r, count)
			wantRefused(t, "too many", b, api.ErrCorrupt)
			wantRefused(t, "too many, cut off behind the count", b[:22], api.ErrCorrupt)
			wantRefused(t, "too many, cut off in the count", b[:21], api.ErrShort)
		}
	}
	wantRefused(t, "257, as told", octetsOf(journal.Record{Seq: 1, Pages: pagesOf(257, empty)}), api.ErrCorrupt)
	wantRefused(t, "256, which are wanting from a page's number on", counted(journal.Record{Seq: 3}, 256)[:22], api.ErrShort)
	wantRefused(t, "256 pages of kind 1, of which most are wanting", append(counted(journal.Record{Seq: 3}, 256)[:22], bytes.Repeat([]byte{1}, 1000)...), api.ErrShort)
	wantRefused(t, "256 pages of kind 0, all alike", append(counted(journal.Record{Seq: 3}, 256)[:22], make([]byte, 1000)...), api.ErrCorrupt)
	wantRefused(t, "256 pages of kind 0, of which one is wanting", append(counted(journal.Record{Seq: 3}, 256)[:22], make([]byte, 767)...), api.ErrShort)
	wantRefused(t, "256 pages of kind 0, without a sum", append(counted(journal.Record{Seq: 3}, 256)[:22], make([]byte, 768)...), api.ErrShort)
}

// P15.1: the sum fits, but fewer or more pages are told than there are.
func TestDecodeOfAWrongCount(t *testing.T) {
	for name, r := range recordsThatMayBe() {
		for _, by := range []int{-2, -1, 1, 2} {
			count := len(r.Pages) + by
			if count < 0 || count > 257 {
				continue
			}
			if err := wantTold(t, name+", a wrong count", counted(r, count)); err == api.OK {
				t.Errorf("the test's own way takes %s with a wrong count", name)
			}
		}
	}
	two := journal.Record{Seq: 3, Pages: []api.Page{{Number: 1}, {Number: 2}}}
	wantRefused(t, "one of two", counted(two, 1), api.ErrCorrupt)
	wantRefused(t, "none of two", counted(two, 0), api.ErrCorrupt)
	// The next page's kind is the sum's third octet.
	b := counted(two, 3)
	b[30] = 2
	wantRefused(t, "three of two, a kind that is none", b, api.ErrCorrupt)
	b[30] = 1
	wantRefused(t, "three of two, octets that are wanting", b, api.ErrShort)
	b[30] = 0
	wantRefused(t, "three of two", b, api.ErrCorrupt)
}

// P15.1: the octet behind a page's number is neither 0 nor 1: ErrCorrupt,
// also where what is behind it is wanting; but not where an octet ahead of
// it is.
func TestDecodeWantsItsKinds(t *testing.T) {
	r := journal.Record{Seq: 1, Pages: []api.Page{{Number: 1}, {Number: 2, Data: full(2)}, {Number: 3}, {Number: 4, Data: full(4)}}}
	for _, at := range []int{24, 27, 94, 97} {
		for kind := 2; kind < 256; kind++ {
			b := with(r, at, byte(kind))
			wantRefused(t, "another kind", b, api.ErrCorrupt)
			wantRefused(t, "another kind, cut off behind it", b[:at+1], api.ErrCorrupt)
			wantRefused(t, "another kind, cut off ahead of it", b[:at], api.ErrShort)
			wantRefused(t, "another kind, far behind", b[:at+30], api.ErrCorrupt)
		}
	}
	// An empty page that is told to be full takes what is behind it along.
	wantRefused(t, "full, not empty, at the end", with(journal.Record{Seq: 1, Pages: []api.Page{{Number: 1}}}, 24, 1), api.ErrShort)
	wantTold(t, "full, not empty", with(r, 24, 1))
	wantTold(t, "full, not empty, behind", with(r, 94, 1))
	wantTold(t, "empty, not full", with(r, 27, 0))
	wantTold(t, "empty, not full, behind", with(r, 97, 0))
	wantRefused(t, "empty, not full, alone", with(journal.Record{Seq: 1, Pages: []api.Page{{Number: 1, Data: full(1)}}}, 24, 0), api.ErrCorrupt)
	// The first fault in a page's order counts, not the greatest.
	b := with(r, 24, 7)
	b[97] = 9
	wantRefused(t, "two kinds", b[:25], api.ErrCorrupt)
	b[24] = 0
	wantRefused(t, "a kind, behind what is wanting", b[:97], api.ErrShort)
}

// P15.1: the sum fits, but no record that may be has the octets.
func TestDecodeRefusesWhatMayNotBe(t *testing.T) {
	refused := 0
	for name, r := range recordsThatMayNotBe() {
		if !isLaid(r) {
			continue
		}
		refused++
		wantRefused(t, name, octetsOf(r), api.ErrCorrupt)
		b := octetsOf(r)
		if len(r.Pages) <= 256 {
			wantRefused(t, name+", cut off", b[:len(b)-1], api.ErrShort)
			wantRefused(t, name+", cut off in its numbers", b[:20], api.ErrShort)
		}
	}
	if refused < 40 {
		t.Error("the test's own records are too few:", refused)
	}
}

// isLaid tells whether all of r has its place in its octets, so that they
// are no other record's.
func isLaid(r journal.Record) bool {
	for _, p := range r.Pages {
		if len(p.Data) != 0 && len(p.Data) != 64 || p.Number < 0 || p.Number >= 1<<16 {
			return false
		}
	}
	return r.Root == int(uint32(r.Root)) && r.Room == int(uint32(r.Room))
}

// P15.1: numbers that fill their octets, and their sum.
func TestDecodeOfFullNumbers(t *testing.T) {
	for _, at := range []int{9, 10, 11, 13, 14, 15, 18, 19} {
		for octet := 1; octet < 256; octet++ {
			b := with(journal.Record{Seq: 1}, at, byte(octet))
			switch {
			case at == 13 && octet <= 8:
				wantDecode(t, "a Root", b, journal.Record{Seq: 1, Root: 256 * octet}, 64, api.OK)
			case at == 18 && octet == 1:
				wantDecode(t, "the greatest Room", b, journal.Record{Seq: 1, Room: 1 << 16}, 64, api.OK)
			default:
				wantRefused(t, "a full number", b, api.ErrCorrupt)
			}
		}
	}
	wantDecode(t, "the greatest Seq", with(journal.Record{Seq: 0}, 9, 1), journal.Record{Seq: 1 << 40}, 64, api.OK)
	b := bodyOf(journal.Record{Seq: 1})
	for i := 4; i < 12; i++ {
		b[i] = 255
	}
	wantRefused(t, "all of a Seq's octets", sealed(b), api.ErrCorrupt)
	b[11] = 128
	wantRefused(t, "a Seq with the sign's bit", sealed(b), api.ErrCorrupt)
}

// P15.1: a sum that is right for other sectors than the octets need.
func TestDecodeOfTooManySectors(t *testing.T) {
	b := append(octetsOf(journal.Record{Seq: 3}), make([]byte, 64)...)
	wantDecode(t, "a sector of zeros behind", b, journal.Record{Seq: 3}, 64, api.OK)
	moved := sealed(append(bodyOf(journal.Record{Seq: 3}), 0))
	wantRefused(t, "a sum one octet too late", moved, api.ErrCorrupt)
	moved = append(make([]byte, 1), octetsOf(journal.Record{Seq: 3})...)
	wantRefused(t, "a record one octet too late", moved, api.ErrCorrupt)
	wantRefused(t, "a record one sector too late", append(make([]byte, 64), moved[1:]...), api.ErrCorrupt)
}
