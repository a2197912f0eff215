package journal_test

import (
	"bytes"
	"encoding/binary"
	"hash/crc32"
	"math"
	"slices"
	"strconv"
	"testing"

	"flagstone/api"
	"flagstone/journal"
)

// full is a page's octets, no two of which next to each other are the same.
func full(seed int) []byte {
	b := make([]byte, 64)
	for i := range b {
		b[i] = byte(seed + 7*i)
	}
	return b
}

// sealed lays, by the library, the sum behind b, and zeros up to whole
// sectors.
func sealed(b []byte) []byte {
	b = bytes.Clone(b)
	b = binary.LittleEndian.AppendUint32(b, crc32.Checksum(b, crc32.MakeTable(crc32.Castagnoli)))
	for len(b)%64 != 0 {
		b = append(b, 0)
	}
	return b
}

// bodyOf is the chapter's octets of r ahead of the sum, by the library, of
// records that may not be too; of a number that is too great for its octets
// the lowest are laid.
func bodyOf(r journal.Record) []byte {
	b := []byte("fsj1")
	b = binary.LittleEndian.AppendUint64(b, uint64(r.Seq))
	b = binary.LittleEndian.AppendUint32(b, uint32(r.Root))
	b = binary.LittleEndian.AppendUint32(b, uint32(r.Room))
	b = binary.LittleEndian.AppendUint16(b, uint16(len(r.Pages)))
	for _, p := range r.Pages {
		b = binary.LittleEndian.AppendUint16(b, uint16(p.Number))
		if len(p.Data) == 0 {
			b = append(b, 0)
		} else {
			b = append(b, 1)
			b = append(b, p.Data...)
		}
	}
	return b
}

func octetsOf(r journal.Record) []byte {
	return sealed(bodyOf(r))
}

// with is the octets of r with one of those ahead of the sum another, and
// the sum of them.
func with(r journal.Record, at int, octet byte) []byte {
	b := bodyOf(r)
	b[at] = octet
	return sealed(b)
}

// rowOf is the octets of records one behind the other.
func rowOf(all ...journal.Record) []byte {
	var b []byte
	for _, r := range all {
		b = append(b, octetsOf(r)...)
	}
	return b
}

// mayBe tells the plain way, by the chapter's words, whether r may be.
func mayBe(r journal.Record) bool {
	if r.Seq <= 0 || r.Seq >= 1<<40+1 || r.Root <= -1 || r.Root >= 2049 || r.Room <= -1 || r.Room >= 65537 || len(r.Pages) >= 257 {
		return false
	}
	for i, p := range r.Pages {
		if p.Number <= 0 || p.Number >= 2049 {
			return false
		}
		if i != 0 && r.Pages[i-1].Number >= p.Number {
			return false
		}
		if len(p.Data) != 0 && len(p.Data) != 64 {
			return false
		}
	}
	return true
}

// toldBy is Decode done the plain way, by the chapter's words in their order.
func toldBy(b []byte) (journal.Record, int, api.Errno) {
	none := journal.Record{}
	for i := 0; i < 4 && i < len(b); i++ {
		if b[i] != "fsj1"[i] {
			return none, 0, api.ErrCorrupt
		}
	}
	if len(b) < 22 {
		return none, 0, api.ErrShort
	}
	seq := binary.LittleEndian.Uint64(b[4:12])
	r := journal.Record{Root: int(binary.LittleEndian.Uint32(b[12:16])), Room: int(binary.LittleEndian.Uint32(b[16:20]))}
	count := int(binary.LittleEndian.Uint16(b[20:22]))
	if count > 256 {
		return none, 0, api.ErrCorrupt
	}
	at := 22
	for len(r.Pages) < count {
		if len(b) < at+3 || b[at+2] == 1 && len(b) < at+67 {
			return none, 0, api.ErrShort
		}
		p := api.Page{Number: int(b[at]) + 256*int(b[at+1])}
		switch b[at+2] {
		case 0:
			at += 3
		case 1:
			p.Data = bytes.Clone(b[at+3 : at+67])
			at += 67
		default:
			return none, 0, api.ErrCorrupt
		}
		r.Pages = append(r.Pages, p)
	}
	end := at + 4
	for end%64 != 0 {
		end++
	}
	if len(b) < end {
		return none, 0, api.ErrShort
	}
	if seq > 1<<40 || !bytes.Equal(sealed(b[:at]), b[:end]) {
		return none, 0, api.ErrCorrupt
	}
	r.Seq = int(seq)
	if !mayBe(r) {
		return none, 0, api.ErrCorrupt
	}
	return r, end, api.OK
}

// scannedFrom is Scan done the plain way.
func scannedFrom(b []byte, next int) ([]journal.Record, int) {
	var all []journal.Record
	total := 0
	for {
		r, size, err := toldBy(b[total:])
		if err != api.OK || r.Seq != next {
			return all, total
		}
		all = append(all, r)
		total += size
		next++
	}
}

// pagesOf has so many pages; of each the data.
func pagesOf(count int, data func(number int) []byte) []api.Page {
	var all []api.Page
	for number := 1; number <= count; number++ {
		all = append(all, api.Page{Number: number, Data: data(number)})
	}
	return all
}

func empty(int) []byte {
	return nil
}

func mixed(number int) []byte {
	if number%3 == 0 {
		return nil
	}
	return full(number)
}

// ordinary has empty pages and a full one, and no two numbers alike; its sum
// ends 35 octets behind the beginning of its second sector.
func ordinary() journal.Record {
	return journal.Record{Seq: 0x0908070605, Root: 0x070b, Room: 0xbbaa, Pages: []api.Page{
		{Number: 0x0102}, {Number: 0x0304, Data: full(3)}, {Number: 0x0305},
	}}
}

// recordsThatMayBe has each number at its edges, and pages of each kind and
// count.
func recordsThatMayBe() map[string]journal.Record {
	all := map[string]journal.Record{
		"the example":           {Seq: 3},
		"the least":             {Seq: 1},
		"the greatest":          {Seq: 1 << 40, Root: 2048, Room: 1 << 16, Pages: []api.Page{{Number: 2048, Data: bytes.Repeat([]byte{255}, 64)}}},
		"the greatest but one":  {Seq: 1<<40 - 1, Root: 2047, Room: 1<<16 - 1},
		"a root":                {Seq: 1, Root: 1},
		"a room":                {Seq: 1, Room: 1},
		"pages empty":           {Seq: 1, Pages: []api.Page{}},
		"the first page, empty": {Seq: 1, Pages: []api.Page{{Number: 1}}},
		"the last page, empty":  {Seq: 1, Pages: []api.Page{{Number: 2048, Data: []byte{}}}},
		"the first page, full":  {Seq: 1, Pages: []api.Page{{Number: 1, Data: full(1)}}},
		"a page of zeros":       {Seq: 1, Pages: []api.Page{{Number: 5, Data: make([]byte, 64)}}},
		"both ends":             {Seq: 1, Pages: []api.Page{{Number: 1, Data: full(9)}, {Number: 2048, Data: full(8)}}},
		"the last two":          {Seq: 1, Pages: []api.Page{{Number: 2047}, {Number: 2048}}},
		"one low octet":         {Seq: 1, Pages: []api.Page{{Number: 5}, {Number: 261}, {Number: 517, Data: full(2)}}},
		"two pages alike":       {Seq: 1, Pages: []api.Page{{Number: 5, Data: full(5)}, {Number: 6, Data: full(5)}}},
		"full, empty":           {Seq: 1, Pages: []api.Page{{Number: 5, Data: full(5)}, {Number: 6}}},
		"empty, full":           {Seq: 1, Pages: []api.Page{{Number: 5}, {Number: 6, Data: full(5)}}},
		"a root that is a page": {Seq: 2, Root: 6, Pages: []api.Page{{Number: 6, Data: full(6)}}},
		"a root that is none":   {Seq: 2, Root: 6, Pages: []api.Page{{Number: 6}}},
		"a page like a record":  {Seq: 7, Pages: []api.Page{{Number: 1, Data: octetsOf(journal.Record{Seq: 8})}}},
		"ordinary":              ordinary(),
		"256 empty pages":       {Seq: 9, Pages: pagesOf(256, empty)},
		"256 full pages":        {Seq: 9, Pages: pagesOf(256, full)},
		"256 mixed pages":       {Seq: 9, Pages: pagesOf(256, mixed)},
		"255 mixed pages":       {Seq: 9, Pages: pagesOf(255, mixed)},
		"the last 256":          {Seq: 9, Pages: shifted(pagesOf(256, mixed), 1792)},
		"256, as far as may be": {Seq: 9, Pages: spread(pagesOf(256, empty), 8)},
		"a sum ahead of an end": {Seq: 1, Pages: pagesOf(12, empty)},
		"a sum in two sectors":  {Seq: 1, Pages: pagesOf(13, empty)},
		"a sum that begins one": {Seq: 1, Pages: pagesOf(14, empty)},
		"a sum short of an end": {Seq: 1, Pages: pagesOf(33, mixed)},
		"a sum that ends one":   {Seq: 1, Pages: pagesOf(34, empty)},
		"a sum, full, ends one": {Seq: 1, Pages: shifted(pagesOf(34, mixed), 3)},
		"a sum just into one":   {Seq: 1, Pages: pagesOf(35, mixed)},
	}
	return all
}

func shifted(l []api.Page, by int) []api.Page {
	for i := range l {
		l[i].Number += by
	}
	return l
}

func spread(l []api.Page, by int) []api.Page {
	for i := range l {
		l[i].Number *= by
	}
	return l
}

// recordsThatMayNotBe has records of which nearly each may not be for one
// reason alone.
func recordsThatMayNotBe() map[string]journal.Record {
	all := map[string]journal.Record{
		"nothing":             {},
		"257 empty pages":     {Seq: 1, Pages: pagesOf(257, empty)},
		"257 full pages":      {Seq: 1, Pages: pagesOf(257, full)},
		"2048 pages":          {Seq: 1, Pages: pagesOf(2048, empty)},
		"two alike":           {Seq: 1, Pages: []api.Page{{Number: 5}, {Number: 5}}},
		"two alike, all":      {Seq: 1, Pages: []api.Page{{Number: 5, Data: full(1)}, {Number: 5, Data: full(1)}}},
		"two alike behind":    {Seq: 1, Pages: []api.Page{{Number: 4}, {Number: 5}, {Number: 5}}},
		"two alike at 1":      {Seq: 1, Pages: []api.Page{{Number: 1}, {Number: 1}}},
		"two alike at 2048":   {Seq: 1, Pages: []api.Page{{Number: 2048}, {Number: 2048}}},
		"one below":           {Seq: 1, Pages: []api.Page{{Number: 5}, {Number: 4}}},
		"one below behind":    {Seq: 1, Pages: []api.Page{{Number: 4}, {Number: 6}, {Number: 5}}},
		"one below all":       {Seq: 1, Pages: []api.Page{{Number: 4}, {Number: 6}, {Number: 3}}},
		"one below the first": {Seq: 1, Pages: []api.Page{{Number: 4}, {Number: 2}, {Number: 3}}},
		"one below by octets": {Seq: 1, Pages: []api.Page{{Number: 256}, {Number: 255}}},
	}
	for _, seq := range []int{0, -1, 1<<40 + 1, 1 << 41, 1<<32 + 1<<40, math.MaxInt, math.MinInt, math.MinInt + 1} {
		all["a Seq "+strconv.Itoa(seq)] = journal.Record{Seq: seq}
		all["a Seq, pages "+strconv.Itoa(seq)] = journal.Record{Seq: seq, Root: 1, Room: 1, Pages: pagesOf(2, mixed)}
	}
	for _, root := range []int{-1, -2048, 2049, 1 << 16, 1 << 32, 1<<32 + 1, math.MaxInt, math.MinInt} {
		all["a Root "+strconv.Itoa(root)] = journal.Record{Seq: 1, Root: root}
	}
	for _, room := range []int{-1, -1 << 16, 1<<16 + 1, 1 << 17, 1 << 32, 1<<32 + 1, math.MaxInt, math.MinInt} {
		all["a Room "+strconv.Itoa(room)] = journal.Record{Seq: 1, Room: room}
	}
	for _, number := range []int{0, -1, 2049, 4096, 1 << 16, 1<<16 + 3, 1 << 32, math.MaxInt, math.MinInt} {
		all["a Number "+strconv.Itoa(number)] = journal.Record{Seq: 1, Pages: []api.Page{{Number: number}}}
		all["a Number, full "+strconv.Itoa(number)] = journal.Record{Seq: 1, Pages: []api.Page{{Number: number, Data: full(2)}}}
		all["a Number behind "+strconv.Itoa(number)] = journal.Record{Seq: 1, Pages: []api.Page{{Number: 2}, {Number: number}}}
		all["a Number ahead "+strconv.Itoa(number)] = journal.Record{Seq: 1, Pages: []api.Page{{Number: number}, {Number: 2}}}
	}
	for _, length := range []int{1, 2, 32, 63, 65, 127, 128, 129, 1 << 16} {
		all["a page of "+strconv.Itoa(length)] = journal.Record{Seq: 1, Pages: []api.Page{{Number: 3, Data: make([]byte, length)}}}
		all["a page behind of "+strconv.Itoa(length)] = journal.Record{Seq: 1, Pages: []api.Page{{Number: 3}, {Number: 4, Data: make([]byte, length)}}}
		all["a page ahead of "+strconv.Itoa(length)] = journal.Record{Seq: 1, Pages: []api.Page{{Number: 3, Data: make([]byte, length)}, {Number: 4, Data: full(4)}}}
	}
	return all
}

// alike holds records against each other; nil and empty lists are one.
func alike(a, b journal.Record) bool {
	return a.Seq == b.Seq && a.Root == b.Root && a.Room == b.Room && slices.EqualFunc(a.Pages, b.Pages, func(x, y api.Page) bool {
		return x.Number == y.Number && bytes.Equal(x.Data, y.Data)
	})
}

func allAlike(a, b []journal.Record) bool {
	return slices.EqualFunc(a, b, alike)
}

func wantCheck(t *testing.T, what string, r journal.Record, want api.Errno) {
	t.Helper()
	if err := journal.Check(r); err != want {
		t.Errorf("P15.1: Check, %s: %d; want %d", what, err, want)
	}
}

func wantEncode(t *testing.T, what string, r journal.Record, want []byte, wantErr api.Errno) {
	t.Helper()
	if b, err := journal.Encode(r); !bytes.Equal(b, want) || err != wantErr {
		t.Errorf("P15.1: Encode, %s: % x, %d; want % x, %d", what, b, err, want, wantErr)
	}
}

func wantDecode(t *testing.T, what string, b []byte, want journal.Record, wantSize int, wantErr api.Errno) {
	t.Helper()
	if r, size, err := journal.Decode(b); !alike(r, want) || size != wantSize || err != wantErr {
		t.Errorf("P15.1: Decode, %s: % x: %+v, %d, %d; want %+v, %d, %d", what, b, r, size, err, want, wantSize, wantErr)
	}
}

// wantRefused: beside an error there is nothing (P4).
func wantRefused(t *testing.T, what string, b []byte, want api.Errno) {
	t.Helper()
	wantDecode(t, what, b, journal.Record{}, 0, want)
}

// wantTold holds Decode against the chapter's words done the plain way.
func wantTold(t *testing.T, what string, b []byte) api.Errno {
	t.Helper()
	r, size, err := toldBy(b)
	wantDecode(t, what, b, r, size, err)
	return err
}

func wantScan(t *testing.T, what string, b []byte, next int, want []journal.Record, wantSize int) {
	t.Helper()
	if all, size := journal.Scan(b, next); !allAlike(all, want) || size != wantSize {
		t.Errorf("P15.1: Scan, %s, from %d: %+v, %d; want %+v, %d", what, next, all, size, want, wantSize)
	}
}
