package journal_test

import (
	"math"
	"testing"

	"flagstone/api"
	"flagstone/journal"
)

// P15.1.
func TestCheckTakes(t *testing.T) {
	for name, r := range recordsThatMayBe() {
		if !mayBe(r) {
			t.Errorf("the test's own record, %s, may not be", name)
		}
		wantCheck(t, name, r, api.OK)
	}
}

// P15.1: ErrState, whatever it is; Encode says the same, and nothing beside
// it (P4).
func TestCheckAndEncodeRefuse(t *testing.T) {
	for name, r := range recordsThatMayNotBe() {
		if mayBe(r) {
			t.Errorf("the test's own record, %s, may be", name)
		}
		wantCheck(t, name, r, api.ErrState)
		wantEncode(t, name, r, nil, api.ErrState)
	}
}

// wanted is Check's error by the chapter's words done the plain way.
func wanted(r journal.Record) api.Errno {
	if mayBe(r) {
		return api.OK
	}
	return api.ErrState
}

// P15.1: each number around its ends.
func TestCheckAtTheEnds(t *testing.T) {
	for _, c := range []struct {
		what string
		r    journal.Record
		want api.Errno
	}{
		{"Seq 0", journal.Record{Seq: 0}, api.ErrState},
		{"Seq 1", journal.Record{Seq: 1}, api.OK},
		{"Seq 2^40", journal.Record{Seq: 1 << 40}, api.OK},
		{"Seq 2^40 + 1", journal.Record{Seq: 1<<40 + 1}, api.ErrState},
		{"Root -1", journal.Record{Seq: 1, Root: -1}, api.ErrState},
		{"Root 2048", journal.Record{Seq: 1, Root: 2048}, api.OK},
		{"Root 2049", journal.Record{Seq: 1, Root: 2049}, api.ErrState},
		{"Room -1", journal.Record{Seq: 1, Room: -1}, api.ErrState},
		{"Room 2^16", journal.Record{Seq: 1, Room: 65536}, api.OK},
		{"Room 2^16 + 1", journal.Record{Seq: 1, Room: 65537}, api.ErrState},
		{"Number 0", journal.Record{Seq: 1, Pages: []api.Page{{Number: 0}}}, api.ErrState},
		{"Number 1", journal.Record{Seq: 1, Pages: []api.Page{{Number: 1}}}, api.OK},
		{"Number 2048", journal.Record{Seq: 1, Pages: []api.Page{{Number: 2048}}}, api.OK},
		{"Number 2049", journal.Record{Seq: 1, Pages: []api.Page{{Number: 2049}}}, api.ErrState},
		{"256 pages", journal.Record{Seq: 1, Pages: pagesOf(256, empty)}, api.OK},
		{"257 pages", journal.Record{Seq: 1, Pages: pagesOf(257, empty)}, api.ErrState},
	} {
		wantCheck(t, c.what, c.r, c.want)
	}
	for n := -3; n <= 2100; n++ {
		for _, r := range []journal.Record{
			{Seq: n}, {Seq: 1<<40 - 1000 + n}, {Seq: 1, Root: n}, {Seq: 1, Room: n}, {Seq: 1, Room: 1<<16 - 1000 + n},
			{Seq: 1, Pages: []api.Page{{Number: n}}}, {Seq: 1, Pages: []api.Page{{Number: 7, Data: full(7)}, {Number: n, Data: full(n)}}},
			{Seq: 1, Pages: []api.Page{{Number: n}, {Number: 1000}}}, {Seq: 1, Pages: []api.Page{{Number: 7}, {Number: n}, {Number: 1000}}},
		} {
			wantCheck(t, "around an end", r, wanted(r))
		}
	}
}

// P15.1: a page of each length.
func TestCheckOfEachLength(t *testing.T) {
	for length := range 300 {
		want := api.ErrState
		if length == 0 || length == 64 {
			want = api.OK
		}
		page := api.Page{Number: 2, Data: make([]byte, length)}
		wantCheck(t, "a page", journal.Record{Seq: 1, Pages: []api.Page{page}}, want)
		wantCheck(t, "a page ahead", journal.Record{Seq: 1, Pages: []api.Page{page, {Number: 3}}}, want)
		wantCheck(t, "a page behind", journal.Record{Seq: 1, Pages: []api.Page{{Number: 1, Data: full(1)}, page}}, want)
	}
}

// P15.1: each of so many pages, one that may not be.
func TestCheckOfEachPlace(t *testing.T) {
	for _, count := range []int{1, 2, 3, 100, 256} {
		for at := range count {
			for _, page := range []api.Page{{Number: 4*at + 4, Data: make([]byte, 63)}, {Number: 4*at + 4, Data: make([]byte, 65)}, {Number: 0}, {Number: 2049}, {Number: -1 - at}} {
				r := journal.Record{Seq: 1, Pages: spread(pagesOf(count, mixed), 4)}
				wantCheck(t, "whole", r, api.OK)
				r.Pages[at] = page
				wantCheck(t, "one that may not be", r, api.ErrState)
				wantEncode(t, "one that may not be", r, nil, api.ErrState)
			}
			if at != 0 {
				r := journal.Record{Seq: 1, Pages: spread(pagesOf(count, mixed), 4)}
				r.Pages[at].Number = r.Pages[at-1].Number
				wantCheck(t, "two alike", r, api.ErrState)
				r.Pages[at].Number--
				wantCheck(t, "one below", r, api.ErrState)
				r.Pages[at].Number += 2
				wantCheck(t, "the next", r, api.OK)
			}
		}
	}
}

// lists has all lists of up to most out of these.
func lists[T any](most int, of []T) [][]T {
	all := [][]T{nil}
	for from := 0; most > 0; most-- {
		end := len(all)
		for _, l := range all[from:end] {
			for _, x := range of {
				all = append(all, append(append([]T{}, l...), x))
			}
		}
		from = end
	}
	return all
}

// P15.1: up to three pages, each at an edge, held against the chapter's
// words; what Check takes Encode takes, and nothing else.
func TestCheckEverySmallOne(t *testing.T) {
	var pages []api.Page
	for _, number := range []int{-1, 0, 1, 2, 3, 2047, 2048, 2049} {
		for _, length := range []int{0, 63, 64} {
			pages = append(pages, api.Page{Number: number, Data: full(number)[:length]})
		}
	}
	taken := 0
	for _, l := range lists(3, pages) {
		r := journal.Record{Seq: 5, Root: 6, Room: 7, Pages: l}
		wantCheck(t, "a small one", r, wanted(r))
		if wanted(r) != api.OK {
			wantEncode(t, "a small one", r, nil, api.ErrState)
			continue
		}
		taken++
		wantEncode(t, "a small one", r, octetsOf(r), api.OK)
		wantDecode(t, "a small one", octetsOf(r), r, len(octetsOf(r)), api.OK)
	}
	if taken == 0 {
		t.Error("the test's own records may none of them be")
	}
}

// P15.1: numbers at their edges, with each other.
func TestCheckOfNumbers(t *testing.T) {
	for _, seq := range []int{math.MinInt, -1, 0, 1, 2, 1 << 40, 1<<40 + 1, math.MaxInt} {
		for _, root := range []int{math.MinInt, -1, 0, 1, 2048, 2049, math.MaxInt} {
			for _, room := range []int{math.MinInt, -1, 0, 1, 1 << 16, 1<<16 + 1, math.MaxInt} {
				r := journal.Record{Seq: seq, Root: root, Room: room}
				wantCheck(t, "numbers", r, wanted(r))
				if wanted(r) == api.OK {
					wantEncode(t, "numbers", r, octetsOf(r), api.OK)
				} else {
					wantEncode(t, "numbers", r, nil, api.ErrState)
				}
			}
		}
	}
}

// P15.1, P1: very many pages, and very many octets.
func TestCheckOfVeryMany(t *testing.T) {
	many := journal.Record{Seq: 1, Pages: pagesOf(1<<20, empty)}
	for _, count := range []int{257, 512, 1 << 16, 1<<16 + 1, 1<<16 + 256, 1 << 20} {
		r := many
		r.Pages = many.Pages[:count]
		wantCheck(t, "many pages", r, api.ErrState)
		wantEncode(t, "many pages", r, nil, api.ErrState)
	}
	long := journal.Record{Seq: 1, Pages: []api.Page{{Number: 1, Data: make([]byte, 1<<24)}}}
	wantCheck(t, "a long page", long, api.ErrState)
	wantEncode(t, "a long page", long, nil, api.ErrState)
}
