package journal_test

import (
	"bytes"
	"fmt"
	"slices"
	"testing"

	"flagstone/api"
	"flagstone/journal"
)

// roomy is a copy with memory behind its end, in which a call might write.
func roomy[T any](l []T, behind T) []T {
	out := append(make([]T, 0, len(l)+70), l...)
	return append(out, slices.Repeat([]T{behind}, 70)...)[:len(l)]
}

func whole[T any](l []T) []T {
	return l[:cap(l)]
}

// roomyRecord is a copy of r each of whose lists has memory behind it, those
// that are empty too.
func roomyRecord(r journal.Record) journal.Record {
	r.Pages = roomy(r.Pages, api.Page{Number: 77})
	for i := range whole(r.Pages) {
		page := &whole(r.Pages)[i]
		page.Data = roomy(page.Data, 0xe1)
	}
	return r
}

// deep is a copy of all that r reaches, also of what is behind its ends.
func deep(r journal.Record) journal.Record {
	r.Pages = slices.Clone(whole(r.Pages))
	for i := range r.Pages {
		r.Pages[i].Data = slices.Clone(whole(r.Pages[i].Data))
	}
	return r
}

func spoilOctets(b []byte) {
	for i := range whole(b) {
		whole(b)[i] ^= 0x55
	}
}

// spoil makes all of r, and of what is behind its ends, another thing.
func spoil(r journal.Record) {
	for i, p := range whole(r.Pages) {
		spoilOctets(p.Data)
		whole(r.Pages)[i] = api.Page{Number: -7}
	}
}

func spoilAll(all []journal.Record) {
	for i, r := range whole(all) {
		spoil(r)
		whole(all)[i] = journal.Record{Seq: -7}
	}
}

// asked is what calls are given.
type asked struct {
	record journal.Record
	octets []byte
	next   int
}

func (x asked) roomy() asked {
	return asked{roomyRecord(x.record), roomy(x.octets, 0xe2), x.next}
}

func (x asked) deep() asked {
	return asked{deep(x.record), bytes.Clone(whole(x.octets)), x.next}
}

func (x asked) spoil() {
	spoil(x.record)
	spoilOctets(x.octets)
}

func sameAsked(a, b asked) bool {
	return alike(a.record, b.record) && bytes.Equal(a.octets, b.octets) && a.next == b.next
}

// answers is what all calls answer of one thing that is asked.
type answers struct {
	encoded []byte
	decoded journal.Record
	scanned []journal.Record
	rest    string
}

func answersOf(x asked) answers {
	var a answers
	var errs [3]api.Errno
	var sizes [2]int
	errs[0] = journal.Check(x.record)
	a.encoded, errs[1] = journal.Encode(x.record)
	a.decoded, sizes[0], errs[2] = journal.Decode(x.octets)
	a.scanned, sizes[1] = journal.Scan(x.octets, x.next)
	a.rest = fmt.Sprint(errs, sizes)
	return a
}

func (a answers) spoil() {
	spoilOctets(a.encoded)
	spoil(a.decoded)
	spoilAll(a.scanned)
}

func sameAnswers(a, b answers) bool {
	return bytes.Equal(a.encoded, b.encoded) && alike(a.decoded, b.decoded) && allAlike(a.scanned, b.scanned) && a.rest == b.rest
}

// someAsked has all that calls take, and such as they refuse.
func someAsked() map[string]asked {
	out := map[string]asked{}
	for _, some := range []map[string]journal.Record{recordsThatMayBe(), recordsThatMayNotBe()} {
		for name, r := range some {
			out[name] = asked{r, octetsOf(r), r.Seq}
			out[name+", cut off"] = asked{r, octetsOf(r)[:len(octetsOf(r))-1], r.Seq}
			next := r
			next.Seq++
			out[name+", twice"] = asked{r, rowOf(r, next), r.Seq}
		}
	}
	b := rowOf(rowFrom(5)...)
	out["a row"] = asked{ordinary(), b, 5}
	out["a row, another next"] = asked{ordinary(), b, 6}
	out["a row, spoilt"] = asked{ordinary(), append(bytes.Clone(b[:300]), make([]byte, 300)...), 5}
	out["nothing"] = asked{}
	out["another mark"] = asked{ordinary(), []byte("fsj2"), 5}
	return out
}

// P15.4, P2: neither what is handed in nor the memory behind it is changed,
// be it taken or refused, and a change of an answer is not seen in it.
func TestArgumentsStay(t *testing.T) {
	for name, from := range someAsked() {
		x := from.roomy()
		before := x.deep()
		a := answersOf(x)
		if !sameAsked(x.deep(), before) {
			t.Errorf("P15.4: %s: what was handed in changed", name)
		}
		a.spoil()
		if !sameAsked(x.deep(), before) {
			t.Errorf("P15.4: %s: an answer is the memory of what was handed in", name)
		}
	}
}

// P15.4, P2: what becomes of the arguments later is not seen in an answer.
func TestAnswersKeepNoArgument(t *testing.T) {
	for name, from := range someAsked() {
		want := answersOf(from)
		x := from.roomy()
		got := answersOf(x)
		x.spoil()
		if !sameAnswers(got, want) {
			t.Errorf("P15.4: %s: an answer keeps what was handed in", name)
		}
	}
}

// P15.4, P2, P3: two answers share nothing, and hang on the arguments alone;
// calls of others, taken or refused, are not seen in them.
func TestAnswersShareNothing(t *testing.T) {
	for name, x := range someAsked() {
		first := answersOf(x)
		second := answersOf(x)
		want := answersOf(x.roomy())
		first.spoil()
		answersOf(asked{ordinary(), octetsOf(ordinary()), 9})
		answersOf(asked{})
		third := answersOf(x)
		if !sameAnswers(second, want) || !sameAnswers(third, want) {
			t.Errorf("P15.4: %s: answers share memory, or hang on other calls", name)
		}
	}
}

// listsOf is all lists of octets of an answer.
func (a answers) listsOf() [][]byte {
	out := [][]byte{a.encoded}
	for _, r := range append([]journal.Record{a.decoded}, a.scanned...) {
		for _, p := range r.Pages {
			out = append(out, p.Data)
		}
	}
	return out
}

// P15.4, P2: no two lists of one answer share memory, that behind their ends
// neither.
func TestListsOfAnAnswerAreApart(t *testing.T) {
	for name, x := range someAsked() {
		lists := answersOf(x).listsOf()
		before := make([][]byte, len(lists))
		for i, l := range lists {
			before[i] = bytes.Clone(whole(l))
		}
		for i, l := range lists {
			spoilOctets(l)
			for j, other := range lists {
				if j > i && !bytes.Equal(whole(other), before[j]) {
					t.Fatalf("P15.4: %s: two lists of octets share memory", name)
				}
				if j > i+3 {
					break
				}
			}
		}
		wantPagesApart(t, name, answersOf(x).scanned)
	}
}

// wantPagesApart spoils the pages of each record, and asks for all behind it.
func wantPagesApart(t *testing.T, name string, all []journal.Record) {
	t.Helper()
	var before []journal.Record
	for _, r := range all {
		before = append(before, deep(r))
	}
	for i, r := range all {
		spoil(r)
		for j := i + 1; j < len(all); j++ {
			if !alike(deep(all[j]), before[j]) {
				t.Errorf("P15.4: %s: two records share memory", name)
			}
		}
	}
}

// P1: nil and empty lists are one.
func TestNilAndEmptyAreOne(t *testing.T) {
	for _, r := range []journal.Record{{Seq: 3}, {Seq: 3, Pages: []api.Page{}}, {}, {Pages: []api.Page{}}} {
		bare := r
		bare.Pages = nil
		if got, want := answersOf(asked{r, []byte{}, 3}), answersOf(asked{bare, nil, 3}); !sameAnswers(got, want) {
			t.Errorf("P1: an empty list: %+v; want %+v", got, want)
		}
	}
	a, err1 := journal.Encode(journal.Record{Seq: 1, Pages: []api.Page{{Number: 4}}})
	b, err2 := journal.Encode(journal.Record{Seq: 1, Pages: []api.Page{{Number: 4, Data: []byte{}}}})
	if !bytes.Equal(a, b) || err1 != api.OK || err2 != api.OK {
		t.Errorf("P1: an empty page: % x, % x, %d, %d", a, b, err1, err2)
	}
}
