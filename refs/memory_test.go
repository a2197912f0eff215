package refs_test

import (
	"slices"
	"testing"

	"flagstone/api"
	"flagstone/refs"
)

// roomy has memory behind its end, in which a call might write.
func roomy[T any](l []T) []T {
	out := append(make([]T, 0, len(l)+8), l...)
	return append(out, make([]T, 8)...)[:len(l)]
}

// roomyMaps has such memory behind m and each list of it.
func roomyMaps(m []refs.Map) []refs.Map {
	out := roomy(m)
	for i := range out {
		out[i].List = roomy(out[i].List)
	}
	return out
}

// whole is l with the memory behind its end.
func whole[T any](l []T) []T {
	return l[:cap(l)]
}

// wholeMaps is a copy of all that m has, with the memory behind its ends.
func wholeMaps(m []refs.Map) []refs.Map {
	out := slices.Clone(whole(m))
	for i := range out {
		out[i].List = slices.Clone(whole(out[i].List))
	}
	return out
}

// spoil makes all that l has, and the memory behind its end, another thing.
func spoil[T any](l []T, with T) {
	for i := range whole(l) {
		whole(l)[i] = with
	}
}

func spoilMaps(m []refs.Map) {
	for _, x := range whole(m) {
		spoil(x.List, api.Extent{Virt: -7, Phys: -7, Len: -7})
	}
	spoil(m, refs.Map{Owner: -7})
}

// answer is what all calls answer of one list of maps.
type answer struct {
	counts      []refs.Count
	refs        []refs.Ref
	who, all    []refs.Ref
	used        []api.Span
	shared, not bool
	err         [7]api.Errno
}

func answersOf(m []refs.Map) answer {
	var a answer
	a.err[0] = refs.Check(m)
	a.counts, a.err[1] = refs.Counts(m)
	a.refs, a.err[2] = refs.Refs(m)
	a.who, a.err[3] = refs.Who(m, span(41, 61))
	a.all, _ = refs.Who(m, everywhere())
	a.used, a.err[4] = refs.Used(m)
	a.shared, a.err[5] = refs.Shared(m, span(50, 1))
	a.not, a.err[6] = refs.Shared(m, span(40, 3))
	return a
}

func (a answer) spoil() {
	spoil(a.counts, refs.Count{At: -7})
	spoil(a.used, span(-7, -7))
	for _, l := range [][]refs.Ref{a.refs, a.who, a.all} {
		spoil(l, refs.Ref{Phys: -7})
	}
}

func (a answer) equals(b answer) bool {
	return slices.Equal(a.counts, b.counts) && slices.Equal(a.refs, b.refs) && slices.Equal(a.who, b.who) && slices.Equal(a.all, b.all) &&
		slices.Equal(a.used, b.used) && a.shared == b.shared && a.not == b.not && a.err == b.err
}

// P9.4, P2: neither what is handed in nor the memory behind it is changed,
// be it taken or refused.
func TestArgumentsStay(t *testing.T) {
	for _, some := range []map[string][]refs.Map{mapsThatMayBe(), mapsThatMayNotBe()} {
		for name, from := range some {
			m := roomyMaps(from)
			before := wholeMaps(m)
			answersOf(m)
			if !same(wholeMaps(m), before) || len(m) != len(from) {
				t.Errorf("P9.4: an argument changed, %s: %s; want %s", name, toldMaps(m), toldMaps(from))
			}
		}
	}
}

// P9.4, P2: what becomes of the maps later is not seen in an answer, nor what
// becomes of an answer in the maps.
func TestAnswersShareNoArgument(t *testing.T) {
	want := answersOf(ordinary())
	m := roomyMaps(ordinary())
	before := wholeMaps(m)
	answersOf(m).spoil()
	if !same(wholeMaps(m), before) {
		t.Errorf("P9.4: an answer is the argument's memory: %s", toldMaps(m))
	}
	got := answersOf(m)
	spoilMaps(m)
	if !got.equals(want) {
		t.Errorf("P9.4: an answer is the argument's memory: %v; want %v", got, want)
	}
}

// P9.4, P2, P3: two answers share nothing, and hang on the arguments alone.
func TestAnswersShareNothing(t *testing.T) {
	m := ordinary()
	first, second := answersOf(m), answersOf(m)
	want := answersOf(ordinary())
	first.spoil()
	for _, other := range mapsThatMayBe() {
		answersOf(other)
	}
	if third := answersOf(m); !second.equals(want) || !third.equals(want) {
		t.Errorf("P9.4: %v, then %v; want %v", second, third, want)
	}
}

// backLists has lists that Back takes, and such as it refuses.
func backLists() map[string][]refs.Ref {
	return map[string][]refs.Ref{
		"ordinary":        reversed(plainWho(ordinary(), everywhere())),
		"one":             owners(3),
		"none":            nil,
		"neighbours":      neighbours(3, 20),
		"many":            singles(3, 1024),
		"no owner":        owners(0, -1, 3),
		"refused":         refsOf(quads{{9, 3, 5, 20}, {5, 0, 2, 9}, {1, 1, 1, 1}}),
		"told twice":      append(owners(9, 8, 7), twice(3)...),
		"too many owners": reversed(owners(from(0, 10)...)),
		"too many":        neighbours(8, 4097),
	}
}

// P9.4, P2: Back leaves its list as it was, in its order.
func TestBackLeavesItsList(t *testing.T) {
	for name, from := range backLists() {
		l := roomy(from)
		before := slices.Clone(whole(l))
		want, wantErr := refs.Back(from)
		got, err := refs.Back(l)
		if !slices.Equal(whole(l), before) {
			t.Errorf("P9.4: Back's argument changed, %s: %s; want %s", name, told(l), told(from))
		}
		spoil(l, refs.Ref{Phys: -7, Owner: -7})
		if !same(got, want) || err != wantErr {
			t.Errorf("P9.4: Back, %s: the answer is the argument's memory: %s, %d", name, toldMaps(got), err)
		}
	}
}

// P9.4, P2, P3: two answers of Back share nothing, nor do two lists of one.
func TestBacksAnswersShareNothing(t *testing.T) {
	for name, l := range backLists() {
		first, _ := refs.Back(l)
		second, _ := refs.Back(l)
		want := wholeMaps(second)
		spoilMaps(first)
		if !same(wholeMaps(second), want) {
			t.Errorf("P9.4: Back, %s: two answers share memory", name)
		}
		for i := range second {
			spoil(second[i].List, api.Extent{Virt: -7})
			for k := i + 1; k < len(second); k++ {
				if !slices.Equal(whole(second[k].List), want[k].List) {
					t.Errorf("P9.4: Back, %s: lists %d and %d of one answer share memory", name, i, k)
				}
			}
		}
	}
}

// P9.4, P2: what Back answers is not the memory of what it was made from, and
// Refs of it is new again.
func TestThereAndBackSharesNothing(t *testing.T) {
	m := ordinary()
	l, _ := refs.Refs(m)
	back, _ := refs.Back(l)
	spoilMaps(m)
	spoil(l, refs.Ref{Phys: -7, Owner: -7})
	if !same(back, notEmpty(ordinary())) {
		t.Errorf("P9.4: Back of Refs shares memory: %s", toldMaps(back))
	}
}
