package reloc_test

import (
	"fmt"
	"slices"
	"testing"

	"flagstone/api"
	"flagstone/free"
	"flagstone/reloc"
	"flagstone/volume"
)

// roomy is a copy with memory behind its end, in which a call might write.
func roomy[T any](l []T, behind T) []T {
	out := append(make([]T, 0, len(l)+3), l...)
	return append(out, behind, behind, behind)[:len(l)]
}

func whole[T any](l []T) []T {
	return l[:cap(l)]
}

func roomyMap(l []api.Extent) []api.Extent {
	return roomy(l, api.Extent{Virt: 70, Phys: 71, Len: 72})
}

// roomyState is a copy of s each of whose lists has memory behind it, those
// that are empty too.
func roomyState(s volume.State) volume.State {
	out := s
	out.Now = roomyMap(s.Now)
	out.Snaps = roomy(s.Snaps, volume.Snap{ID: 77, Name: "behind"})
	for i := range whole(out.Snaps) {
		snap := &whole(out.Snaps)[i]
		snap.List = roomyMap(snap.List)
	}
	out.Free.Spans = roomy(s.Free.Spans, span(73, 74))
	out.Data = roomy(s.Data, octets(0xe1))
	for i := range whole(out.Data) {
		whole(out.Data)[i] = roomy(whole(out.Data)[i], 0xe2)
	}
	return out
}

// deep is a copy of all that s reaches, also of what is behind its ends.
func deep(s volume.State) volume.State {
	out := s
	out.Now = slices.Clone(whole(s.Now))
	out.Snaps = slices.Clone(whole(s.Snaps))
	for i := range out.Snaps {
		out.Snaps[i].List = slices.Clone(whole(out.Snaps[i].List))
	}
	out.Free.Spans = slices.Clone(whole(s.Free.Spans))
	out.Data = slices.Clone(whole(s.Data))
	for i := range out.Data {
		out.Data[i] = slices.Clone(whole(out.Data[i]))
	}
	return out
}

// spoilAll makes all of l, and of what is behind its end, another thing.
func spoilAll[T any](l []T, with T) {
	for i := range whole(l) {
		whole(l)[i] = with
	}
}

func spoilMap(l []api.Extent) {
	spoilAll(l, api.Extent{Virt: -7, Phys: -7, Len: -7})
}

func spoilOctets(b []byte) {
	for i := range whole(b) {
		whole(b)[i] ^= 0x55
	}
}

func spoil(s volume.State) {
	spoilMap(s.Now)
	for _, snap := range whole(s.Snaps) {
		spoilMap(snap.List)
	}
	spoilAll(s.Snaps, volume.Snap{ID: -7, Name: "spoilt"})
	spoilAll(s.Free.Spans, span(-7, -7))
	for _, b := range whole(s.Data) {
		spoilOctets(b)
	}
	spoilAll(s.Data, octets(0xe4))
}

// answers is what all calls answer of one state and move.
type answers struct {
	moved, compacted, defragmented volume.State
	rest                           string
}

func answersOf(s volume.State, x api.Span, to int) answers {
	var a answers
	var errs [5]api.Errno
	var did [3]bool
	a.moved, errs[0] = reloc.Move(s, x, to)
	a.compacted, did[0], errs[1] = reloc.Compact(s)
	a.defragmented, did[1], errs[2] = reloc.Defragment(s)
	var victim api.Span
	var place, n int
	victim, place, did[2], errs[3] = reloc.Victim(s)
	n, errs[4] = reloc.Pieces(s)
	a.rest = fmt.Sprint(errs, did, victim, place, n)
	return a
}

func (a answers) states() []volume.State {
	return []volume.State{a.moved, a.compacted, a.defragmented}
}

func (a answers) spoil() {
	for _, s := range a.states() {
		spoil(s)
	}
}

func (a answers) told() string {
	return fmt.Sprint(told(a.moved), "; ", told(a.compacted), "; ", told(a.defragmented), "; ", a.rest)
}

func sameAnswers(a, b answers) bool {
	return slices.EqualFunc(a.states(), b.states(), same) && a.rest == b.rest
}

// pair is a volume with all steps to be done.
func pair() volume.State {
	return made(16, at(0, 10, 2, 2, 7, 2), snapped(1, at(0, 9, 3)), snapped(2, nil), snapped(3, at(2, 7, 1)))
}

// memoryStates has states that may be, of which some have nothing to be done
// or no space for it, and such as may not be.
func memoryStates() []volume.State {
	out := []volume.State{
		ordinary(), pair(), made(4, nil), made(0, nil), made(3, at(0, 0, 3)),
		made(1100, crowded(1024)), fenced(1024), made(14, at(0, 5, 2, 2, 6, 2)),
	}
	for _, name := range []string{"names alike", "neither", "1025 extents", "a data sector more", "a sector of 63"} {
		out = append(out, badStates()[name])
	}
	return out
}

// someMoves has moves that are done of one state or another, and such as are
// refused.
func someMoves() map[api.Span]int {
	return map[api.Span]int{
		span(10, 2): 12, span(10, 1): 1, span(7, 2): 3, span(2, 4): 12, span(9, 3): 0, span(11, 1): 3, span(12, 2): 3,
		span(0, 0): 0, span(-1, 2): 3, span(1, 1): 7, span(3, 1): 3, span(2, 5): 9,
	}
}

// P12.5, P2: neither what is handed in nor the memory behind it is changed,
// be it done or refused, and a change of an answer is not seen in it.
func TestArgumentsStay(t *testing.T) {
	for _, from := range memoryStates() {
		for x, to := range someMoves() {
			s := roomyState(from)
			before := deep(s)
			a := answersOf(s, x, to)
			if !same(deep(s), before) {
				t.Errorf("P12.5: of %s, %v to %d: a call changes what is handed in", told(from), x, to)
			}
			a.spoil()
			if !same(deep(s), before) {
				t.Errorf("P12.5: of %s, %v to %d: a call answers the argument's memory", told(from), x, to)
			}
		}
	}
}

// P12.5, P2: what becomes of the arguments, or of another answer, later is
// not seen in an answer.
func TestAnswersKeepNoArgument(t *testing.T) {
	for _, from := range memoryStates() {
		for x, to := range someMoves() {
			s := roomyState(from)
			want := answersOf(roomyState(from), x, to)
			a, other := answersOf(s, x, to), answersOf(s, x, to)
			spoil(s)
			other.spoil()
			if !sameAnswers(a, want) {
				t.Errorf("P12.5: of %s, %v to %d: a call keeps what is handed in, or what it answered", told(from), x, to)
			}
		}
	}
}

// wantApart spoils one list after another, and asks that no other one sees it.
func wantApart[T comparable](t *testing.T, what string, lists [][]T, spoil func(l []T)) {
	t.Helper()
	for i := range lists {
		var before [][]T
		for _, l := range lists {
			before = append(before, slices.Clone(whole(l)))
		}
		spoil(lists[i])
		for k := range lists {
			if k != i && !slices.Equal(whole(lists[k]), before[k]) {
				t.Errorf("P12.5: %s: lists %d and %d of the answer share memory", what, i, k)
			}
		}
	}
}

// sharing is a volume all of whose lists that may share their memory do.
func sharing() volume.State {
	l, b := at(0, 10, 2, 2, 7, 2), octets(6)
	s := made(16, l, snapped(1, l), snapped(2, l))
	for i := range s.Data {
		s.Data[i] = b
	}
	return s
}

// P12.5, P2: no two lists of an answer share memory, even where those of the
// argument do, and the sectors that are moved none with where they were.
func TestListsOfAnAnswerShareNone(t *testing.T) {
	for x, to := range someMoves() {
		for i, s := range answersOf(sharing(), x, to).states() {
			maps := [][]api.Extent{s.Now}
			for _, snap := range whole(s.Snaps) {
				maps = append(maps, snap.List)
			}
			wantApart(t, fmt.Sprint("answer ", i), maps, spoilMap)
			wantApart(t, fmt.Sprint("answer ", i), s.Data, spoilOctets)
		}
	}
	if got := answersOf(sharing(), span(10, 2), 12); got.rest != "[0 0 0 0 0] [true true true] {10 2} 0 2" {
		t.Error("the test's own volume:", got.rest)
	}
}

// P1: nil and empty lists are one.
func TestNilAndEmpty(t *testing.T) {
	empty := volume.State{
		Size: 8, Now: []api.Extent{}, Snaps: []volume.Snap{{ID: 1, Name: "a", List: []api.Extent{}}}, Next: 2,
		Free: free.State{Spans: []api.Span{}}, Data: [][]byte{},
	}
	none := volume.State{Size: 8, Snaps: []volume.Snap{{ID: 1, Name: "a"}}, Next: 2}
	used := made(9, at(0, 5, 1))
	used.Snaps = []volume.Snap{}
	for x, to := range someMoves() {
		if a, b := answersOf(none, x, to), answersOf(empty, x, to); !sameAnswers(a, b) {
			t.Errorf("P1: of nil and of empty lists: %s; %s", a.told(), b.told())
		}
		if a, b := answersOf(made(9, at(0, 5, 1)), x, to), answersOf(used, x, to); !sameAnswers(a, b) {
			t.Errorf("P1: of nil and of empty snapshots: %s; %s", a.told(), b.told())
		}
	}
}
