package resize_test

import (
	"bytes"
	"fmt"
	"slices"
	"testing"

	"flagstone/api"
	"flagstone/free"
	"flagstone/model"
	"flagstone/resize"
	"flagstone/volume"
)

// roomy is a copy with memory behind its end, in which a call might write.
func roomy[T any](l []T, behind T) []T {
	out := append(make([]T, 0, len(l)+3), l...)
	return append(out, behind, behind, behind)[:len(l)]
}

func whole[T any](l []T) []T {
	return l[:cap(l)]
}

func roomyMap(l []api.Extent) []api.Extent {
	return roomy(l, api.Extent{Virt: 70, Phys: 71, Len: 72})
}

// roomyState is a copy of s each of whose lists has memory behind it, those
// that are empty too.
func roomyState(s volume.State) volume.State {
	out := s
	out.Now = roomyMap(s.Now)
	out.Snaps = roomy(s.Snaps, volume.Snap{ID: 77, Name: "behind"})
	for i := range whole(out.Snaps) {
		snap := &whole(out.Snaps)[i]
		snap.List = roomyMap(snap.List)
	}
	out.Free.Spans = roomy(s.Free.Spans, api.Span{At: 73, Len: 74})
	out.Data = roomy(s.Data, octets(0xe1))
	for i := range whole(out.Data) {
		whole(out.Data)[i] = roomy(whole(out.Data)[i], 0xe2)
	}
	return out
}

func roomyOp(x model.Op) model.Op {
	x.Data = roomy(x.Data, 0xe3)
	return x
}

// deep is a copy of all that s reaches, also of what is behind its ends.
func deep(s volume.State) volume.State {
	out := s
	out.Now = slices.Clone(whole(s.Now))
	out.Snaps = slices.Clone(whole(s.Snaps))
	for i := range out.Snaps {
		out.Snaps[i].List = slices.Clone(whole(out.Snaps[i].List))
	}
	out.Free.Spans = slices.Clone(whole(s.Free.Spans))
	out.Data = slices.Clone(whole(s.Data))
	for i := range out.Data {
		out.Data[i] = slices.Clone(whole(out.Data[i]))
	}
	return out
}

// spoilAll makes all of l, and of what is behind its end, another thing.
func spoilAll[T any](l []T, with T) {
	for i := range whole(l) {
		whole(l)[i] = with
	}
}

func spoilMap(l []api.Extent) {
	spoilAll(l, api.Extent{Virt: -7, Phys: -7, Len: -7})
}

func spoilOctets(b []byte) {
	for i := range whole(b) {
		whole(b)[i] ^= 0x55
	}
}

func spoil(s volume.State) {
	spoilMap(s.Now)
	for _, snap := range whole(s.Snaps) {
		spoilMap(snap.List)
	}
	spoilAll(s.Snaps, volume.Snap{ID: -7, Name: "spoilt"})
	spoilAll(s.Free.Spans, api.Span{At: -7, Len: -7})
	for _, b := range whole(s.Data) {
		spoilOctets(b)
	}
	spoilAll(s.Data, octets(0xe4))
}

// answers is what all calls answer of one state, op and number.
type answers struct {
	grown, cut, done volume.State
	reply            model.Reply
	rest             string
}

func answersOf(s volume.State, x model.Op, n int) answers {
	var a answers
	var errs [3]api.Errno
	var gone, need int
	a.grown, errs[0] = resize.Grow(s, n)
	a.cut, gone, errs[1] = resize.Truncate(s)
	need, errs[2] = resize.Need(s, x)
	a.done, a.reply = resize.Do(s, x, n)
	a.rest = fmt.Sprint(errs, gone, need)
	return a
}

func (a answers) states() []volume.State {
	return []volume.State{a.grown, a.cut, a.done}
}

func (a answers) spoil() {
	for _, s := range a.states() {
		spoil(s)
	}
	spoilOctets(a.reply.Data)
	spoilAll(a.reply.List, model.Named{ID: -7, Name: "spoilt"})
}

func (a answers) told() string {
	return fmt.Sprint(told(a.grown), "; ", told(a.cut), "; ", told(a.done), toldReply(a.reply), "; ", a.rest)
}

func sameAnswers(a, b answers) bool {
	return slices.EqualFunc(a.states(), b.states(), same) && sameReply(a.reply, b.reply) && a.rest == b.rest
}

// memoryStates has states that may be, of which some have nothing to be cut
// off or no space, and such as may not be.
func memoryStates() []volume.State {
	out := []volume.State{
		ordinary(), made(8, 4, nil), made(8, 0, nil), made(8, 8, at(0, 0, 8)), fenced(1024, 0),
		made(2100, 1027, append(at(0, 0, 4), striped(1023, 10, 4, 1)...)),
		made(4, 16, at(0, 2, 4), volume.Snap{ID: 4, Name: "a", Size: 20, List: at(1, 6, 9, 12, 0, 2)}),
	}
	for _, name := range []string{"names alike", "neither", "1025 extents", "a data sector more", "a sector of 63"} {
		out = append(out, badStates()[name])
	}
	return out
}

// memoryOps has ops that are done of one state or another, and such as are
// refused.
func memoryOps() []model.Op {
	return []model.Op{
		writing(1, 2), writing(0, 8), writing(7, 2), {What: write, Data: make([]byte, 63)}, {What: read, N: 8}, {What: read, At: 9}, {What: discard, N: 4},
		{What: snapshot, Name: "new"}, {What: snapshot, Name: "less"}, {What: remove, ID: 4}, {What: revert, ID: 4}, {What: list}, {What: resizing, N: 5},
	}
}

var memoryMosts = []int{-1, 0, 3, 8, 15, 16, 18, 3000, 65537}

// P13.4, P2: neither what is handed in nor the memory behind it is changed,
// be it done or refused, and a change of an answer is not seen in it.
func TestArgumentsStay(t *testing.T) {
	for _, from := range memoryStates() {
		for _, op := range memoryOps() {
			for _, most := range memoryMosts {
				s, x := roomyState(from), roomyOp(op)
				before, data := deep(s), bytes.Clone(whole(x.Data))
				a := answersOf(s, x, most)
				if !same(deep(s), before) || !bytes.Equal(whole(x.Data), data) {
					t.Errorf("P13.4: of %s, %s, %d: a call changes what is handed in", told(from), toldOp(op), most)
				}
				a.spoil()
				if !same(deep(s), before) || !bytes.Equal(whole(x.Data), data) {
					t.Errorf("P13.4: of %s, %s, %d: a call answers the argument's memory", told(from), toldOp(op), most)
				}
			}
		}
	}
}

// P13.4, P2: what becomes of the arguments, or of another answer, later is
// not seen in an answer.
func TestAnswersKeepNoArgument(t *testing.T) {
	for _, from := range memoryStates() {
		for _, op := range memoryOps() {
			for _, most := range memoryMosts {
				s, x := roomyState(from), roomyOp(op)
				want := answersOf(roomyState(from), roomyOp(op), most)
				a, other := answersOf(s, x, most), answersOf(s, x, most)
				spoil(s)
				spoilOctets(x.Data)
				other.spoil()
				if !sameAnswers(a, want) {
					t.Errorf("P13.4: of %s, %s, %d: a call keeps what is handed in, or what it answered", told(from), toldOp(op), most)
				}
			}
		}
	}
}

// wantApart spoils one list after another, and asks that no other one sees it.
func wantApart[T comparable](t *testing.T, what string, lists [][]T, spoil func(l []T)) {
	t.Helper()
	for i := range lists {
		var before [][]T
		for _, l := range lists {
			before = append(before, slices.Clone(whole(l)))
		}
		spoil(lists[i])
		for k := range lists {
			if k != i && !slices.Equal(whole(lists[k]), before[k]) {
				t.Errorf("P13.4: %s: lists %d and %d of the answer share memory", what, i, k)
			}
		}
	}
}

// sharing is a volume all of whose lists that may share their memory do.
func sharing(room int) volume.State {
	l, b := at(0, 1, 2, 2, 0, 1), octets(6)
	s := made(8, room, l, volume.Snap{ID: 1, Name: "a", Size: 8, List: l}, volume.Snap{ID: 4, Name: "b", Size: 8, List: l})
	for i := range s.Data {
		s.Data[i] = b
	}
	return s
}

// P13.4, P2: no two lists of an answer share memory, even where those of the
// argument do, and no two of the new sectors do.
func TestListsOfAnAnswerShareNone(t *testing.T) {
	for _, room := range []int{3, 6} {
		for _, x := range memoryOps() {
			for _, most := range []int{0, 3, 8, 12} {
				a := answersOf(sharing(room), x, most)
				for i, s := range a.states() {
					what := fmt.Sprint(toldOp(x), most, " answer ", i)
					maps := [][]api.Extent{s.Now}
					for _, snap := range whole(s.Snaps) {
						maps = append(maps, snap.List)
					}
					wantApart(t, what, maps, spoilMap)
					wantApart(t, what, append(slices.Clone(whole(s.Data)), x.Data, a.reply.Data), spoilOctets)
				}
			}
		}
	}
	if a := answersOf(sharing(6), writing(0, 8), 12); len(a.grown.Data) != 12 || len(a.cut.Data) != 3 || len(a.done.Data) != 11 {
		t.Error("the test's own volume:", a.told())
	}
}

// P1: nil and empty lists are one.
func TestNilAndEmpty(t *testing.T) {
	empty := volume.State{
		Size: 8, Now: []api.Extent{}, Snaps: []volume.Snap{{ID: 1, Name: "a", List: []api.Extent{}}}, Next: 2,
		Free: free.State{Spans: []api.Span{}}, Data: [][]byte{},
	}
	none := volume.State{Size: 8, Snaps: []volume.Snap{{ID: 1, Name: "a"}}, Next: 2}
	used := made(9, 9, at(0, 5, 1))
	used.Snaps = []volume.Snap{}
	for _, x := range append(memoryOps(), model.Op{What: write, Data: []byte{}}, model.Op{What: write}) {
		y := x
		if len(x.Data) == 0 {
			y.Data = []byte{}
		}
		for _, most := range memoryMosts {
			if a, b := answersOf(none, x, most), answersOf(empty, y, most); !sameAnswers(a, b) {
				t.Errorf("P1: of nil and of empty lists: %s; %s", a.told(), b.told())
			}
			if a, b := answersOf(made(9, 9, at(0, 5, 1)), x, most), answersOf(used, y, most); !sameAnswers(a, b) {
				t.Errorf("P1: of nil and of empty snapshots: %s; %s", a.told(), b.told())
			}
		}
	}
}

// P3: a call hangs on its arguments alone, not on the calls ahead of it.
func TestCallsKeepNothing(t *testing.T) {
	first := answersOf(ordinary(), writing(0, 8), 18)
	for _, s := range memoryStates() {
		for _, x := range memoryOps() {
			answersOf(s, x, 65536)
		}
	}
	if again := answersOf(roomyState(ordinary()), roomyOp(writing(0, 8)), 18); !sameAnswers(again, first) {
		t.Errorf("P3: %s; then %s", first.told(), again.told())
	}
}
