package volume_test

import (
	"bytes"
	"slices"
	"testing"

	"flagstone/api"
	"flagstone/free"
	"flagstone/model"
	"flagstone/refs"
	"flagstone/volume"
)

// roomy is a copy with memory behind its end, in which a call might write.
func roomy[T any](l []T, behind T) []T {
	out := append(make([]T, 0, len(l)+3), l...)
	return append(out, behind, behind, behind)[:len(l)]
}

func whole[T any](l []T) []T {
	return l[:cap(l)]
}

func roomyMap(l []api.Extent) []api.Extent {
	return roomy(l, api.Extent{Virt: 70, Phys: 71, Len: 72})
}

// roomyState is a copy of s each of whose lists has memory behind it, those
// that are empty too.
func roomyState(s volume.State) volume.State {
	out := s
	out.Now = roomyMap(s.Now)
	out.Snaps = roomy(s.Snaps, volume.Snap{ID: 77, Name: "behind"})
	for i := range whole(out.Snaps) {
		snap := &whole(out.Snaps)[i]
		snap.List = roomyMap(snap.List)
	}
	out.Free.Spans = roomy(s.Free.Spans, api.Span{At: 73, Len: 74})
	out.Data = roomy(s.Data, octets(0xe1))
	for i := range whole(out.Data) {
		whole(out.Data)[i] = roomy(whole(out.Data)[i], 0xe2)
	}
	return out
}

// deep is a copy of all that s reaches, also of what is behind its ends.
func deep(s volume.State) volume.State {
	out := s
	out.Now = slices.Clone(whole(s.Now))
	out.Snaps = slices.Clone(whole(s.Snaps))
	for i := range out.Snaps {
		out.Snaps[i].List = slices.Clone(whole(out.Snaps[i].List))
	}
	out.Free.Spans = slices.Clone(whole(s.Free.Spans))
	out.Data = slices.Clone(whole(s.Data))
	for i := range out.Data {
		out.Data[i] = slices.Clone(whole(out.Data[i]))
	}
	return out
}

// spoilAll makes all of l, and of what is behind its end, another thing.
func spoilAll[T any](l []T, with T) {
	for i := range whole(l) {
		whole(l)[i] = with
	}
}

func spoilMap(l []api.Extent) {
	spoilAll(l, api.Extent{Virt: -7, Phys: -7, Len: -7})
}

func spoilOctets(b []byte) {
	for i := range whole(b) {
		whole(b)[i] ^= 0x55
	}
}

func spoilSectors(of [][]byte) {
	for _, b := range whole(of) {
		spoilOctets(b)
	}
	spoilAll(of, octets(0xe4))
}

func spoil(s volume.State) {
	spoilMap(s.Now)
	for _, snap := range whole(s.Snaps) {
		spoilMap(snap.List)
	}
	spoilAll(s.Snaps, volume.Snap{ID: -7, Name: "spoilt"})
	spoilAll(s.Free.Spans, api.Span{At: -7, Len: -7})
	spoilSectors(s.Data)
}

func spoilModel(m model.State) {
	spoilSectors(m.Now)
	for _, snap := range whole(m.Snaps) {
		spoilSectors(snap.Disk)
	}
	spoilAll(m.Snaps, model.Snap{ID: -7, Name: "spoilt"})
}

func spoilReply(r model.Reply) {
	spoilOctets(r.Data)
	spoilAll(r.List, model.Named{ID: -7, Name: "spoilt"})
}

func spoilMaps(m []refs.Map) {
	for _, x := range whole(m) {
		spoilMap(x.List)
	}
	spoilAll(m, refs.Map{Owner: -7})
}

// answers is what all calls answer of one state and op.
type answers struct {
	err   api.Errno
	maps  []refs.Map
	reads [][]byte
	after volume.State
	reply model.Reply
	model model.State
}

func answersOf(s volume.State, x model.Op) answers {
	a := answers{err: volume.Check(s)}
	a.maps, _ = volume.Maps(s)
	for owner := range 3 {
		b, _ := volume.Read(s, owner, 0, 2)
		a.reads = append(a.reads, b)
	}
	a.after, a.reply = volume.Do(s, x)
	a.model, _ = volume.Model(s)
	return a
}

func (a answers) spoil() {
	spoilMaps(a.maps)
	spoilSectors(a.reads)
	spoil(a.after)
	spoilReply(a.reply)
	spoilModel(a.model)
}

func sameAnswers(a, b answers) bool {
	return a.err == b.err && sameMaps(a.maps, b.maps) && sameSectors(a.reads, b.reads) &&
		same(a.after, b.after) && sameReply(a.reply, b.reply) && sameModel(a.model, b.model)
}

// someOps has ops of each kind that are done, and such as are refused.
func someOps() []model.Op {
	out := []model.Op{
		{What: write, At: 1, Data: octets(1)}, {What: write, Data: octets(1, 0, 2)}, {What: write, Data: octets(1, 2, 3, 4, 5, 6, 7, 8)},
		{What: read, N: 8}, {What: read, At: 2}, {What: read, At: 1, N: 1},
		{What: discard, N: 8}, {What: discard, At: 3, N: 1}, {What: discard, At: 3},
		{What: snapshot, Name: "new"}, {What: remove, ID: 1}, {What: remove, ID: 9}, {What: revert, ID: 1}, {What: revert, ID: 2},
		{What: list}, {What: resize, N: 0}, {What: resize, N: 1}, {What: resize, N: 8}, {What: resize, N: 20},
	}
	for _, x := range wrongOps() {
		out = append(out, x)
	}
	return out
}

// memoryStates has states that may be, of which one has no room and one has
// no space, and such as may not.
func memoryStates() []volume.State {
	out := []volume.State{
		ordinary(),
		made(20, 8, nil),
		made(3, 8, at(0, 0, 3), volume.Snap{ID: 1, Name: "a", Size: 3, List: at(0, 0, 3)}),
		made(9, 8, at(0, 8, 1), snapped(8)...),
		made(3*1024+1, 8192, striped(1024, 3, 0)),
	}
	for _, name := range []string{"9 snapshots", "a map beyond its size", "neither", "a data sector more", "a sector of 63"} {
		out = append(out, badStates()[name])
	}
	return out
}

// P11.5, P2: neither what is handed in nor the memory behind it is changed,
// be it taken or refused, and a change of an answer is not seen in it.
func TestArgumentsStay(t *testing.T) {
	for _, from := range memoryStates() {
		for _, x := range someOps() {
			s := roomyState(from)
			x.Data = roomy(x.Data, 0xe5)
			before, data := deep(s), slices.Clone(whole(x.Data))
			a := answersOf(s, x)
			if !same(deep(s), before) || !bytes.Equal(whole(x.Data), data) {
				t.Errorf("P11.5: of %s, %s: a call changes what is handed in", told(from), toldOp(x))
			}
			a.spoil()
			if !same(deep(s), before) || !bytes.Equal(whole(x.Data), data) {
				t.Errorf("P11.5: of %s, %s: a call answers the argument's memory", told(from), toldOp(x))
			}
		}
	}
}

// P11.5, P2: what becomes of the arguments, or of another answer, later is
// not seen in an answer.
func TestAnswersKeepNoArgument(t *testing.T) {
	for _, from := range memoryStates() {
		for _, x := range someOps() {
			s := roomyState(from)
			x.Data = roomy(x.Data, 0xe5)
			want := answersOf(roomyState(from), x)
			a, other := answersOf(s, x), answersOf(s, x)
			spoil(s)
			spoilOctets(x.Data)
			other.spoil()
			if !sameAnswers(a, want) {
				t.Errorf("P11.5: of %s, %s: a call keeps what is handed in, or what it answered", told(from), toldOp(x))
			}
		}
	}
}

// wantApart spoils one list after another, and asks that no other one sees it.
func wantApart[T comparable](t *testing.T, what string, lists [][]T, spoil func(l []T)) {
	t.Helper()
	for i := range lists {
		var before [][]T
		for _, l := range lists {
			before = append(before, slices.Clone(whole(l)))
		}
		spoil(lists[i])
		for k := range lists {
			if k != i && !slices.Equal(whole(lists[k]), before[k]) {
				t.Errorf("P11.5: %s: lists %d and %d of the answer share memory", what, i, k)
			}
		}
	}
}

// sharing has a state all of whose lists that may share their memory do.
func sharing() volume.State {
	l, b := at(0, 1, 3), octets(6)
	s := made(6, 8, l, volume.Snap{ID: 1, Name: "a", Size: 3, List: l}, volume.Snap{ID: 2, Name: "b", Size: 8, List: l})
	for i := range s.Data {
		s.Data[i] = b
	}
	return s
}

// P11.5, P2: no two lists of an answer share memory, even where those of the
// argument do.
func TestListsOfAnAnswerShareNone(t *testing.T) {
	for _, x := range someOps() {
		s := sharing()
		if x.What == write && len(x.Data) == 64 {
			x.Data = s.Data[0]
		}
		a := answersOf(s, x)
		var maps [][]api.Extent
		for _, m := range a.maps {
			maps = append(maps, m.List)
		}
		wantApart(t, "Maps", maps, spoilMap)
		maps = [][]api.Extent{a.after.Now}
		for _, snap := range whole(a.after.Snaps) {
			maps = append(maps, snap.List)
		}
		wantApart(t, toldOp(x), maps, spoilMap)
		wantApart(t, toldOp(x), append(slices.Clone(a.after.Data), a.reply.Data), spoilOctets)
		sectors := slices.Clone(a.model.Now)
		for _, snap := range a.model.Snaps {
			sectors = append(sectors, snap.Disk...)
		}
		wantApart(t, "Model", sectors, spoilOctets)
	}
}

// P11.5, P2: the model's disks are lists of their own, each.
func TestDisksOfAModelShareNone(t *testing.T) {
	m, _ := volume.Model(sharing())
	spoilAll(m.Now, octets(9))
	if !sameSectors(m.Snaps[0].Disk, [][]byte{octets(6), octets(6), octets(6)}) {
		t.Error("P11.5: Model: a snapshot's disk is the disk's memory")
	}
	spoilAll(m.Snaps[0].Disk, octets(9))
	if !sameSectors(m.Snaps[1].Disk[:3], [][]byte{octets(6), octets(6), octets(6)}) {
		t.Error("P11.5: Model: a snapshot's disk is another one's memory")
	}
}

// P11.5, P2: two new volumes share nothing, nor do the sectors of one.
func TestNewSharesNothing(t *testing.T) {
	first, _ := volume.New(4, 3)
	second, _ := volume.New(4, 3)
	wantApart(t, "New", first.Data, spoilOctets)
	spoil(first)
	want := volume.State{Size: 4, Next: 1, Free: free.State{Size: 3, Spans: spans(0, 3)}, Data: [][]byte{make([]byte, 64), make([]byte, 64), make([]byte, 64)}}
	if third, err := volume.New(4, 3); !same(second, want) || !same(third, want) || err != api.OK {
		t.Errorf("P11.5: New: %s, then %s, %d", told(second), told(third), err)
	}
}

// P3: a call hangs on its arguments alone, not on the calls ahead of it, nor
// on what is behind a list's end.
func TestCallsKeepNothing(t *testing.T) {
	for _, x := range someOps() {
		first := answersOf(ordinary(), x)
		for _, y := range someOps()[:19] {
			answersOf(sharing(), y)
		}
		if again := answersOf(roomyState(ordinary()), x); !sameAnswers(again, first) {
			t.Errorf("P3: %s: %s, %s; then %s, %s", toldOp(x), told(first.after), toldReply(first.reply), told(again.after), toldReply(again.reply))
		}
	}
}

// P1: nil and empty lists are one.
func TestNilAndEmpty(t *testing.T) {
	empty := volume.State{
		Size: 8, Now: at(1, 1, 1)[:0], Snaps: []volume.Snap{{ID: 1, Name: "a", List: []api.Extent{}}}, Next: 2,
		Free: free.State{Spans: []api.Span{}}, Data: [][]byte{},
	}
	none := volume.State{Size: 8, Snaps: []volume.Snap{{ID: 1, Name: "a"}}, Next: 2}
	for _, x := range someOps() {
		a := answersOf(none, x)
		if len(x.Data) == 0 {
			x.Data = []byte{}
		}
		if b := answersOf(empty, x); !sameAnswers(a, b) || a.err != api.OK {
			t.Errorf("P1: %s of nil and of empty lists: %s, %s; %s, %s", toldOp(x), told(a.after), toldReply(a.reply), told(b.after), toldReply(b.reply))
		}
	}
}
