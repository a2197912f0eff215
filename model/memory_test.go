package model_test

import (
	"bytes"
	"slices"
	"testing"

	"flagstone/api"
	"flagstone/model"
)

// roomy has memory behind its end, in which a call might write.
func roomy[T any](l []T, behind T) []T {
	out := append(make([]T, 0, len(l)+3), l...)
	return append(out, behind, behind, behind)[:len(l)]
}

func roomyDisk(of [][]byte) [][]byte {
	var out [][]byte
	for _, b := range of {
		out = append(out, roomy(b, 0xe1))
	}
	return roomy(out, full(64, 0xe2))
}

// roomyState is a copy of s each of whose lists has memory behind it, those
// that are empty too.
func roomyState(s model.State) model.State {
	out := model.State{Now: roomyDisk(s.Now), Next: s.Next}
	for _, snap := range s.Snaps {
		out.Snaps = append(out.Snaps, model.Snap{ID: snap.ID, Name: snap.Name, Disk: roomyDisk(snap.Disk)})
	}
	out.Snaps = roomy(out.Snaps, model.Snap{ID: 77, Name: "behind", Disk: disk(0xe3)})
	return out
}

func whole[T any](l []T) []T {
	return l[:cap(l)]
}

// disks has all of s's lists of sectors.
func disks(s model.State) [][][]byte {
	out := [][][]byte{s.Now}
	for _, snap := range whole(s.Snaps) {
		out = append(out, snap.Disk)
	}
	return out
}

// spread has the octets of all of s's sectors, those behind its lists' ends
// too, and a list with one more for each of its disks, IDs and names.
func spread(s model.State) [][]byte {
	var out [][]byte
	for _, of := range disks(s) {
		for _, b := range whole(of) {
			out = append(out, whole(b))
		}
		out = append(out, []byte{byte(len(of)), byte(cap(of))})
	}
	for _, snap := range whole(s.Snaps) {
		out = append(out, append([]byte(snap.Name), byte(snap.ID)))
	}
	return out
}

func clones(lists [][]byte) [][]byte {
	var out [][]byte
	for _, b := range lists {
		out = append(out, append([]byte{}, b...))
	}
	return out
}

// spoilOctets makes each octet another one, those behind the end too.
func spoilOctets(b []byte) {
	for i := range whole(b) {
		whole(b)[i] ^= 0x55
	}
}

// spoil changes all that s reaches, also what is behind its lists' ends.
func spoil(s model.State) {
	for _, of := range disks(s) {
		for i := range whole(of) {
			spoilOctets(whole(of)[i])
			whole(of)[i] = full(64, 0xe4)
		}
	}
	for i := range whole(s.Snaps) {
		whole(s.Snaps)[i] = model.Snap{ID: -7, Name: "spoilt"}
	}
}

func spoilReply(r model.Reply) {
	spoilOctets(r.Data)
	for i := range whole(r.List) {
		whole(r.List)[i] = model.Named{ID: -7, Name: "spoilt"}
	}
}

func copyOfReply(r model.Reply) model.Reply {
	r.Data, r.List = slices.Clone(r.Data), slices.Clone(r.List)
	return r
}

// memoryStates has states that may be, and such as may not.
func memoryStates() []model.State {
	return []model.State{
		ordinary(),
		{Now: zeros(6), Next: 1},
		{Now: disk(1, 2, 3, 4, 5, 6), Snaps: snapped(8, disk(1, 2, 3, 4)), Next: 9},
		{Now: disk(1, 2), Snaps: snapped(9, disk(1)), Next: 20},
		{Now: [][]byte{full(63, 1), make([]byte, 64)}, Next: 0},
	}
}

// P10.4, P2: neither what is handed in nor the memory behind it is changed,
// be it taken or refused, and a change of an answer is not seen in it.
func TestArgumentsStay(t *testing.T) {
	for _, from := range memoryStates() {
		for _, x := range someOps() {
			s := roomyState(from)
			x.Data = roomy(x.Data, 0xe5)
			before, data := clones(spread(s)), slices.Clone(whole(x.Data))
			after, reply := model.Do(s, x)
			model.Check(s)
			if !sameDisk(spread(s), before) || !bytes.Equal(whole(x.Data), data) {
				t.Errorf("P10.4: Do(%s, %s) changes what is handed in", told(from), toldOp(x))
			}
			spoil(after)
			spoilReply(reply)
			if !sameDisk(spread(s), before) || !bytes.Equal(whole(x.Data), data) {
				t.Errorf("P10.4: Do(%s, %s) answers the argument's memory", told(from), toldOp(x))
			}
		}
	}
}

// P10.4, P2: what becomes of the arguments, or of another answer, later is
// not seen in an answer, nor what becomes of the state in its reply.
func TestAnswersKeepNoArgument(t *testing.T) {
	for _, from := range memoryStates() {
		for _, x := range someOps() {
			s := roomyState(from)
			x.Data = roomy(x.Data, 0xe5)
			after, reply := model.Do(s, x)
			other, otherReply := model.Do(s, x)
			want, wantReply := copyOf(after), copyOfReply(reply)
			spoil(s)
			spoilOctets(x.Data)
			spoil(other)
			spoilReply(otherReply)
			if !same(after, want) || !sameReply(reply, wantReply) {
				t.Errorf("P10.4: Do(%s, %s) keeps what is handed in, or what it answered", told(from), toldOp(x))
			}
			spoil(after)
			if !sameReply(reply, wantReply) {
				t.Errorf("P10.4: Do(%s, %s): the reply is the state's memory", told(from), toldOp(x))
			}
		}
	}
}

// P10.4, P2: no two lists of an answer share memory, even where all of the
// argument's do.
func TestListsOfAnAnswerShareNone(t *testing.T) {
	for _, x := range someOps() {
		sector := full(64, 6)
		shared := [][]byte{sector, sector, nil, sector, sector[:0], sector}
		s := model.State{Now: shared, Next: 10}
		for i, snap := range ordinary().Snaps {
			s.Snaps = append(s.Snaps, model.Snap{ID: snap.ID, Name: snap.Name, Disk: shared[:6-i]})
		}
		if x.What == write {
			x.Data = sector
		}
		after, reply := model.Do(s, x)
		lists := append(spread(after), whole(reply.Data))
		for i := range lists {
			want := clones(lists)
			spoilOctets(lists[i])
			spoilOctets(want[i])
			if !sameDisk(lists, want) {
				t.Errorf("P10.4: %s: list %d of the answer shares memory with another", toldOp(x), i)
			}
		}
		wantSectorsApart(t, x, disks(after))
	}
}

// wantSectorsApart changes which sectors a disk has, one disk after another.
func wantSectorsApart(t *testing.T, x model.Op, of [][][]byte) {
	t.Helper()
	for i := range of {
		var before [][][]byte
		for _, d := range of {
			before = append(before, slices.Clone(whole(d)))
		}
		for k := range whole(of[i]) {
			whole(of[i])[k] = full(1, 9)
		}
		for k := range of {
			if k != i && !sameDisk(whole(of[k]), before[k]) {
				t.Errorf("P10.4: %s: disks %d and %d of the answer share memory", toldOp(x), i, k)
			}
		}
	}
}

// P10.4, P2: May leaves its list and its data as they were.
func TestMayLeavesItsArguments(t *testing.T) {
	for _, x := range someOps() {
		snaps := roomy(named("a", "b", "new"), model.Named{ID: 77, Name: "behind"})
		x.Data = roomy(x.Data, 0xe5)
		before, data := slices.Clone(whole(snaps)), slices.Clone(whole(x.Data))
		model.May(6, snaps, 4, x)
		if !slices.Equal(whole(snaps), before) || !bytes.Equal(whole(x.Data), data) {
			t.Errorf("P10.4: May of %s changes what is handed in", toldOp(x))
		}
	}
}

// P10.4, P2: two new states share nothing.
func TestNewSharesNothing(t *testing.T) {
	first, _ := model.New(4)
	second, _ := model.New(4)
	spoil(first)
	if third, err := model.New(4); !same(second, third) || !same(third, model.State{Now: zeros(4), Next: 1}) || err != api.OK {
		t.Errorf("P10.4: New: %s, then %s, %d", told(second), told(third), err)
	}
}

// P3: a call hangs on its arguments alone, not on the calls ahead of it; nil
// and empty lists are one to it (P1).
func TestCallsKeepNothing(t *testing.T) {
	for _, x := range someOps() {
		first, reply := model.Do(ordinary(), x)
		for _, s := range memoryStates() {
			for _, y := range someOps() {
				model.Do(s, y)
				model.May(len(s.Now), named("less"), s.Next, y)
			}
		}
		again, replyAgain := model.Do(roomyState(ordinary()), x)
		if !same(again, first) || !sameReply(replyAgain, reply) {
			t.Errorf("P3: %s: %s, %s; then %s, %s", toldOp(x), told(first), toldReply(reply), told(again), toldReply(replyAgain))
		}
		nothing, empty := model.State{Next: 1}, model.State{Now: [][]byte{}, Snaps: []model.Snap{}, Next: 1}
		a, ra := model.Do(nothing, x)
		b, rb := model.Do(empty, x)
		if !same(a, b) || !sameReply(ra, rb) {
			t.Errorf("P1: %s of nil and of empty lists: %s, %s; %s, %s", toldOp(x), told(a), toldReply(ra), told(b), toldReply(rb))
		}
	}
}
