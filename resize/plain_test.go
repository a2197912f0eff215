package resize_test

import (
	"bytes"
	"fmt"
	"math"
	"slices"
	"testing"

	"flagstone/api"
	"flagstone/free"
	"flagstone/model"
	"flagstone/resize"
	"flagstone/volume"
)

const (
	write = iota + 1
	read
	discard
	snapshot
	remove
	revert
	list
	resizing
)

// anySize has numbers at the edges of all that a call may be given, and of
// any size; sums of two of them go round, even to what would fit.
func anySize() []int {
	return []int{
		math.MinInt, math.MinInt + 1, math.MinInt + 65536, -1 << 62, -1 << 32, -65537, -65536, -2, -1, 0, 1, 2, 3, 4, 5, 15, 16, 17, 63, 64, 65, 255, 256,
		65535, 65536, 65537, 1 << 32, 1<<32 + 1, 1 << 62, math.MaxInt - 65536, math.MaxInt - 1, math.MaxInt,
	}
}

// octets has 64 of each of these.
func octets(of ...byte) []byte {
	var out []byte
	for _, b := range of {
		out = append(out, bytes.Repeat([]byte{b}, 64)...)
	}
	return out
}

// sector has 64 octets that no other place's sector has, and that are not all
// zeros.
func sector(place int) []byte {
	b := make([]byte, 64)
	b[0], b[1], b[63] = byte(place), byte(place>>8), 200
	return b
}

// writing is a write of n sectors, from place on.
func writing(place, n int) model.Op {
	x := model.Op{What: write, At: place}
	for i := range n {
		x.Data = append(x.Data, octets(byte(i+1))...)
	}
	return x
}

// at is a map: of each three numbers Virt, Phys and Len.
func at(numbers ...int) []api.Extent {
	var out []api.Extent
	for ; len(numbers) > 0; numbers = numbers[3:] {
		out = append(out, api.Extent{Virt: numbers[0], Phys: numbers[1], Len: numbers[2]})
	}
	return out
}

// spans has of each two numbers a span: At and Len.
func spans(numbers ...int) []api.Span {
	var out []api.Span
	for ; len(numbers) > 0; numbers = numbers[2:] {
		out = append(out, api.Span{At: numbers[0], Len: numbers[1]})
	}
	return out
}

// made is a volume of such maps, over room sectors that all differ; Next is
// one above the last ID. Its Free is looked for sector by sector.
func made(size, room int, now []api.Extent, snaps ...volume.Snap) volume.State {
	s := volume.State{Size: size, Now: now, Snaps: snaps, Next: 1}
	for _, snap := range snaps {
		s.Next = snap.ID + 1
	}
	for place := range room {
		s.Data = append(s.Data, sector(place))
	}
	s.Free = free.State{Size: room, Spans: runs(unused(s))}
	return s
}

// striped has n extents of one sector, two apart on the disk and so many in
// the data.
func striped(n, virt, phys, step int) []api.Extent {
	var out []api.Extent
	for i := range n {
		out = append(out, api.Extent{Virt: virt + 2*i, Phys: phys + step*i, Len: 1})
	}
	return out
}

// fenced has so many free spans of one sector, each ahead of one in use, and
// so many free sectors behind all.
func fenced(count, behind int) volume.State {
	return made(2*count+1, 2*count+behind, striped(count, 0, 1, 2))
}

// ordinary has holes, shared sectors, sectors of zeros that are in use, and
// snapshots of fewer and of more sectors. Of its 16 data sectors 1, 7, 9 and
// 13 to 15 are free.
func ordinary() volume.State {
	s := made(8, 16, at(0, 2, 2, 3, 4, 1, 6, 10, 2),
		volume.Snap{ID: 1, Name: "less", Size: 3, List: at(0, 2, 3)},
		volume.Snap{ID: 2, Name: "none"},
		volume.Snap{ID: 4, Name: "0123456789abcdef", Size: 20, List: at(0, 0, 1, 5, 8, 1, 18, 5, 2)},
		volume.Snap{ID: 9, Name: "\x00", Size: 8, List: at(1, 12, 1)},
	)
	s.Data[3], s.Data[6] = make([]byte, 64), make([]byte, 64)
	return s
}

// unused tells of each data sector whether nobody refers to it.
func unused(s volume.State) []bool {
	out := slices.Repeat([]bool{true}, len(s.Data))
	use := func(list []api.Extent) {
		for _, x := range list {
			for i := range x.Len {
				out[x.Phys+i] = false
			}
		}
	}
	use(s.Now)
	for _, snap := range s.Snaps {
		use(snap.List)
	}
	return out
}

// runs has the spans of those that hold.
func runs(holds []bool) []api.Span {
	var out []api.Span
	for place, h := range holds {
		if h && place > 0 && holds[place-1] {
			out[len(out)-1].Len++
		} else if h {
			out = append(out, api.Span{At: place, Len: 1})
		}
	}
	return out
}

// again is s, laid anew.
func again(s volume.State) volume.State {
	out := s
	out.Now, out.Snaps = slices.Clone(s.Now), slices.Clone(s.Snaps)
	for i := range out.Snaps {
		out.Snaps[i].List = slices.Clone(s.Snaps[i].List)
	}
	out.Free = free.State{Size: len(s.Data), Spans: runs(unused(s))}
	out.Data = nil
	for _, b := range s.Data {
		out.Data = append(out.Data, bytes.Clone(b))
	}
	return out
}

// plainGrow is the chapter's words, sector by sector.
func plainGrow(s volume.State, room int) (volume.State, api.Errno) {
	if room < len(s.Data) || room > 65536 {
		return volume.State{}, api.ErrRange
	}
	s.Data = slices.Clone(s.Data)
	for len(s.Data) < room {
		s.Data = append(s.Data, octets(0))
	}
	if out := again(s); len(out.Free.Spans) <= 1024 {
		return out, api.OK
	}
	return volume.State{}, api.ErrSpace
}

// plainTruncate is the chapter's words, sector by sector.
func plainTruncate(s volume.State) (volume.State, int) {
	gone := 0
	for is := unused(s); len(s.Data) > 0 && is[len(s.Data)-1]; gone++ {
		s.Data = s.Data[:len(s.Data)-1]
	}
	return again(s), gone
}

// plainNeed is the chapter's words; what model.May says is asked of model.Do.
func plainNeed(s volume.State, x model.Op) int {
	n := len(s.Data)
	if x.What != write {
		return n
	}
	m, _ := volume.Model(s)
	if _, reply := model.Do(m, x); reply.Err != api.OK {
		return n
	}
	left := len(x.Data) / 64
	for _, is := range unused(s) {
		if is && left > 0 {
			left--
		}
	}
	return n + left
}

// plainDo is the chapter's words, with volume.Do on what has grown.
func plainDo(s volume.State, x model.Op, most int) (volume.State, model.Reply) {
	n := plainNeed(s, x)
	wants := model.Reply{Err: api.ErrSpace, Size: s.Size}
	if n > most {
		return again(s), wants
	}
	grown, err := plainGrow(s, n)
	if err != api.OK {
		return again(s), wants
	}
	after, reply := volume.Do(grown, x)
	if reply.Err != api.OK {
		return again(s), reply
	}
	return after, reply
}

func sameSectors(a, b [][]byte) bool {
	return slices.EqualFunc(a, b, bytes.Equal)
}

// same takes nil and empty lists as one.
func same(a, b volume.State) bool {
	sameSnap := func(x, y volume.Snap) bool {
		return x.ID == y.ID && x.Name == y.Name && x.Size == y.Size && slices.Equal(x.List, y.List)
	}
	return a.Size == b.Size && slices.Equal(a.Now, b.Now) && slices.EqualFunc(a.Snaps, b.Snaps, sameSnap) && a.Next == b.Next &&
		a.Free.Size == b.Free.Size && slices.Equal(a.Free.Spans, b.Free.Spans) && sameSectors(a.Data, b.Data)
}

func sameModel(a, b model.State) bool {
	return a.Next == b.Next && sameSectors(a.Now, b.Now) && slices.EqualFunc(a.Snaps, b.Snaps, func(x, y model.Snap) bool {
		return x.ID == y.ID && x.Name == y.Name && sameSectors(x.Disk, y.Disk)
	})
}

func sameReply(a, b model.Reply) bool {
	return a.Err == b.Err && a.ID == b.ID && a.Size == b.Size && bytes.Equal(a.Data, b.Data) && slices.Equal(a.List, b.List)
}

// some tells the first of a list.
func some[T any](l []T) string {
	return fmt.Sprint(len(l), l[:min(len(l), 12)])
}

func told(s volume.State) string {
	out := fmt.Sprintf("size %d, now %s", s.Size, some(s.Now))
	for _, snap := range s.Snaps[:min(len(s.Snaps), 12)] {
		out += fmt.Sprintf("; %d %q size %d, %s", snap.ID, snap.Name, snap.Size, some(snap.List))
	}
	out += fmt.Sprintf("; next %d; of %d free %s; data %d:", s.Next, s.Free.Size, some(s.Free.Spans), len(s.Data))
	for _, b := range s.Data[:min(len(s.Data), 12)] {
		out += fmt.Sprintf(" %d(% x)", len(b), b[:min(len(b), 2)])
	}
	return out
}

func toldOp(x model.Op) string {
	return fmt.Sprintf("{What %d At %d N %d ID %d Name %q Data of %d}", x.What, x.At, x.N, x.ID, x.Name, len(x.Data))
}

func toldReply(r model.Reply) string {
	return fmt.Sprintf("{Err %d Data of %d ID %d List %v Size %d}", r.Err, len(r.Data), r.ID, r.List, r.Size)
}

// wantShown asks that nothing that is read has changed, of any owner, and that
// what follows may be.
func wantShown(t *testing.T, what string, before, after volume.State) {
	t.Helper()
	if err := volume.Check(after); err != api.OK {
		t.Fatalf("P13.3: %s of %s: %s may not be: %d", what, told(before), told(after), err)
	}
	was, _ := volume.Model(before)
	if is, err := volume.Model(after); !sameModel(is, was) || err != api.OK {
		t.Errorf("P13.3: %s of %s: %s shows something else, %d", what, told(before), told(after), err)
	}
	sizes := map[int]int{0: before.Size}
	for _, snap := range before.Snaps {
		sizes[snap.ID] = snap.Size
	}
	for owner, size := range sizes {
		was, _ := volume.Read(before, owner, 0, size)
		if is, err := volume.Read(after, owner, 0, size); !bytes.Equal(is, was) || err != api.OK {
			t.Errorf("P13.3: %s of %s: owner %d reads otherwise of %s, %d", what, told(before), owner, told(after), err)
		}
	}
}

// wantGrow asks for what the plain way has, and for that error.
func wantGrow(t *testing.T, s volume.State, room int, wantErr api.Errno) volume.State {
	t.Helper()
	want, err := plainGrow(s, room)
	if err != wantErr {
		t.Fatalf("the test's own plain way: Grow(%s, %d): %d; want %d", told(s), room, err, wantErr)
	}
	got, err := resize.Grow(s, room)
	if !same(got, want) || err != wantErr {
		t.Errorf("P13.1: Grow(%s, %d): %s, %d; want %s, %d", told(s), room, told(got), err, told(want), wantErr)
	}
	if err == api.OK {
		wantShown(t, "Grow", s, got)
	}
	return got
}

// wantTruncate asks for what the plain way has, and that so many went.
func wantTruncate(t *testing.T, s volume.State, wantGone int) volume.State {
	t.Helper()
	want, gone := plainTruncate(s)
	if gone != wantGone {
		t.Fatalf("the test's own plain way: Truncate(%s): %d; want %d", told(s), gone, wantGone)
	}
	got, gone, err := resize.Truncate(s)
	if !same(got, want) || gone != wantGone || err != api.OK {
		t.Errorf("P13.1: Truncate(%s): %s, %d, %d; want %s, %d", told(s), told(got), gone, err, told(want), wantGone)
	}
	wantShown(t, "Truncate", s, got)
	return got
}

func wantNeed(t *testing.T, s volume.State, x model.Op, want int) {
	t.Helper()
	if n := plainNeed(s, x); n != want {
		t.Fatalf("the test's own plain way: Need(%s, %s): %d; want %d", told(s), toldOp(x), n, want)
	}
	if n, err := resize.Need(s, x); n != want || err != api.OK {
		t.Errorf("P13.1: Need(%s, %s): %d, %d; want %d", told(s), toldOp(x), n, err, want)
	}
}

// wantPlain asks for what the plain way has; of what is not refused for space
// also for what model.Do tells and shows.
func wantPlain(t *testing.T, s volume.State, x model.Op, most int) (volume.State, api.Errno) {
	t.Helper()
	want, wantReply := plainDo(s, x, most)
	got, reply := resize.Do(s, x, most)
	if !same(got, want) || !sameReply(reply, wantReply) {
		t.Errorf("P13.2: Do(%s, %s, %d): %s, %s; want %s, %s", told(s), toldOp(x), most, told(got), toldReply(reply), told(want), toldReply(wantReply))
	}
	before, _ := volume.Model(s)
	after, err := volume.Model(got)
	if reply.Err != api.OK && !same(got, again(s)) {
		t.Errorf("P13.2: Do(%s, %s, %d): %d, and %s", told(s), toldOp(x), most, reply.Err, told(got))
	}
	if reply.Err != api.ErrSpace {
		wantAfter, wantReply := model.Do(before, x)
		if !sameReply(reply, wantReply) || !sameModel(after, wantAfter) || err != api.OK {
			t.Errorf("P13.2: Do(%s, %s, %d): %s is not the model's %s", told(s), toldOp(x), most, toldReply(reply), toldReply(wantReply))
		}
	}
	return got, reply.Err
}

// wantDo asks also for that error, and for so many data sectors behind it.
func wantDo(t *testing.T, s volume.State, x model.Op, most int, wantErr api.Errno, wantRoom int) volume.State {
	t.Helper()
	after, err := wantPlain(t, s, x, most)
	if err != wantErr || len(after.Data) != wantRoom || after.Free.Size != wantRoom {
		t.Errorf("P13.2: Do(%s, %s, %d): %d, of %d data sectors; want %d, of %d", told(s), toldOp(x), most, err, len(after.Data), wantErr, wantRoom)
	}
	return after
}
