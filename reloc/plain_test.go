package reloc_test

import (
	"bytes"
	"fmt"
	"math"
	"slices"
	"testing"

	"flagstone/api"
	"flagstone/free"
	"flagstone/model"
	"flagstone/reloc"
	"flagstone/volume"
)

// anySize has numbers at the edges of all that a call may be given, and of
// any size; sums of two of them go round, even to what would fit.
func anySize() []int {
	return []int{
		math.MinInt, math.MinInt + 1, math.MinInt + 65536, -1 << 62, -1 << 32, -65537, -65536, -5, -4, -3, -2, -1, 0, 1, 2, 3, 4, 5, 6, 7, 8, 9,
		63, 64, 65, 255, 256, 65535, 65536, 65537, 1 << 32, 1<<32 + 1, 1 << 62, math.MaxInt - 65536, math.MaxInt - 4, math.MaxInt - 3, math.MaxInt - 1, math.MaxInt,
	}
}

// octets has 64 of each of these.
func octets(of ...byte) []byte {
	var out []byte
	for _, b := range of {
		out = append(out, bytes.Repeat([]byte{b}, 64)...)
	}
	return out
}

// sector has 64 octets that no other place's sector has, and that are not all
// zeros.
func sector(place int) []byte {
	b := make([]byte, 64)
	b[0], b[1], b[63] = byte(place), byte(place>>8), 200
	return b
}

// at is a map: of each three numbers Virt, Phys and Len.
func at(numbers ...int) []api.Extent {
	var out []api.Extent
	for ; len(numbers) > 0; numbers = numbers[3:] {
		out = append(out, api.Extent{Virt: numbers[0], Phys: numbers[1], Len: numbers[2]})
	}
	return out
}

// spans has of each two numbers a span: At and Len.
func spans(numbers ...int) []api.Span {
	var out []api.Span
	for ; len(numbers) > 0; numbers = numbers[2:] {
		out = append(out, api.Span{At: numbers[0], Len: numbers[1]})
	}
	return out
}

func span(place, n int) api.Span {
	return api.Span{At: place, Len: n}
}

// snapped is a snapshot with that map, just as great as the map asks.
func snapped(id int, list []api.Extent) volume.Snap {
	snap := volume.Snap{ID: id, Name: string(rune('a' + id)), List: list}
	for _, x := range list {
		snap.Size = x.Virt + x.Len
	}
	return snap
}

// made is a volume of such maps, over room sectors that all differ; Next is
// one above the last ID. Its Free is looked for sector by sector.
func made(room int, now []api.Extent, snaps ...volume.Snap) volume.State {
	s := volume.State{Size: snapped(0, now).Size, Now: now, Snaps: snaps, Next: 1}
	for _, snap := range snaps {
		s.Next = snap.ID + 1
	}
	for place := range room {
		s.Data = append(s.Data, sector(place))
	}
	s.Free = free.State{Size: room, Spans: runs(plainOf(s).unused())}
	return s
}

// inUse is a volume of as many data sectors as there are letters, of which
// those with an x are in use: by Now, or by a snapshot, or by both, by turns.
func inUse(letters string) volume.State {
	var now, kept []api.Extent
	for place, letter := range letters {
		if letter != 'x' {
			continue
		}
		// Two apart in Virt, so that no two could be one.
		x := api.Extent{Virt: 2 * place, Phys: place, Len: 1}
		if place%3 != 1 {
			now = append(now, x)
		}
		if place%3 != 2 {
			kept = append(kept, x)
		}
	}
	return made(len(letters), now, snapped(1, kept))
}

// striped has n extents of one sector, two apart on the disk and so many in
// the data.
func striped(n, virt, phys, step int) []api.Extent {
	var out []api.Extent
	for i := range n {
		out = append(out, api.Extent{Virt: virt + 2*i, Phys: phys + step*i, Len: 1})
	}
	return out
}

// ordinary has holes, shared sectors, sectors of zeros that are in use, one
// that stands in a map twice, and snapshots of fewer and of more sectors. Of
// its 16 data sectors 1, 7, 9 and 12 to 14 are free.
func ordinary() volume.State {
	s := made(16, at(0, 2, 2, 3, 4, 1, 4, 2, 1, 6, 10, 2),
		snapped(1, at(0, 2, 3)),
		volume.Snap{ID: 2, Name: "none"},
		snapped(4, at(0, 0, 1, 5, 8, 1, 18, 5, 2)),
		volume.Snap{ID: 9, Name: "\x00", Size: 8, List: at(1, 15, 1)},
	)
	s.Data[3], s.Data[6] = make([]byte, 64), make([]byte, 64)
	return s
}

// plain is a volume, sector by sector: where each of a disk's sectors stands,
// -1 of a hole. The first disk is Now.
type plain struct {
	of    volume.State
	disks [][]int
}

func plainOf(s volume.State) plain {
	p := plain{of: s}
	for _, snap := range append([]volume.Snap{{Size: s.Size, List: s.Now}}, s.Snaps...) {
		d := slices.Repeat([]int{-1}, snap.Size)
		for _, x := range snap.List {
			for i := range x.Len {
				d[x.Virt+i] = x.Phys + i
			}
		}
		p.disks = append(p.disks, d)
	}
	return p
}

// extents is a disk's map.
func extents(disk []int) []api.Extent {
	var out []api.Extent
	for virt, phys := range disk {
		if phys < 0 {
			continue
		}
		if virt > 0 && phys > 0 && disk[virt-1] == phys-1 {
			out[len(out)-1].Len++
		} else {
			out = append(out, api.Extent{Virt: virt, Phys: phys, Len: 1})
		}
	}
	return out
}

// runs has the spans of those that hold.
func runs(holds []bool) []api.Span {
	var out []api.Span
	for place, h := range holds {
		if h && place > 0 && holds[place-1] {
			out[len(out)-1].Len++
		} else if h {
			out = append(out, span(place, 1))
		}
	}
	return out
}

// unused tells of each data sector whether nobody refers to it.
func (p plain) unused() []bool {
	out := slices.Repeat([]bool{true}, len(p.of.Data))
	for _, d := range p.disks {
		for _, phys := range d {
			if phys >= 0 {
				out[phys] = false
			}
		}
	}
	return out
}

// state is the volume, laid anew.
func (p plain) state() volume.State {
	s := p.of
	s.Now, s.Snaps = extents(p.disks[0]), slices.Clone(p.of.Snaps)
	for i := range s.Snaps {
		s.Snaps[i].List = extents(p.disks[i+1])
	}
	s.Free.Spans = runs(p.unused())
	s.Data = nil
	for _, b := range p.of.Data {
		s.Data = append(s.Data, bytes.Clone(b))
	}
	return s
}

// plainMove is the chapter's words, sector by sector.
func plainMove(s volume.State, x api.Span, to int) (volume.State, api.Errno) {
	isThere := func(place int) bool { return place >= 0 && place < len(s.Data) }
	if x.Len < 1 || x.Len > 4 || !isThere(x.At) || !isThere(to) || !isThere(x.At+x.Len-1) || !isThere(to+x.Len-1) {
		return volume.State{}, api.ErrRange
	}
	p := plainOf(s)
	unused := p.unused()
	if slices.Contains(unused[x.At:x.At+x.Len], true) {
		return volume.State{}, api.ErrNone
	}
	if slices.Contains(unused[to:to+x.Len], false) {
		return volume.State{}, api.ErrBusy
	}
	space := true
	for _, d := range p.disks {
		for virt, phys := range d {
			if phys >= x.At && phys < x.At+x.Len {
				d[virt] = phys - x.At + to
			}
		}
		space = space && len(extents(d)) <= 1024
	}
	if !space || len(runs(p.unused())) > 1024 {
		return volume.State{}, api.ErrSpace
	}
	out := p.state()
	for i := range x.Len {
		out.Data[to+i] = bytes.Clone(s.Data[x.At+i])
	}
	return out, api.OK
}

// plainVictim is the chapter's words, place by place.
func plainVictim(s volume.State) (api.Span, int, bool) {
	unused := plainOf(s).unused()
	var used []int
	for place, is := range unused {
		if !is {
			used = append(used, place)
		}
	}
	for n := min(4, len(used)); n >= 1; n-- {
		last := used[len(used)-n:]
		if last[n-1]-last[0] != n-1 {
			continue
		}
		for to := 0; to+n <= last[0]; to++ {
			if !slices.Contains(unused[to:to+n], false) {
				return span(last[0], n), to, true
			}
		}
	}
	return api.Span{}, 0, false
}

func plainCompact(s volume.State) (volume.State, bool, api.Errno) {
	x, to, is := plainVictim(s)
	if !is {
		return volume.State{}, false, api.OK
	}
	after, err := plainMove(s, x, to)
	return after, err == api.OK, err
}

// plainBest is the shortest free span that has n sectors, the lowest of like
// ones; of no length if there is none.
func plainBest(s volume.State, n int) api.Span {
	var best api.Span
	for _, x := range runs(plainOf(s).unused()) {
		if x.Len >= n && (best.Len == 0 || x.Len < best.Len) {
			best = x
		}
	}
	return best
}

// plainDefragment is the chapter's words.
func plainDefragment(s volume.State) (volume.State, bool, api.Errno) {
	for i := 1; i < len(s.Now); i++ {
		a, b := s.Now[i-1], s.Now[i]
		if a.Virt+a.Len != b.Virt || a.Phys+a.Len == b.Phys || a.Len+b.Len > 4 {
			continue
		}
		best := plainBest(s, a.Len+b.Len)
		if best.Len == 0 {
			continue
		}
		after, err := plainMove(s, span(a.Phys, a.Len), best.At)
		if err == api.OK {
			after, err = plainMove(after, span(b.Phys, b.Len), best.At+a.Len)
		}
		return after, err == api.OK, err
	}
	return volume.State{}, false, api.OK
}

func sameSectors(a, b [][]byte) bool {
	return slices.EqualFunc(a, b, bytes.Equal)
}

// same takes nil and empty lists as one.
func same(a, b volume.State) bool {
	sameSnap := func(x, y volume.Snap) bool {
		return x.ID == y.ID && x.Name == y.Name && x.Size == y.Size && slices.Equal(x.List, y.List)
	}
	return a.Size == b.Size && slices.Equal(a.Now, b.Now) && slices.EqualFunc(a.Snaps, b.Snaps, sameSnap) && a.Next == b.Next &&
		a.Free.Size == b.Free.Size && slices.Equal(a.Free.Spans, b.Free.Spans) && sameSectors(a.Data, b.Data)
}

func sameModel(a, b model.State) bool {
	return a.Next == b.Next && sameSectors(a.Now, b.Now) && slices.EqualFunc(a.Snaps, b.Snaps, func(x, y model.Snap) bool {
		return x.ID == y.ID && x.Name == y.Name && sameSectors(x.Disk, y.Disk)
	})
}

// some tells the first of a list.
func some[T any](l []T) string {
	return fmt.Sprint(len(l), l[:min(len(l), 12)])
}

func told(s volume.State) string {
	out := fmt.Sprintf("size %d, now %s", s.Size, some(s.Now))
	for _, snap := range s.Snaps[:min(len(s.Snaps), 12)] {
		out += fmt.Sprintf("; %d %q size %d, %s", snap.ID, snap.Name, snap.Size, some(snap.List))
	}
	out += fmt.Sprintf("; next %d; of %d free %s; data %d:", s.Next, s.Free.Size, some(s.Free.Spans), len(s.Data))
	for _, b := range s.Data[:min(len(s.Data), 12)] {
		out += fmt.Sprintf(" %d(% x)", len(b), b[:min(len(b), 2)])
	}
	return out
}

// wantShown asks that nothing that is read has changed, of any owner, and that
// what follows may be.
func wantShown(t *testing.T, what string, before, after volume.State) {
	t.Helper()
	if err := volume.Check(after); err != api.OK {
		t.Fatalf("P12.3: %s of %s: %s may not be: %d", what, told(before), told(after), err)
	}
	was, _ := volume.Model(before)
	if is, err := volume.Model(after); !sameModel(is, was) || err != api.OK {
		t.Errorf("P12.3: %s of %s: %s shows something else, %d", what, told(before), told(after), err)
	}
	for owner := range 10 {
		size := before.Size
		for _, snap := range before.Snaps {
			if snap.ID == owner {
				size = snap.Size
			}
		}
		was, wasErr := volume.Read(before, owner, 0, size)
		if is, err := volume.Read(after, owner, 0, size); !bytes.Equal(is, was) || err != wasErr {
			t.Errorf("P12.3: %s of %s: owner %d reads otherwise of %s, %d", what, told(before), owner, told(after), err)
		}
	}
}

// wantMove asks for what the plain way has, and for that error.
func wantMove(t *testing.T, s volume.State, x api.Span, to int, wantErr api.Errno) volume.State {
	t.Helper()
	want, err := plainMove(s, x, to)
	if err != wantErr {
		t.Fatalf("the test's own plain way: Move(%s, %v, %d): %d; want %d", told(s), x, to, err, wantErr)
	}
	got, err := reloc.Move(s, x, to)
	if !same(got, want) || err != wantErr {
		t.Errorf("P12.1: Move(%s, %v, %d): %s, %d; want %s, %d", told(s), x, to, told(got), err, told(want), wantErr)
	}
	if err == api.OK {
		wantShown(t, "Move", s, got)
	}
	return got
}

func wantVictim(t *testing.T, s volume.State, wantX api.Span, wantTo int, want bool) {
	t.Helper()
	if x, to, is := plainVictim(s); x != wantX || to != wantTo || is != want {
		t.Fatalf("the test's own plain way: Victim(%s): %v, %d, %t; want %v, %d, %t", told(s), x, to, is, wantX, wantTo, want)
	}
	if x, to, is, err := reloc.Victim(s); x != wantX || to != wantTo || is != want || err != api.OK {
		t.Errorf("P12.1: Victim(%s): %v, %d, %t, %d; want %v, %d, %t", told(s), x, to, is, err, wantX, wantTo, want)
	}
}

// step is Compact or Defragment.
type step func(s volume.State) (volume.State, bool, api.Errno)

func wantStep(t *testing.T, what string, do, plain step, s volume.State) (volume.State, bool, api.Errno) {
	t.Helper()
	want, wantDid, wantErr := plain(s)
	got, did, err := do(s)
	if !same(got, want) || did != wantDid || err != wantErr {
		t.Errorf("P12.2: %s(%s): %s, %t, %d; want %s, %t, %d", what, told(s), told(got), did, err, told(want), wantDid, wantErr)
	}
	if did {
		wantShown(t, what, s, got)
	}
	return got, did, err
}

func wantCompact(t *testing.T, s volume.State) (volume.State, bool, api.Errno) {
	t.Helper()
	return wantStep(t, "Compact", reloc.Compact, plainCompact, s)
}

func wantDefragment(t *testing.T, s volume.State) (volume.State, bool, api.Errno) {
	t.Helper()
	return wantStep(t, "Defragment", reloc.Defragment, plainDefragment, s)
}

func wantPieces(t *testing.T, s volume.State, want int) {
	t.Helper()
	if n, err := reloc.Pieces(s); n != want || err != api.OK {
		t.Errorf("P12.2: Pieces(%s): %d, %d; want %d", told(s), n, err, want)
	}
}
