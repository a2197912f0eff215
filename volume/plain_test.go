package volume_test

import (
	"bytes"
	"fmt"
	"math"
	"slices"
	"testing"

	"flagstone/api"
	"flagstone/extent"
	"flagstone/free"
	"flagstone/model"
	"flagstone/refs"
	"flagstone/volume"
)

const (
	write = iota + 1
	read
	discard
	snapshot
	remove
	revert
	list
	resize
)

// anySize has numbers at the edges of all that a call may be given, and of
// any size; sums of two of them go round, even to what would fit.
func anySize() []int {
	return []int{
		math.MinInt, math.MinInt + 1, math.MinInt + 65536, -1 << 62, -1 << 32, -65537, -65536, -2, -1, 0, 1, 2, 3, 4, 5, 6, 7, 8, 9,
		63, 64, 65, 254, 255, 256, 65535, 65536, 65537, 131072, 1 << 32, 1<<32 + 1, 1 << 58, 1 << 62, math.MaxInt - 65536, math.MaxInt - 1, math.MaxInt,
	}
}

// octets has 64 of each of these.
func octets(of ...byte) []byte {
	var out []byte
	for _, b := range of {
		out = append(out, bytes.Repeat([]byte{b}, 64)...)
	}
	return out
}

// sector has 64 octets that no other place's sector has, and that are not all
// zeros.
func sector(place int) []byte {
	b := make([]byte, 64)
	b[0], b[1], b[63] = byte(place), byte(place>>8), 200
	return b
}

// row has n new sectors, no two alike, and unlike those that stand anywhere.
func row(n int) []byte {
	var out []byte
	for i := range n {
		b := sector(i)
		b[63] = 100
		out = append(out, b...)
	}
	return out
}

// at is a map: of each three numbers Virt, Phys and Len.
func at(numbers ...int) []api.Extent {
	var out []api.Extent
	for ; len(numbers) > 0; numbers = numbers[3:] {
		out = append(out, api.Extent{Virt: numbers[0], Phys: numbers[1], Len: numbers[2]})
	}
	return out
}

// spans has of each two numbers a span: At and Len.
func spans(numbers ...int) []api.Span {
	var out []api.Span
	for ; len(numbers) > 0; numbers = numbers[2:] {
		out = append(out, api.Span{At: numbers[0], Len: numbers[1]})
	}
	return out
}

// made is a volume of such maps, over room sectors that all differ; Next is
// one above the last ID. Its Free is looked for sector by sector.
func made(room, size int, now []api.Extent, snaps ...volume.Snap) volume.State {
	s := volume.State{Size: size, Now: now, Snaps: snaps, Next: 1}
	for _, snap := range snaps {
		s.Next = snap.ID + 1
	}
	for place := range room {
		s.Data = append(s.Data, sector(place))
	}
	s.Free = free.State{Size: room, Spans: plainOf(s).free()}
	return s
}

// ordinary has holes, shared sectors, sectors of zeros that are written, one
// that stands in a map twice, and snapshots of fewer and of more sectors.
func ordinary() volume.State {
	s := made(12, 8, at(0, 2, 2, 3, 4, 1, 4, 2, 1, 6, 8, 2),
		volume.Snap{ID: 1, Name: "less", Size: 3, List: at(0, 2, 3)},
		volume.Snap{ID: 2, Name: "none"},
		volume.Snap{ID: 4, Name: "0123456789abcdef", Size: 20, List: at(0, 0, 1, 5, 8, 1, 19, 6, 1)},
		volume.Snap{ID: 9, Name: "\x00", Size: 8},
	)
	s.Data[3], s.Data[6] = make([]byte, 64), make([]byte, 64)
	return s
}

// plainDisk is where each of a disk's sectors stands, -1 of a hole.
type plainDisk struct {
	id   int
	name string
	at   []int
}

// plain is a volume, sector by sector; the first disk is Now.
type plain struct {
	disks []plainDisk
	next  int
	data  [][]byte
}

func plainOf(s volume.State) plain {
	p := plain{next: s.Next}
	for _, snap := range append([]volume.Snap{{Size: s.Size, List: s.Now}}, s.Snaps...) {
		d := plainDisk{id: snap.ID, name: snap.Name, at: slices.Repeat([]int{-1}, snap.Size)}
		for _, x := range snap.List {
			for i := range x.Len {
				d.at[x.Virt+i] = x.Phys + i
			}
		}
		p.disks = append(p.disks, d)
	}
	for _, b := range s.Data {
		p.data = append(p.data, bytes.Clone(b))
	}
	return p
}

func (p plain) clone() plain {
	return plainOf(p.state())
}

func (d plainDisk) extents() []api.Extent {
	var out []api.Extent
	for virt, phys := range d.at {
		if phys < 0 {
			continue
		}
		if virt > 0 && phys > 0 && d.at[virt-1] == phys-1 {
			out[len(out)-1].Len++
		} else {
			out = append(out, api.Extent{Virt: virt, Phys: phys, Len: 1})
		}
	}
	return out
}

// runs has the spans of those that hold.
func runs(holds []bool) []api.Span {
	var out []api.Span
	for place, h := range holds {
		if h && place > 0 && holds[place-1] {
			out[len(out)-1].Len++
		} else if h {
			out = append(out, api.Span{At: place, Len: 1})
		}
	}
	return out
}

// unused tells of each data sector whether nobody refers to it.
func (p plain) unused() []bool {
	out := slices.Repeat([]bool{true}, len(p.data))
	for _, d := range p.disks {
		for _, phys := range d.at {
			if phys >= 0 {
				out[phys] = false
			}
		}
	}
	return out
}

func (p plain) free() []api.Span {
	return runs(p.unused())
}

func (p plain) state() volume.State {
	s := volume.State{Size: len(p.disks[0].at), Now: p.disks[0].extents(), Next: p.next}
	for _, d := range p.disks[1:] {
		s.Snaps = append(s.Snaps, volume.Snap{ID: d.id, Name: d.name, Size: len(d.at), List: d.extents()})
	}
	s.Free = free.State{Size: len(p.data), Spans: p.free()}
	for _, b := range p.data {
		s.Data = append(s.Data, bytes.Clone(b))
	}
	return s
}

// octets is all that a disk shows.
func (p plain) octets(d plainDisk) []byte {
	var out []byte
	for _, phys := range d.at {
		if phys < 0 {
			out = append(out, make([]byte, 64)...)
		} else {
			out = append(out, p.data[phys]...)
		}
	}
	return out
}

// model is the state of chapter 10 that it shows.
func (p plain) model() model.State {
	shown := func(d plainDisk) [][]byte {
		out := make([][]byte, len(d.at))
		for i, b := 0, p.octets(d); len(b) > 0; i, b = i+1, b[64:] {
			if !bytes.Equal(b[:64], make([]byte, 64)) {
				out[i] = b[:64]
			}
		}
		return out
	}
	m := model.State{Now: shown(p.disks[0]), Next: p.next}
	for _, d := range p.disks[1:] {
		m.Snaps = append(m.Snaps, model.Snap{ID: d.id, Name: d.name, Disk: shown(d)})
	}
	return m
}

// write is the chapter's words; false where there is no space.
func (p plain) write(place int, b []byte) bool {
	unused := p.unused()
	for left := len(b) / 64; left > 0; left = len(b) / 64 {
		var best api.Span
		n := 0
		for _, x := range runs(unused) {
			n = max(n, min(x.Len, left))
		}
		for _, x := range runs(unused) {
			if x.Len >= n && (best.Len == 0 || x.Len < best.Len) {
				best = x
			}
		}
		if best.Len == 0 {
			return false
		}
		for i := range n {
			unused[best.At+i] = false
			copy(p.data[best.At+i], b[64*i:64*i+64])
			p.disks[0].at[place+i] = best.At + i
		}
		if len(p.disks[0].extents()) > 1024 {
			return false
		}
		place, b = place+n, b[64*n:]
	}
	return true
}

// plainDo is the plain volume behind x, which model.May takes; false where
// there is no space.
func plainDo(before plain, x model.Op) (plain, bool) {
	p := before.clone()
	space := true
	isIt := func(d plainDisk) bool { return d.id == x.ID }
	switch x.What {
	case write:
		space = p.write(x.At, x.Data)
	case discard:
		for i := range x.N {
			p.disks[0].at[x.At+i] = -1
		}
	case snapshot:
		p.disks = append(p.disks, plainDisk{id: p.next, name: x.Name, at: slices.Clone(p.disks[0].at)})
		p.next++
	case remove:
		p.disks = slices.DeleteFunc(p.disks, isIt)
	case revert:
		p.disks[0].at = slices.Clone(p.disks[slices.IndexFunc(p.disks, isIt)].at)
	case resize:
		d := &p.disks[0]
		for len(d.at) < x.N {
			d.at = append(d.at, -1)
		}
		d.at = d.at[:x.N]
	}
	return p, space && len(p.disks[0].extents()) <= 1024 && len(p.free()) <= 1024
}

// plainCheck is the chapter's words on a state whose names, IDs and Next are
// as they should be, sector by sector.
func plainCheck(s volume.State) bool {
	if free.Check(s.Free) != api.OK || len(s.Data) != s.Free.Size {
		return false
	}
	isFree, isUsed := make([]bool, s.Free.Size), make([]bool, s.Free.Size)
	for _, x := range s.Free.Spans {
		for i := range x.Len {
			isFree[x.At+i] = true
		}
	}
	for _, snap := range append([]volume.Snap{{Size: s.Size, List: s.Now}}, s.Snaps...) {
		if snap.Size < 0 || snap.Size > 65536 || extent.Check(snap.List) != api.OK {
			return false
		}
		for _, x := range snap.List {
			for i := range x.Len {
				if x.Virt+i >= snap.Size || x.Phys+i >= len(isUsed) {
					return false
				}
				isUsed[x.Phys+i] = true
			}
		}
	}
	for place := range isFree {
		if isFree[place] == isUsed[place] || len(s.Data[place]) != 64 {
			return false
		}
	}
	return true
}

func sameSectors(a, b [][]byte) bool {
	return slices.EqualFunc(a, b, bytes.Equal)
}

// same takes nil and empty lists as one.
func same(a, b volume.State) bool {
	sameSnap := func(x, y volume.Snap) bool {
		return x.ID == y.ID && x.Name == y.Name && x.Size == y.Size && slices.Equal(x.List, y.List)
	}
	return a.Size == b.Size && slices.Equal(a.Now, b.Now) && slices.EqualFunc(a.Snaps, b.Snaps, sameSnap) && a.Next == b.Next &&
		a.Free.Size == b.Free.Size && slices.Equal(a.Free.Spans, b.Free.Spans) && sameSectors(a.Data, b.Data)
}

func sameModel(a, b model.State) bool {
	return a.Next == b.Next && sameSectors(a.Now, b.Now) && slices.EqualFunc(a.Snaps, b.Snaps, func(x, y model.Snap) bool {
		return x.ID == y.ID && x.Name == y.Name && sameSectors(x.Disk, y.Disk)
	})
}

func sameReply(a, b model.Reply) bool {
	return a.Err == b.Err && a.ID == b.ID && a.Size == b.Size && bytes.Equal(a.Data, b.Data) && slices.Equal(a.List, b.List)
}

func sameMaps(a, b []refs.Map) bool {
	return slices.EqualFunc(a, b, func(x, y refs.Map) bool { return x.Owner == y.Owner && slices.Equal(x.List, y.List) })
}

// some tells the first of a list.
func some[T any](l []T) string {
	return fmt.Sprint(len(l), l[:min(len(l), 12)])
}

func told(s volume.State) string {
	out := fmt.Sprintf("size %d, now %s", s.Size, some(s.Now))
	for _, snap := range s.Snaps[:min(len(s.Snaps), 12)] {
		out += fmt.Sprintf("; %d %q size %d, %s", snap.ID, snap.Name, snap.Size, some(snap.List))
	}
	return out + fmt.Sprintf("; next %d; of %d free %s; data %s", s.Next, s.Free.Size, some(s.Free.Spans), toldSectors(s.Data))
}

func toldSectors(of [][]byte) string {
	out := fmt.Sprintf("%d:", len(of))
	for _, b := range of[:min(len(of), 12)] {
		out += fmt.Sprintf(" %d(% x)", len(b), b[:min(len(b), 2)])
	}
	return out
}

func toldModel(m model.State) string {
	out := toldSectors(m.Now)
	for _, snap := range m.Snaps {
		out += fmt.Sprintf("; %d %q %s", snap.ID, snap.Name, toldSectors(snap.Disk))
	}
	return out + fmt.Sprintf("; next %d", m.Next)
}

func toldReply(r model.Reply) string {
	return fmt.Sprintf("err %d, %d octets (%x), id %d, list %v, size %d", r.Err, len(r.Data), r.Data[:min(len(r.Data), 130)], r.ID, r.List, r.Size)
}

func toldOp(x model.Op) string {
	return fmt.Sprintf("op %d at %d n %d id %d name %q, %d octets", x.What, x.At, x.N, x.ID, x.Name, len(x.Data))
}

func wantCheck(t *testing.T, s volume.State, want api.Errno) {
	t.Helper()
	if err := volume.Check(s); err != want {
		t.Errorf("P11.1: Check(%s): %d; want %d", told(s), err, want)
	}
}

func wantRead(t *testing.T, s volume.State, owner, place, n int, want []byte, wantErr api.Errno) {
	t.Helper()
	if b, err := volume.Read(s, owner, place, n); !bytes.Equal(b, want) || err != wantErr {
		t.Errorf("P11.1: Read(%s, %d, %d, %d): %d octets, %x, %d; want %d octets, %x, %d",
			told(s), owner, place, n, len(b), b[:min(len(b), 130)], err, len(want), want[:min(len(want), 130)], wantErr)
	}
}

func wantModel(t *testing.T, s volume.State, want model.State) {
	t.Helper()
	if m, err := volume.Model(s); !sameModel(m, want) || err != api.OK {
		t.Errorf("P11.1: Model(%s): %s, %d; want %s", told(s), toldModel(m), err, toldModel(want))
	}
}

// wantDo asks for that state and reply, and that what follows may be.
func wantDo(t *testing.T, s volume.State, x model.Op, want volume.State, reply model.Reply) volume.State {
	t.Helper()
	got, r := volume.Do(s, x)
	if !same(got, want) {
		t.Errorf("P11.2: Do(%s, %s): %s; want %s", told(s), toldOp(x), told(got), told(want))
	}
	if !sameReply(r, reply) {
		t.Errorf("P11.2: Do(%s, %s): %s; want %s", told(s), toldOp(x), toldReply(r), toldReply(reply))
	}
	if err := volume.Check(got); err != api.OK && volume.Check(s) == api.OK {
		t.Errorf("P11.4: Do(%s, %s): %s may not be: %d", told(s), toldOp(x), told(got), err)
	}
	return got
}

// wantPlain asks for what the plain way has, and for model.Do's reply and
// model, but where there is no space: then nothing may have changed.
func wantPlain(t *testing.T, s volume.State, x model.Op) volume.State {
	t.Helper()
	before := plainOf(s)
	m, reply := model.Do(before.model(), x)
	if reply.Err != api.OK {
		return wantDo(t, s, x, s, reply)
	}
	after, space := plainDo(before, x)
	if !space {
		if x.What == read || x.What == list || x.What == snapshot {
			t.Fatalf("the test's own plain way has no space for %s", toldOp(x))
		}
		return wantDo(t, s, x, s, model.Reply{Err: api.ErrSpace, Size: s.Size})
	}
	got := wantDo(t, s, x, after.state(), reply)
	wantModel(t, got, m)
	return got
}
