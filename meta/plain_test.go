package meta_test

import (
	"bytes"
	"fmt"
	"math"
	"slices"
	"strconv"
	"testing"

	"flagstone/api"
	"flagstone/free"
	"flagstone/meta"
	"flagstone/tree"
	"flagstone/volume"
)

const most = math.MaxUint64

// octets has 64 of each of these.
func octets(of ...byte) []byte {
	var out []byte
	for _, b := range of {
		out = append(out, bytes.Repeat([]byte{b}, 64)...)
	}
	return out
}

// sector has 64 octets that no other place's sector has.
func sector(place int) []byte {
	b := make([]byte, 64)
	b[0], b[1], b[63] = byte(place), byte(place>>8), 200
	return b
}

// at is a map: of each three numbers Virt, Phys and Len.
func at(numbers ...int) []api.Extent {
	var out []api.Extent
	for ; len(numbers) > 0; numbers = numbers[3:] {
		out = append(out, api.Extent{Virt: numbers[0], Phys: numbers[1], Len: numbers[2]})
	}
	return out
}

func spans(numbers ...int) []api.Span {
	var out []api.Span
	for ; len(numbers) > 0; numbers = numbers[2:] {
		out = append(out, api.Span{At: numbers[0], Len: numbers[1]})
	}
	return out
}

// freeSpans is the spans of data sectors that nobody refers to, looked for
// sector by sector.
func freeSpans(s volume.State) []api.Span {
	used := make([]bool, len(s.Data))
	for _, list := range append(lists(s.Snaps), s.Now) {
		for _, x := range list {
			for i := range x.Len {
				if place := x.Phys + i; place >= 0 && place < len(used) {
					used[place] = true
				}
			}
		}
	}
	var out []api.Span
	for place, is := range used {
		if !is && place > 0 && !used[place-1] {
			out[len(out)-1].Len++
		} else if !is {
			out = append(out, api.Span{At: place, Len: 1})
		}
	}
	return out
}

func lists(snaps []volume.Snap) [][]api.Extent {
	var out [][]api.Extent
	for _, snap := range snaps {
		out = append(out, snap.List)
	}
	return out
}

// made is a volume of such maps, over room sectors that all differ; Next is
// one above the last ID.
func made(size, room int, now []api.Extent, snaps ...volume.Snap) volume.State {
	s := volume.State{Size: size, Now: now, Snaps: snaps, Next: 1}
	for _, snap := range snaps {
		s.Next = snap.ID + 1
	}
	for place := range room {
		s.Data = append(s.Data, sector(place))
	}
	s.Free = free.State{Size: room, Spans: freeSpans(s)}
	return s
}

// striped has n extents of one sector, two apart on the disk and so many in
// the data.
func striped(n, virt, phys, step int) []api.Extent {
	var out []api.Extent
	for i := range n {
		out = append(out, api.Extent{Virt: virt + 2*i, Phys: phys + step*i, Len: 1})
	}
	return out
}

// ordinary has holes, shared sectors, a sector that one map has twice, and
// snapshots of fewer and of more sectors. Of its 16 data sectors 1, 7, 9 and
// 13 to 15 are free.
func ordinary() volume.State {
	return made(8, 16, at(0, 2, 2, 3, 4, 1, 6, 10, 2),
		volume.Snap{ID: 1, Name: "less", Size: 3, List: at(0, 2, 3)},
		volume.Snap{ID: 2, Name: "none"},
		volume.Snap{ID: 4, Name: "0123456789abcdef", Size: 20, List: at(0, 0, 1, 5, 8, 1, 7, 8, 1, 18, 5, 2)},
		volume.Snap{ID: 9, Name: "\x00", Size: 8, List: at(1, 12, 1)},
	)
}

// fenced has so many free spans of one sector, with a used one ahead of each
// and one behind all; a map alone has not so many extents.
func fenced(count int) volume.State {
	half := count / 2
	behind := volume.Snap{ID: 1, Name: "behind", Size: 2100, List: striped(count+1-half, 0, 2*half, 2)}
	return made(2100, 2*count+1, striped(half, 0, 0, 2), behind)
}

// hex is a number of 8 octets, told as their 16 digits, the highest first.
func hex(digits string) uint64 {
	if len(digits) != 16 {
		panic("the test's own number is not of 8 octets: " + digits)
	}
	n, err := strconv.ParseUint(digits, 16, 64)
	if err != nil {
		panic(err)
	}
	return n
}

// item has a key and a value as their digits are told, in groups.
func item(key, value string) api.Item {
	var out api.Item
	for _, c := range key {
		if c != ' ' {
			out.Key = out.Key<<4 | digit(c)
		}
	}
	for _, c := range value {
		if c != ' ' {
			out.Value = out.Value<<4 | digit(c)
		}
	}
	return out
}

func digit(c rune) uint64 {
	n, err := strconv.ParseUint(string(c), 16, 4)
	if err != nil {
		panic(err)
	}
	return n
}

// wordOf is the hex digits of 8 octets of a name, the first one last.
func wordOf(name string, from int) string {
	b := make([]byte, 24)
	copy(b, name)
	b = b[from : from+8]
	slices.Reverse(b)
	return fmt.Sprintf("%x", b)
}

// plainItems is the chapter's words, by digits; of any numbers that fit.
func plainItems(s volume.State) []api.Item {
	values := map[uint64]uint64{hex(fmt.Sprintf("04%014x", 0)): hex(fmt.Sprintf("%08x%08x", s.Size, s.Next))}
	put := func(owner int, list []api.Extent) {
		for _, x := range list {
			values[hex(fmt.Sprintf("01%06x%08x", owner, x.Virt))] = hex(fmt.Sprintf("%08x%08x", x.Phys, x.Len))
			values[hex(fmt.Sprintf("02%06x%03x%05x", x.Phys, owner, x.Virt))] = hex(fmt.Sprintf("%016x", x.Len))
		}
	}
	put(0, s.Now)
	for _, snap := range s.Snaps {
		put(snap.ID, snap.List)
		values[hex(fmt.Sprintf("03%012x%02x", snap.ID, 0))] = hex(wordOf(snap.Name, 0))
		values[hex(fmt.Sprintf("03%012x%02x", snap.ID, 1))] = hex(wordOf(snap.Name, 8))
		values[hex(fmt.Sprintf("03%012x%02x", snap.ID, 2))] = hex(fmt.Sprintf("%014x%02x", snap.Size, len(snap.Name)))
	}
	var out []api.Item
	for key, value := range values {
		out = append(out, api.Item{Key: key, Value: value})
	}
	slices.SortFunc(out, byKey)
	return out
}

func byKey(a, b api.Item) int {
	return bytes.Compare([]byte(fmt.Sprintf("%016x", a.Key)), []byte(fmt.Sprintf("%016x", b.Key)))
}

// plainLoad guesses from the items alone which volume they could be of, and
// asks whether they are just its items.
func plainLoad(l []api.Item, data [][]byte) (volume.State, api.Errno) {
	for i := range l {
		if i > 0 && l[i].Key <= l[i-1].Key {
			return volume.State{}, api.ErrOrder
		}
	}
	if len(l) == 0 {
		return volume.State{}, api.ErrCorrupt
	}
	end := l[len(l)-1].Value
	s := volume.State{Size: int(end / (1 << 32)), Next: int(end % (1 << 32)), Data: data, Now: plainList(l, 0)}
	for _, x := range l {
		if x.Key/(1<<56) == 3 && x.Key%256 == 2 && x.Key%(1<<56) < 256*256 {
			id := int(x.Key % (1 << 56) / 256)
			s.Snaps = append(s.Snaps, volume.Snap{ID: id, Name: plainName(l, x), Size: int(x.Value / 256), List: plainList(l, id)})
		}
	}
	s.Free = free.State{Size: len(data), Spans: freeSpans(s)}
	if volume.Check(s) != api.OK || !slices.Equal(plainItems(s), l) {
		return volume.State{}, api.ErrCorrupt
	}
	return s, api.OK
}

func plainList(l []api.Item, owner int) []api.Extent {
	var out []api.Extent
	for _, x := range l {
		// Those that are far too great are told as -1, so that no sum of them
		// goes round.
		small := func(n uint64) int {
			if n > 65536 {
				return -1
			}
			return int(n)
		}
		if x.Key>>32 == uint64(1<<24+owner) {
			out = append(out, api.Extent{Virt: small(x.Key % (1 << 32)), Phys: small(x.Value >> 32), Len: small(x.Value % (1 << 32))})
		}
	}
	return out
}

// plainName is the name whose last item x is.
func plainName(l []api.Item, x api.Item) string {
	var words []byte
	for _, y := range l {
		if y.Key/256 == x.Key/256 && y.Key < x.Key {
			for i := range 8 {
				words = append(words, byte(y.Value>>(8*i)))
			}
		}
	}
	return string(words[:min(len(words), int(x.Value%256))])
}

// plainSave is the chapter's words, one after another.
func plainSave(s tree.State, root int, l []api.Item) (tree.State, int, api.Errno) {
	if err := tree.Check(s, root); err != api.OK {
		return tree.State{}, 0, err
	}
	for i := range l {
		if i > 0 && l[i].Key <= l[i-1].Key {
			return tree.State{}, 0, api.ErrOrder
		}
	}
	was, _ := tree.Range(s, root, 0, math.MaxInt)
	var err api.Errno
	for _, x := range was {
		if slices.ContainsFunc(l, func(y api.Item) bool { return y.Key == x.Key }) {
			continue
		}
		if s, root, _, err = tree.Delete(s, root, x.Key); err != api.OK {
			return tree.State{}, 0, err
		}
		s, _ = tree.Keep(s, []int{root})
	}
	for _, x := range l {
		if slices.Contains(was, x) {
			continue
		}
		if s, root, err = tree.Put(s, root, x); err != api.OK {
			return tree.State{}, 0, err
		}
		s, _ = tree.Keep(s, []int{root})
	}
	s, _ = tree.Keep(s, []int{root})
	return s, root, api.OK
}

func sameSectors(a, b [][]byte) bool {
	return slices.EqualFunc(a, b, bytes.Equal)
}

// same takes nil and empty lists as one.
func same(a, b volume.State) bool {
	sameSnap := func(x, y volume.Snap) bool {
		return x.ID == y.ID && x.Name == y.Name && x.Size == y.Size && slices.Equal(x.List, y.List)
	}
	return a.Size == b.Size && slices.Equal(a.Now, b.Now) && slices.EqualFunc(a.Snaps, b.Snaps, sameSnap) && a.Next == b.Next &&
		a.Free.Size == b.Free.Size && slices.Equal(a.Free.Spans, b.Free.Spans) && sameSectors(a.Data, b.Data)
}

// some tells the first of a list.
func some[T any](l []T) string {
	return fmt.Sprint(len(l), l[:min(len(l), 12)])
}

func told(s volume.State) string {
	out := fmt.Sprintf("size %d, now %s", s.Size, some(s.Now))
	for _, snap := range s.Snaps[:min(len(s.Snaps), 12)] {
		out += fmt.Sprintf("; %d %q size %d, %s", snap.ID, snap.Name, snap.Size, some(snap.List))
	}
	return out + fmt.Sprintf("; next %d; of %d free %s; data %d", s.Next, s.Free.Size, some(s.Free.Spans), len(s.Data))
}

// toldItems tells the first items by their digits.
func toldItems(l []api.Item) string {
	out := fmt.Sprint(len(l), " items")
	for _, x := range l[:min(len(l), 40)] {
		out += fmt.Sprintf(" %016x:%016x", x.Key, x.Value)
	}
	return out
}

func wantItems(t *testing.T, s volume.State, want []api.Item) {
	t.Helper()
	if l, err := meta.Items(s); !slices.Equal(l, want) || err != api.OK {
		t.Errorf("P14.1: Items(%s): %s, %d; want %s", told(s), toldItems(l), err, toldItems(want))
	}
}

// wantWhole asks for the plain way's items, and that Load of them is s.
func wantWhole(t *testing.T, s volume.State) []api.Item {
	t.Helper()
	if err := volume.Check(s); err != api.OK {
		t.Fatalf("the test's own volume may not be: %s", told(s))
	}
	l := plainItems(s)
	wantItems(t, s, l)
	if got, err := meta.Load(l, s.Data); !same(got, s) || err != api.OK {
		t.Errorf("P14.3: Load of Items of %s: %s, %d", told(s), told(got), err)
	}
	return l
}

// wantLoad asks for the plain way's volume, and for that error.
func wantLoad(t *testing.T, what string, l []api.Item, data [][]byte, wantErr api.Errno) {
	t.Helper()
	want, err := plainLoad(l, data)
	if err != wantErr {
		t.Fatalf("the test's own plain way: %s: Load(%s, %d sectors): %d; want %d", what, toldItems(l), len(data), err, wantErr)
	}
	got, err := meta.Load(l, data)
	if !same(got, want) || err != wantErr {
		t.Errorf("P14.1: %s: Load(%s, %d sectors): %s, %d; want %s, %d", what, toldItems(l), len(data), told(got), err, told(want), wantErr)
	}
	if again, e := meta.Items(got); err == api.OK && (!slices.Equal(again, l) || e != api.OK) {
		t.Errorf("P14.1: %s: Items of Load(%s): %s, %d", what, toldItems(l), toldItems(again), e)
	}
}

func samePages(a, b tree.State) bool {
	return slices.EqualFunc(a.Pages, b.Pages, bytes.Equal)
}

func toldPages(s tree.State) string {
	out := fmt.Sprint(len(s.Pages), " pages")
	for i, page := range s.Pages[:min(len(s.Pages), 12)] {
		out += fmt.Sprintf(" %d(% x)", i+1, page[:min(len(page), 24)])
	}
	return out
}

// wantSave asks for the plain way's tree, and for that error; of a tree also
// for what it has.
func wantSave(t *testing.T, what string, s tree.State, root int, l []api.Item, wantErr api.Errno) (tree.State, int) {
	t.Helper()
	want, wantRoot, err := plainSave(s, root, l)
	if err != wantErr {
		t.Fatalf("the test's own plain way: %s: Save(%s, %d, %s): %d; want %d", what, toldPages(s), root, toldItems(l), err, wantErr)
	}
	got, gotRoot, err := meta.Save(s, root, l)
	if !samePages(got, want) || gotRoot != wantRoot || err != wantErr {
		t.Errorf("P14.2: %s: Save(%s, %d, %s): %s, %d, %d; want %s, %d, %d", what, toldPages(s), root, toldItems(l), toldPages(got), gotRoot, err, toldPages(want), wantRoot, wantErr)
	}
	if err == api.OK {
		wantSaved(t, what, got, gotRoot, l)
	}
	return got, gotRoot
}

// wantSaved asks that the tree has just those items, and that there are just
// its pages.
func wantSaved(t *testing.T, what string, s tree.State, root int, l []api.Item) {
	t.Helper()
	if has, err := tree.Range(s, root, 0, math.MaxInt); !slices.Equal(has, l) || err != api.OK {
		t.Errorf("P14.2: %s: the tree has %s, %d; want %s", what, toldItems(has), err, toldItems(l))
	}
	reached, _ := tree.Reach(s, root)
	var pages []int
	for i, page := range s.Pages {
		if len(page) > 0 {
			pages = append(pages, i+1)
		}
	}
	if !slices.Equal(pages, reached) {
		t.Errorf("P14.4: %s: the pages are %v; want %v", what, pages, reached)
	}
	if n := len(s.Pages); n > 0 && len(s.Pages[n-1]) == 0 {
		t.Errorf("P14.4: %s: the last of %d pages is free", what, n)
	}
}
