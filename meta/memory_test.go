package meta_test

import (
	"fmt"
	"slices"
	"testing"

	"flagstone/api"
	"flagstone/free"
	"flagstone/meta"
	"flagstone/tree"
	"flagstone/volume"
)

// roomy is a copy with memory behind its end, in which a call might write.
func roomy[T any](l []T, behind T) []T {
	out := append(make([]T, 0, len(l)+3), l...)
	return append(out, behind, behind, behind)[:len(l)]
}

func whole[T any](l []T) []T {
	return l[:cap(l)]
}

func roomyMap(l []api.Extent) []api.Extent {
	return roomy(l, api.Extent{Virt: 70, Phys: 71, Len: 72})
}

func roomyItems(l []api.Item) []api.Item {
	return roomy(l, api.Item{Key: most, Value: 75})
}

// roomySectors is a copy of l each of whose lists has memory behind it, those
// that are empty too.
func roomySectors(l [][]byte) [][]byte {
	out := roomy(l, octets(0xe1))
	for i := range whole(out) {
		whole(out)[i] = roomy(whole(out)[i], 0xe2)
	}
	return out
}

func roomyState(s volume.State) volume.State {
	out := s
	out.Now = roomyMap(s.Now)
	out.Snaps = roomy(s.Snaps, volume.Snap{ID: 77, Name: "behind"})
	for i := range whole(out.Snaps) {
		snap := &whole(out.Snaps)[i]
		snap.List = roomyMap(snap.List)
	}
	out.Free.Spans = roomy(s.Free.Spans, api.Span{At: 73, Len: 74})
	out.Data = roomySectors(s.Data)
	return out
}

// deepSectors is a copy of all that l reaches, also of what is behind its
// ends.
func deepSectors(l [][]byte) [][]byte {
	out := slices.Clone(whole(l))
	for i := range out {
		out[i] = slices.Clone(whole(out[i]))
	}
	return out
}

func deep(s volume.State) volume.State {
	out := s
	out.Now = slices.Clone(whole(s.Now))
	out.Snaps = slices.Clone(whole(s.Snaps))
	for i := range out.Snaps {
		out.Snaps[i].List = slices.Clone(whole(out.Snaps[i].List))
	}
	out.Free.Spans = slices.Clone(whole(s.Free.Spans))
	out.Data = deepSectors(s.Data)
	return out
}

// spoilAll makes all of l, and of what is behind its end, another thing.
func spoilAll[T any](l []T, with T) {
	for i := range whole(l) {
		whole(l)[i] = with
	}
}

func spoilMap(l []api.Extent) {
	spoilAll(l, api.Extent{Virt: -7, Phys: -7, Len: -7})
}

func spoilItems(l []api.Item) {
	spoilAll(l, api.Item{Key: 7, Value: 7})
}

func spoilOctets(b []byte) {
	for i := range whole(b) {
		whole(b)[i] ^= 0x55
	}
}

func spoilSectors(l [][]byte) {
	for _, b := range whole(l) {
		spoilOctets(b)
	}
	spoilAll(l, octets(0xe4))
}

func spoil(s volume.State) {
	spoilMap(s.Now)
	for _, snap := range whole(s.Snaps) {
		spoilMap(snap.List)
	}
	spoilAll(s.Snaps, volume.Snap{ID: -7, Name: "spoilt"})
	spoilAll(s.Free.Spans, api.Span{At: -7, Len: -7})
	spoilSectors(s.Data)
}

// asked is what calls are given: a volume, its data and some items, and a
// tree in which they are to be saved.
type asked struct {
	volume volume.State
	items  []api.Item
	data   [][]byte
	tree   tree.State
	root   int
}

func roomyAsked(x asked) asked {
	return asked{roomyState(x.volume), roomyItems(x.items), roomySectors(x.data), tree.State{Pages: roomySectors(x.tree.Pages)}, x.root}
}

func deepAsked(x asked) asked {
	return asked{deep(x.volume), slices.Clone(whole(x.items)), deepSectors(x.data), tree.State{Pages: deepSectors(x.tree.Pages)}, x.root}
}

func (x asked) spoil() {
	spoil(x.volume)
	spoilItems(x.items)
	spoilSectors(x.data)
	spoilSectors(x.tree.Pages)
}

func sameAsked(a, b asked) bool {
	return same(a.volume, b.volume) && slices.Equal(a.items, b.items) && sameSectors(a.data, b.data) && samePages(a.tree, b.tree) && a.root == b.root
}

func toldAsked(x asked) string {
	return fmt.Sprint(told(x.volume), "; ", toldItems(x.items), "; ", len(x.data), " sectors; ", toldPages(x.tree), x.root)
}

// answers is what all calls answer of one thing that is asked.
type answers struct {
	items []api.Item
	back  volume.State
	saved tree.State
	rest  string
}

func answersOf(x asked) answers {
	var a answers
	var errs [3]api.Errno
	var root int
	a.items, errs[0] = meta.Items(x.volume)
	a.back, errs[1] = meta.Load(x.items, x.data)
	a.saved, root, errs[2] = meta.Save(x.tree, x.root, x.items)
	a.rest = fmt.Sprint(errs, root)
	return a
}

func (a answers) spoil() {
	spoilItems(a.items)
	spoil(a.back)
	spoilSectors(a.saved.Pages)
}

func sameAnswers(a, b answers) bool {
	return slices.Equal(a.items, b.items) && same(a.back, b.back) && samePages(a.saved, b.saved) && a.rest == b.rest
}

func (a answers) told() string {
	return fmt.Sprint(toldItems(a.items), "; ", told(a.back), "; ", toldPages(a.saved), "; ", a.rest)
}

// someAsked has all that calls take, and such as they refuse.
func someAsked(t *testing.T) []asked {
	t.Helper()
	var out []asked
	s, l := ordinary(), itemsOf(ordinary())
	elder := grown(t, l[5:])
	for _, r := range []rooted{{}, elder, grown(t, l), filled(elder, 2048, 0), filled(elder, 2048, 9), {elder.s, -1}, {tree.State{Pages: make([][]byte, 2049)}, 0}} {
		for _, items := range [][]api.Item{nil, l, l[1:], l[:9], append(slices.Clone(l), l[0]), itemsAt(1, 2, 3)} {
			out = append(out, asked{s, items, s.Data, r.s, r.root})
		}
	}
	for _, v := range []volume.State{made(8, 0, nil), made(8, 4, nil), fenced(1024), fenced(1025), badStates()["neither"], badStates()["a sector of 63"], badStates()["names alike"]} {
		out = append(out, asked{v, l, v.Data, elder.s, elder.root}, asked{v, plainItems(made(8, 0, nil)), v.Data, elder.s, elder.root})
	}
	return out
}

// P14.5, P2: neither what is handed in nor the memory behind it is changed,
// be it taken or refused, and a change of an answer is not seen in it.
func TestArgumentsStay(t *testing.T) {
	for _, from := range someAsked(t) {
		x := roomyAsked(from)
		before := deepAsked(x)
		a := answersOf(x)
		if !sameAsked(deepAsked(x), before) {
			t.Errorf("P14.5: of %s: a call changes what is handed in", toldAsked(from))
		}
		a.spoil()
		if !sameAsked(deepAsked(x), before) {
			t.Errorf("P14.5: of %s: a call answers the argument's memory", toldAsked(from))
		}
	}
}

// P14.5, P2: what becomes of the arguments, or of another answer, later is
// not seen in an answer.
func TestAnswersKeepNoArgument(t *testing.T) {
	for _, from := range someAsked(t) {
		x := roomyAsked(from)
		want := answersOf(roomyAsked(from))
		a, other := answersOf(x), answersOf(x)
		x.spoil()
		other.spoil()
		if !sameAnswers(a, want) {
			t.Errorf("P14.5: of %s: a call keeps what is handed in, or what it answered", toldAsked(from))
		}
	}
}

// wantApart spoils one list after another, and asks that no other one sees it.
func wantApart[T comparable](t *testing.T, what string, lists [][]T, spoil func(l []T)) {
	t.Helper()
	for i := range lists {
		var before [][]T
		for _, l := range lists {
			before = append(before, slices.Clone(whole(l)))
		}
		spoil(lists[i])
		for k := range lists {
			if k != i && !slices.Equal(whole(lists[k]), before[k]) {
				t.Errorf("P14.5: %s: lists %d and %d share memory", what, i, k)
			}
		}
	}
}

// P14.5, P2: no two lists of an answer share memory, even where those of the
// arguments do.
func TestListsOfAnAnswerShareNone(t *testing.T) {
	r := grown(t, itemsAt(upTo(20, 3)...))
	for _, from := range []rooted{r, {}} {
		s, b := sharing()
		a := answersOf(asked{s, itemsOf(s), s.Data, from.s, from.root})
		if !same(a.back, s) || len(a.saved.Pages) == 0 {
			t.Fatalf("P14.3: %s", a.told())
		}
		wantApart(t, "Load", append(lists(whole(a.back.Snaps)), a.back.Now, s.Now), spoilMap)
		wantApart(t, "Load", append(slices.Clone(whole(a.back.Data)), b), spoilOctets)
		wantApart(t, "Save", slices.Concat(whole(a.saved.Pages), from.s.Pages), spoilOctets)
	}
}

// sharing is a volume all of whose lists that may share their memory do, and
// the octets of each of its sectors.
func sharing() (volume.State, []byte) {
	l, b := at(0, 1, 2, 2, 0, 1), octets(6)
	s := made(8, 6, l, volume.Snap{ID: 1, Name: "a", Size: 8, List: l}, volume.Snap{ID: 4, Name: "b", Size: 8, List: l})
	for i := range s.Data {
		s.Data[i] = b
	}
	return s, b
}

// P1: nil and empty lists are one.
func TestNilAndEmpty(t *testing.T) {
	empty := volume.State{
		Size: 8, Now: []api.Extent{}, Snaps: []volume.Snap{{ID: 1, Name: "a", List: []api.Extent{}}}, Next: 2,
		Free: free.State{Spans: []api.Span{}}, Data: [][]byte{},
	}
	none := volume.State{Size: 8, Snaps: []volume.Snap{{ID: 1, Name: "a"}}, Next: 2}
	r := grown(t, itemsAt(1, 2, 3, 4))
	freed := tree.State{Pages: slices.Clone(r.s.Pages)}
	freed.Pages = append(freed.Pages, nil, []byte{})
	for _, x := range []struct{ a, b asked }{
		{asked{volume: none}, asked{empty, []api.Item{}, [][]byte{}, tree.State{Pages: [][]byte{}}, 0}},
		{asked{volume: none, items: itemsOf(none)}, asked{empty, itemsOf(none), [][]byte{}, tree.State{Pages: [][]byte{nil, {}}}, 0}},
		{asked{none, nil, nil, r.s, r.root}, asked{empty, []api.Item{}, [][]byte{}, freed, r.root}},
		{asked{none, nil, [][]byte{nil}, r.s, r.root}, asked{empty, []api.Item{}, [][]byte{{}}, freed, r.root}},
	} {
		if a, b := answersOf(x.a), answersOf(x.b); !sameAnswers(a, b) {
			t.Errorf("P1: of nil and of empty lists: %s; %s", a.told(), b.told())
		}
	}
}

// P3: a call hangs on its arguments alone, not on the calls ahead of it.
func TestCallsKeepNothing(t *testing.T) {
	all := someAsked(t)
	var first []answers
	for _, x := range all {
		first = append(first, answersOf(x))
	}
	for i, x := range slices.Backward(all) {
		if again := answersOf(roomyAsked(x)); !sameAnswers(again, first[i]) {
			t.Errorf("P3: %s; then %s", first[i].told(), again.told())
		}
	}
}
