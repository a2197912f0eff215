package meta_test

import (
	"bytes"
	"fmt"
	"math"
	"slices"
	"testing"

	"flagstone/api"
	"flagstone/leaf"
	"flagstone/meta"
	"flagstone/tree"
)

// rooted is a state and a root in it.
type rooted struct {
	s    tree.State
	root int
}

// itemsAt has these keys, each with another value.
func itemsAt(keys ...uint64) []api.Item {
	var out []api.Item
	for _, key := range keys {
		out = append(out, api.Item{Key: key, Value: key ^ 0x5500ff})
	}
	return out
}

// upTo has the keys from 1 on, times step.
func upTo(count int, step uint64) []uint64 {
	var out []uint64
	for i := range count {
		out = append(out, uint64(i+1)*step)
	}
	return out
}

// grown is a tree into which these items were put, and all pages that were
// made on the way.
func grown(t *testing.T, l []api.Item) rooted {
	t.Helper()
	var r rooted
	for _, x := range l {
		var err api.Errno
		if r.s, r.root, err = tree.Put(r.s, r.root, x); err != api.OK {
			t.Fatal("the test's own tree:", err)
		}
	}
	return r
}

// filled is r with pages among its own and behind them that no root reaches,
// and so many free ones at the end.
func filled(r rooted, pages, free int) rooted {
	out := tree.State{Pages: slices.Clone(r.s.Pages)}
	for len(out.Pages) < pages-free {
		out.Pages = append(out.Pages, nil)
	}
	for i, page := range out.Pages {
		if len(page) == 0 {
			out.Pages[i] = octets(7)
		}
	}
	for len(out.Pages) < pages {
		out.Pages = append(out.Pages, nil)
	}
	return rooted{out, r.root}
}

// pageOf is a page by layer 7.
func pageOf(n leaf.Node) []byte {
	b, err := leaf.Encode(n)
	if err != api.OK {
		panic("the test's own node may not be")
	}
	return b
}

// sparse has a leaf of one item for each of 2^(depth-1) keys, and two kids in
// each node above: no tree has more pages for as many items.
func sparse(depth int) (rooted, []api.Item) {
	var pages [][]byte
	var level []int
	l := itemsAt(upTo(1<<(depth-1), 10)...)
	for i, x := range l {
		pages = append(pages, pageOf(leaf.Node{Items: []api.Item{x}}))
		level = append(level, i+1)
	}
	for width := 1; len(level) > 1; width *= 2 {
		var above []int
		for i := 0; i < len(level); i += 2 {
			key := l[(i+1)*width].Key
			pages = append(pages, pageOf(leaf.Node{Items: []api.Item{{Key: key}}, Kids: level[i : i+2]}))
			above = append(above, len(pages))
		}
		level = above
	}
	return rooted{tree.State{Pages: pages}, len(pages)}, l
}

// someLists has items at all ends, few and many.
func someLists() [][]api.Item {
	out := [][]api.Item{
		nil, {}, {{}}, {{Key: most, Value: most}}, itemsAt(5), itemsAt(0, most), itemsAt(1, 2, 3), itemsAt(1, 2, 3, 4), itemsAt(10, 20, 30, 40),
		itemsAt(upTo(9, 1)...), itemsAt(upTo(40, 2)...), itemsAt(upTo(40, 3)...), plainItems(ordinary()),
	}
	other := itemsAt(upTo(40, 2)...)
	for i := range other {
		if i%3 == 1 {
			other[i].Value++
		}
	}
	zeros := itemsAt(upTo(12, 5)...)
	for i := range zeros {
		zeros[i].Value = 0
	}
	return append(out, other, zeros)
}

// P14.2, P14.4: from each to each: from none to some, from some to none, to
// the same, and to others, with the pages that the way left and without.
func TestSaveFromEachToEach(t *testing.T) {
	for i, from := range someLists() {
		whole := grown(t, from)
		s, root := wantSave(t, "from nothing", tree.State{}, 0, from, api.OK)
		for k, to := range someLists() {
			what := fmt.Sprint("from list ", i, " to ", k)
			wantSave(t, what, whole.s, whole.root, to, api.OK)
			after, top := wantSave(t, what, s, root, to, api.OK)
			again, topAgain := wantSave(t, what+" again", after, top, to, api.OK)
			if !samePages(again, after) || topAgain != top {
				t.Errorf("P14.2: %s: saved again it is another one: %s, %d; was %s, %d", what, toldPages(again), topAgain, toldPages(after), top)
			}
		}
	}
}

// P14.2: by the numbers: what is the same is not put, so that its page stays,
// and an elder root's pages go.
func TestSaveOfTheSame(t *testing.T) {
	l := itemsAt(1, 2, 3)
	r := grown(t, l) // pages 1, 2 and 3; the root is 3
	if len(r.s.Pages) != 3 || r.root != 3 {
		t.Fatal("the test's own tree:", toldPages(r.s), r.root)
	}
	s, root := wantSave(t, "the same", r.s, r.root, l, api.OK)
	if root != 3 || len(s.Pages) != 3 || len(s.Pages[0]) != 0 || len(s.Pages[1]) != 0 || !bytes.Equal(s.Pages[2], r.s.Pages[2]) {
		t.Errorf("P14.2: the same: %s, %d; want page 3 as it was, alone", toldPages(s), root)
	}
	// With other values 1 and 2 are put: pages 4, for no page was free, and 1.
	l[0].Value++
	l[1].Value++
	if s, root := wantSave(t, "other values", r.s, r.root, l, api.OK); root != 1 || len(s.Pages) != 1 {
		t.Errorf("P14.2: other values: %s, %d; want page 1 alone", toldPages(s), root)
	}
	// The first change has none of 2048 pages; saved of nothing else, it is.
	full := filled(r, 2048, 0)
	if s, root := wantSave(t, "the same, full", full.s, full.root, itemsAt(1, 2, 3), api.OK); root != 3 || len(s.Pages) != 3 {
		t.Errorf("P14.2: the same, of 2048 pages: %s, %d; want 3 pages", toldPages(s), root)
	}
	wantSave(t, "others, full", full.s, full.root, l, api.ErrSpace)
}

// P14.2: no items: no root, and no pages.
func TestSaveOfNothing(t *testing.T) {
	for _, r := range []rooted{{}, grown(t, itemsAt(1, 2, 3, 4)), {tree.State{Pages: [][]byte{octets(1), nil, {1, 2}}}, 0}, {tree.State{Pages: make([][]byte, 2048)}, 0}} {
		s, root := wantSave(t, "nothing", r.s, r.root, nil, api.OK)
		if root != 0 || len(s.Pages) != 0 {
			t.Errorf("P14.2: Save of nothing: %s, %d; want no pages, 0", toldPages(s), root)
		}
	}
}

// badTrees has such as tree.Check refuses, with what it tells.
func badTrees(t *testing.T) map[string]struct {
	rooted
	err api.Errno
} {
	t.Helper()
	r := grown(t, itemsAt(1, 2, 3, 4, 5))
	broken := tree.State{Pages: slices.Clone(r.s.Pages)}
	reached, _ := tree.Reach(r.s, r.root)
	broken.Pages[reached[0]-1] = nil
	type tried = struct {
		rooted
		err api.Errno
	}
	return map[string]tried{
		"2049 pages":              {filled(r, 2049, 0), api.ErrCount},
		"2049 free pages, root 0": {rooted{tree.State{Pages: make([][]byte, 2049)}, 0}, api.ErrCount},
		"2049 pages, no root":     {rooted{filled(r, 2049, 0).s, -1}, api.ErrCount},
		"a root of -1":            {rooted{r.s, -1}, api.ErrState},
		"the least root":          {rooted{r.s, math.MinInt}, api.ErrState},
		"the greatest root":       {rooted{r.s, math.MaxInt}, api.ErrState},
		"a root behind the last":  {rooted{r.s, len(r.s.Pages) + 1}, api.ErrState},
		"a root of no pages":      {rooted{tree.State{}, 1}, api.ErrState},
		"a free root":             {rooted{tree.State{Pages: make([][]byte, 3)}, 1}, api.ErrState},
		"a root that is no page":  {rooted{tree.State{Pages: [][]byte{octets(1)}}, 1}, api.ErrState},
		"a free leaf":             {rooted{broken, r.root}, api.ErrState},
	}
}

// P14.2: tree.Check's error, ahead of ErrOrder, and nothing beside it.
func TestSaveOfTreesThatMayNotBe(t *testing.T) {
	for name, x := range badTrees(t) {
		if err := tree.Check(x.s, x.root); err != x.err {
			t.Errorf("the test's own tree: %s: %d; want %d", name, err, x.err)
		}
		for _, l := range append(someLists(), []api.Item{{Key: 1}, {Key: 1}}, []api.Item{{Key: 2}, {Key: 1}}) {
			wantSave(t, name, x.s, x.root, l, x.err)
		}
	}
}

// P14.2: keys that do not rise, ahead of all that the tree might have against
// it.
func TestSaveOutOfOrder(t *testing.T) {
	trees := []rooted{{}, grown(t, itemsAt(1, 2, 3, 4)), filled(grown(t, itemsAt(1, 2, 3, 4)), 2048, 0)}
	for _, r := range trees {
		for _, l := range [][]api.Item{
			{{Key: 1}, {Key: 1}}, {{Key: 2}, {Key: 1}}, {{Key: 0}, {Key: 0}}, {{Key: most}, {Key: most}}, {{Key: most}, {Key: 0}},
			{{Key: 1 << 63}, {Key: 1}}, {{Key: 1}, {Key: 2}, {Key: 2}}, {{Key: 1}, {Key: 3}, {Key: 2}}, {{Key: 1, Value: 5}, {Key: 1, Value: 6}, {Key: 7}},
		} {
			wantSave(t, "out of order", r.s, r.root, l, api.ErrOrder)
		}
	}
	for i := range 30 {
		l := itemsAt(upTo(31, 3)...)
		l[i].Key = l[i+1].Key
		wantSave(t, "two alike", trees[1].s, trees[1].root, l, api.ErrOrder)
		l[i].Key++
		wantSave(t, "one below another", trees[1].s, trees[1].root, l, api.ErrOrder)
	}
}

// P14.2: with so many free pages for the first change; behind it all that the
// new root does not reach are free.
func TestSaveWithFewPages(t *testing.T) {
	from := itemsAt(upTo(40, 2)...)
	kept, root, _ := meta.Save(tree.State{}, 0, from)
	refused, done := 0, 0
	for free := range 12 {
		r := filled(rooted{kept, root}, 2048, free)
		for k, to := range someLists() {
			_, _, err := plainSave(r.s, r.root, to)
			wantSave(t, fmt.Sprint("to list ", k, ", free ", free), r.s, r.root, to, err)
			switch err {
			case api.OK:
				done++
			case api.ErrSpace:
				refused++
			default:
				t.Errorf("the test's own tree: %d", err)
			}
		}
	}
	if refused < 20 || done < 20 {
		t.Errorf("the test's own trees: %d refused, %d done", refused, done)
	}
}

// P14.2: a tree of nearly all pages: there is no space for a change, not even
// of an item less; where there is, it is done.
func TestSaveOfGreatTrees(t *testing.T) {
	great, l := sparse(11)
	if len(great.s.Pages) != 2047 {
		t.Fatal("the test's own tree:", len(great.s.Pages))
	}
	wantSave(t, "the same", great.s, great.root, l, api.OK)
	wantSave(t, "an item less", great.s, great.root, l[1:], api.ErrSpace)
	wantSave(t, "an item more", great.s, great.root, append(itemsAt(1), l...), api.ErrSpace)
	other := slices.Clone(l)
	other[500].Value++
	wantSave(t, "another value", great.s, great.root, other, api.ErrSpace)
	half, l := sparse(10)
	s, root := wantSave(t, "three less", half.s, half.root, l[3:], api.OK)
	s, root = wantSave(t, "five more", s, root, append(itemsAt(1, 2, 3, 4, 5), l[3:]...), api.OK)
	other = append(itemsAt(6, 7), l[10:]...)
	other[300].Value++
	wantSave(t, "others", s, root, other, api.OK)
}

// P14.2: items that have no space behind some that have: nothing is answered.
func TestSaveOfTooManyItems(t *testing.T) {
	great, l := sparse(11)
	great.s.Pages = great.s.Pages[:len(great.s.Pages)-1]
	left := rooted{great.s, 2046} // the right half of it, with as many pages that go
	half := l[512:]
	more := slices.Clone(half)
	for i := range 20 {
		more = append(more, api.Item{Key: half[511].Key + uint64(i) + 1})
	}
	wantSave(t, "the first has no space", left.s, left.root, more, api.ErrSpace)
	// 512 leaves of one item each, and each change makes few pages more.
	s, root := wantSave(t, "half of it", left.s, left.root, half, api.OK)
	wantSave(t, "some more", s, root, more, api.OK)
}

// P14.2, P14.4: of a tree that stands among others: they go.
func TestSaveAmongOtherTrees(t *testing.T) {
	r := grown(t, itemsAt(upTo(20, 3)...))
	elder := r.root
	s, root, err := tree.Put(r.s, r.root, api.Item{Key: 1000})
	if err != api.OK {
		t.Fatal(err)
	}
	for _, top := range []int{elder, root} {
		for k, l := range someLists() {
			wantSave(t, fmt.Sprint("root ", top, " to list ", k), s, top, l, api.OK)
		}
	}
}
