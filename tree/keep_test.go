package tree_test

import (
	"bytes"
	"math"
	"slices"
	"testing"

	"flagstone/api"
	"flagstone/tree"
)

func wantKeep(t *testing.T, what string, s tree.State, roots []int, want tree.State, wantErr api.Errno) {
	t.Helper()
	if next, err := tree.Keep(s, roots); !same(next, want) || err != wantErr {
		t.Errorf("P8.2: Keep, %s: %s roots %v: %s, %d; want %s, %d", what, told(s), roots, told(next), err, told(want), wantErr)
	}
}

// forest has trees side by side (their roots are 3, 5, 7, 9, 10 and 13), free
// pages, and an odd one.
func forest() tree.State {
	s := stateOf(leafOf(1, 2), leafOf(3, 4), kidsOf([]uint64{3}, 1, 2), leafOf(9), leafOf(5), node{}, kidsOf([]uint64{4}, 8, 11), leafOf(1), leafOf(7), leafOf(8), leafOf(4), node{}, leafOf(6), node{})
	s.Pages[3] = []byte{1, 2, 3}
	return s
}

// only is s with these pages alone, up to the last of them.
func only(s tree.State, numbers ...int) tree.State {
	var out tree.State
	for i, page := range s.Pages {
		if i+1 > slices.Max(append(numbers, 0)) {
			break
		}
		if !slices.Contains(numbers, i+1) {
			page = nil
		}
		out.Pages = append(out.Pages, page)
	}
	return out
}

// P8.2.
func TestReach(t *testing.T) {
	for _, x := range []struct {
		root int
		want []int
	}{{0, nil}, {1, []int{1}}, {2, []int{2}}, {3, []int{1, 2, 3}}, {5, []int{5}}, {7, []int{7, 8, 11}}, {10, []int{10}}, {13, []int{13}}} {
		if l, err := tree.Reach(forest(), x.root); !slices.Equal(l, x.want) || err != api.OK {
			t.Errorf("P8.2: Reach of %d: %v, %d; want %v, OK", x.root, l, err, x.want)
		}
	}
	// The kids' numbers fall: they are told rising all the same.
	falling := rootedAt(4, leafOf(5, 6), leafOf(3, 4), leafOf(1, 2), kidsOf([]uint64{3, 5}, 3, 2, 1))
	if l, err := tree.Reach(falling.s, falling.root); !slices.Equal(l, []int{1, 2, 3, 4}) || err != api.OK {
		t.Errorf("P8.2: Reach: %v, %d; want 1 to 4", l, err)
	}
}

// P8.2, P3: the same, however often it is asked.
func TestReachIsRising(t *testing.T) {
	s, root := grown(t, upTo(200, 1)...)
	want := mustPlain(t, "200 items", s, root).reached
	for range 20 {
		if l, err := tree.Reach(s, root); !slices.Equal(l, want) || !slices.IsSorted(l) || err != api.OK {
			t.Fatalf("P8.2: Reach: %v, %d; want %v", l, err, want)
		}
	}
}

// P8.2: no root, one, more of them; what none reaches is free, and gone at
// the end.
func TestKeep(t *testing.T) {
	s := forest()
	for _, x := range []struct {
		roots, want []int
	}{
		{nil, nil}, {[]int{}, nil}, {[]int{0}, nil}, {[]int{0, 0, 0}, nil},
		{[]int{1}, []int{1}}, {[]int{2}, []int{2}}, {[]int{3}, []int{1, 2, 3}}, {[]int{7}, []int{7, 8, 11}}, {[]int{13}, []int{13}},
		{[]int{1, 2}, []int{1, 2}}, {[]int{2, 1}, []int{1, 2}}, {[]int{3, 5}, []int{1, 2, 3, 5}}, {[]int{5, 3}, []int{1, 2, 3, 5}},
		{[]int{7, 3}, []int{1, 2, 3, 7, 8, 11}}, {[]int{0, 3, 0, 7, 0}, []int{1, 2, 3, 7, 8, 11}}, {[]int{8, 11}, []int{8, 11}},
		{[]int{3, 5, 7, 9, 10}, []int{1, 2, 3, 5, 7, 8, 9, 10, 11}}, {[]int{13, 10, 9, 7, 5, 3}, []int{1, 2, 3, 5, 7, 8, 9, 10, 11, 13}},
	} {
		wantKeep(t, "a forest", s, x.roots, only(s, x.want...), api.OK)
	}
}

// P8.2: what is kept is as it was, to each root.
func TestKeptTrees(t *testing.T) {
	next, err := tree.Keep(forest(), []int{3, 7})
	if err != api.OK {
		t.Fatal("P8.2: Keep:", err)
	}
	if p := wantWhole(t, "kept", next, 3); !slices.Equal(p.items, itemsOf(1, 2, 3, 4)) {
		t.Errorf("P8.2: the tree of 3 has %v", p.items)
	}
	if p := wantWhole(t, "kept", next, 7); !slices.Equal(p.items, itemsOf(1, 4)) {
		t.Errorf("P8.2: the tree of 7 has %v", p.items)
	}
	wantKeep(t, "once more", next, []int{3, 7}, next, api.OK)
}

// P8.2: free pages at the end are gone, others are not.
func TestKeepFreePages(t *testing.T) {
	for ahead := range 4 {
		for behind := range 4 {
			nodes := append(make([]node, ahead), leafOf(4))
			s := stateOf(append(nodes, make([]node, behind)...)...)
			wantKeep(t, "a leaf", s, []int{ahead + 1}, stateOf(nodes...), api.OK)
			wantKeep(t, "a leaf", s, nil, tree.State{}, api.OK)
			wantKeep(t, "a leaf", s, []int{0}, tree.State{}, api.OK)
		}
	}
	wantKeep(t, "no pages", tree.State{}, nil, tree.State{}, api.OK)
	wantKeep(t, "free pages", tree.State{Pages: make([][]byte, 2048)}, []int{0}, tree.State{}, api.OK)
}

// P8.2: ErrTwice: the same root twice, a part of a tree, and two trees that
// share a page; but of a root 0 nothing is reached.
func TestKeepTwice(t *testing.T) {
	s := forest()
	for _, roots := range [][]int{{1, 1}, {3, 3}, {3, 1}, {1, 3}, {3, 2}, {2, 3}, {2, 1, 3}, {5, 5}, {5, 3, 5}, {0, 5, 0, 5}, {7, 8}, {11, 7}, {7, 3, 13, 7}, {13, 13, 13}} {
		wantKeep(t, "a forest", s, roots, tree.State{}, api.ErrTwice)
	}
	shared := stateOf(leafOf(1), leafOf(5), kidsOf([]uint64{5}, 1, 2), leafOf(0), kidsOf([]uint64{4}, 4, 2), kidsOf([]uint64{9}, 1, 7), leafOf(9))
	wantKeep(t, "a shared last kid", shared, []int{3, 5}, tree.State{}, api.ErrTwice)
	wantKeep(t, "a shared first kid", shared, []int{3, 6}, tree.State{}, api.ErrTwice)
	wantKeep(t, "nothing shared", shared, []int{5, 6}, only(shared, 1, 2, 4, 5, 6, 7), api.OK)
	before, elder := grown(t, upTo(10, 1)...)
	after, newer, err := tree.Put(before, elder, item(11))
	if err != api.OK {
		t.Fatal("P8.1: Put:", err)
	}
	wantKeep(t, "an elder root and the newer one", after, []int{elder, newer}, tree.State{}, api.ErrTwice)
}

// P8.2, P4: Check's errors of all roots go ahead of ErrTwice.
func TestKeepRefuses(t *testing.T) {
	s := forest()
	for _, bad := range []int{-1, 4, 6, 12, 14, 15, 2048, 2049, math.MinInt, math.MaxInt} {
		for _, roots := range [][]int{{bad}, {3, bad}, {bad, 3}, {3, 3, bad}, {bad, 3, 3}, {3, bad, 3}, {1, 3, bad}, {0, bad}, {bad, 0}, {bad, bad}} {
			wantKeep(t, "a bad root", s, roots, tree.State{}, api.ErrState)
		}
	}
	for name, r := range treesThatMayNotBe() {
		wantKeep(t, name, r.s, []int{0, r.root}, tree.State{}, api.ErrState)
	}
	many := tree.State{Pages: make([][]byte, 2049)}
	many.Pages[0] = pageOf(leafOf(1))
	for _, roots := range [][]int{{0}, {1}, {1, 1}, {-1}, {2, 1}} {
		wantKeep(t, "too many pages", many, roots, tree.State{}, api.ErrCount)
	}
}

// P8.1, P8.2: more than 2048 pages are said of the state alone, whatever they
// are and even if there is no root to ask about.
func TestKeepOfTooManyWithoutRoots(t *testing.T) {
	for _, count := range []int{2047, 2048, 2049, 2050, 4096, 1 << 16} {
		want := api.OK
		if count > 2048 {
			want = api.ErrCount
		}
		free := tree.State{Pages: make([][]byte, count)}
		last := cloned(free)
		last.Pages[count-1] = pageOf(leafOf(1))
		noPage := cloned(free)
		noPage.Pages[0] = []byte("no page")
		for _, s := range []tree.State{free, last, noPage} {
			for _, roots := range [][]int{nil, {}, {0}, {0, 0, 0}} {
				if next, err := tree.Keep(s, roots); err != want || len(next.Pages) != 0 {
					t.Errorf("P8.2: Keep of %d pages, roots %v: %d pages, %d; want %d alone", count, roots, len(next.Pages), err, want)
				}
			}
		}
	}
}

// P1: very many roots, of which each is asked.
func TestKeepOfVeryManyRoots(t *testing.T) {
	s, root := binaryTree(11, 1)
	roots := make([]int, 1<<20)
	wantKeep(t, "roots 0", s, roots[:1<<16], tree.State{}, api.OK)
	for i := range roots {
		roots[i] = root
	}
	if next, err := tree.Keep(s, roots); err != api.ErrTwice || len(next.Pages) != 0 {
		t.Errorf("P8.2: Keep of one root very often: %d; want ErrTwice", err)
	}
	roots[len(roots)-1] = -1
	if next, err := tree.Keep(s, roots); err != api.ErrState || len(next.Pages) != 0 {
		t.Errorf("P8.2: Keep of one root very often, and a bad one: %d; want ErrState", err)
	}
}

// P8.2: all leaves of a great tree, each a root.
func TestKeepOfAllLeaves(t *testing.T) {
	s, _ := binaryTree(11, 1)
	next, err := tree.Keep(s, upToInts(1024))
	if err != api.OK || len(next.Pages) != 1024 {
		t.Fatalf("P8.2: Keep of all leaves: %d pages, %d; want 1024, OK", len(next.Pages), err)
	}
	for i, page := range next.Pages {
		if !bytes.Equal(page, s.Pages[i]) {
			t.Fatalf("P8.2: Keep of all leaves: page %d is another one", i+1)
		}
	}
}

func upToInts(n int) []int {
	var out []int
	for i := range n {
		out = append(out, i+1)
	}
	return out
}
