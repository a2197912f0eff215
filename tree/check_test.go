package tree_test

import (
	"fmt"
	"math"
	"testing"

	"flagstone/api"
	"flagstone/tree"
)

// rooted is a state and a root in it.
type rooted struct {
	s    tree.State
	root int
}

func rootedAt(root int, nodes ...node) rooted {
	return rooted{stateOf(nodes...), root}
}

// with is it, with one page another one.
func (r rooted) with(number int, page []byte) rooted {
	s := cloned(r.s)
	s.Pages[number-1] = page
	return rooted{s, r.root}
}

func threeDeep() rooted {
	return rootedAt(7,
		leafOf(1, 2), leafOf(5, 6, 7), kidsOf([]uint64{4}, 1, 2),
		leafOf(10), leafOf(20, 21), kidsOf([]uint64{15}, 4, 5),
		kidsOf([]uint64{10}, 3, 6))
}

// treesThatMayBe has trees of up to three levels, with keys at their bounds
// and at the ends of all keys, among pages that are none of theirs.
func treesThatMayBe() map[string]rooted {
	odd := []byte{1, 2, 3}
	return map[string]rooted{
		"nothing":                         {},
		"nothing, no list":                {tree.State{Pages: [][]byte{}}, 0},
		"nothing among pages":             rootedAt(0, leafOf(1), node{}, leafOf(2)),
		"nothing among odd pages":         {tree.State{Pages: [][]byte{odd, nil, make([]byte, 64)}}, 0},
		"nothing among free pages":        {tree.State{Pages: make([][]byte, 5)}, 0},
		"one item":                        rootedAt(1, leafOf(7)),
		"two items":                       rootedAt(1, leafOf(7, 9)),
		"three items":                     rootedAt(1, leafOf(7, 9, 11)),
		"all ends":                        rootedAt(1, leafOf(0, 1<<63, most)),
		"values at their ends":            rootedAt(1, node{keys: []uint64{1, 2}, values: []uint64{0, most}}),
		"a root behind others":            rootedAt(3, leafOf(1), node{}, leafOf(2), leafOf(3)),
		"a root behind odd pages":         rootedAt(3, leafOf(1), leafOf(1), leafOf(2)).with(1, odd).with(2, make([]byte, 64)),
		"two leaves":                      rootedAt(3, leafOf(1, 2), leafOf(3, 4), kidsOf([]uint64{3}, 1, 2)),
		"two leaves, a root ahead":        rootedAt(1, kidsOf([]uint64{3}, 3, 2), leafOf(3, 4), leafOf(1, 2)),
		"three leaves":                    rootedAt(1, kidsOf([]uint64{3, 5}, 2, 3, 4), leafOf(1, 2), leafOf(3, 4), leafOf(5, 6)),
		"four leaves":                     rootedAt(1, kidsOf([]uint64{3, 5, 7}, 2, 3, 4, 5), leafOf(1, 2), leafOf(3, 4), leafOf(5, 6), leafOf(7, 8, 9)),
		"four small leaves":               rootedAt(1, kidsOf([]uint64{3, 5, 7}, 2, 3, 4, 5), leafOf(2), leafOf(4), leafOf(6), leafOf(8)),
		"bounds between keys":             rootedAt(1, kidsOf([]uint64{10, 20}, 2, 3, 4), leafOf(1, 2), leafOf(15), leafOf(25)),
		"bounds at keys":                  rootedAt(1, kidsOf([]uint64{10, 20}, 2, 3, 4), leafOf(9), leafOf(10, 19), leafOf(20)),
		"bounds at all ends":              rootedAt(1, kidsOf([]uint64{1, most}, 2, 3, 4), leafOf(0), leafOf(1, most-1), leafOf(most)),
		"a bound at the least":            rootedAt(1, kidsOf([]uint64{1}, 2, 3), leafOf(0), leafOf(1)),
		"a bound at the greatest":         rootedAt(1, kidsOf([]uint64{most}, 2, 3), leafOf(0, 5, most-1), leafOf(most)),
		"kids whose numbers fall":         rootedAt(4, leafOf(5, 6), leafOf(3, 4), leafOf(1, 2), kidsOf([]uint64{3, 5}, 3, 2, 1)),
		"three deep":                      threeDeep(),
		"three deep, the left part":       {threeDeep().s, 3},
		"three deep, the right part":      {threeDeep().s, 6},
		"three deep, a leaf":              {threeDeep().s, 5},
		"three deep, an inner bound":      rootedAt(7, leafOf(1), leafOf(2), kidsOf([]uint64{2}, 1, 2), leafOf(10), leafOf(20), kidsOf([]uint64{11}, 4, 5), kidsOf([]uint64{10}, 3, 6)),
		"a broken tree beside":            rootedAt(1, leafOf(1), kidsOf([]uint64{3}, 2, 9)),
		"a tree that shares pages beside": rootedAt(3, leafOf(1), leafOf(5), kidsOf([]uint64{5}, 1, 2), kidsOf([]uint64{4}, 1, 2)),
	}
}

// chain has a leaf beside each node below the root: a tree that is deep
// without having many pages.
func chain(depth int) rooted {
	nodes := []node{leafOf(0)}
	for range depth - 1 {
		below := len(nodes)
		key := uint64(below)
		nodes = append(nodes, leafOf(key), kidsOf([]uint64{key}, below, below+1))
	}
	return rootedAt(len(nodes), nodes...)
}

// treesThatMayNotBe has such of which nearly each may not be for one reason
// alone.
func treesThatMayNotBe() map[string]rooted {
	two := rootedAt(3, leafOf(1, 2), leafOf(3, 4), kidsOf([]uint64{3}, 1, 2))
	wrongSum := pageOf(leafOf(1, 2))
	wrongSum[63] ^= 1
	wrongZeros := pageOf(leafOf(1, 2))
	wrongZeros[59] = 1
	wrongKind := pageOf(leafOf(1, 2))
	wrongKind[0] = 3
	deep := threeDeep()
	return map[string]rooted{
		"no pages":                      {tree.State{}, 1},
		"below 0":                       {two.s, -1},
		"far below 0":                   {two.s, math.MinInt},
		"behind the last":               {two.s, 4},
		"behind the last, far":          {two.s, 2048},
		"behind all that may be":        {two.s, 2049},
		"as great as can be":            {two.s, math.MaxInt},
		"of a low part that would fit":  {two.s, 1<<32 + 3},
		"a free root":                   rootedAt(1, node{}, leafOf(1)),
		"a free root, last":             rootedAt(2, leafOf(1), node{}),
		"a root of zeros":               two.with(3, make([]byte, 64)),
		"a root too short":              two.with(3, two.s.Pages[2][:63]),
		"a root too long":               two.with(3, append(two.s.Pages[2][:64:64], 0)),
		"a root of one octet":           two.with(3, []byte{0}),
		"a leaf of a wrong sum":         two.with(1, wrongSum),
		"a leaf of wrong zeros":         two.with(1, sealed(wrongZeros)),
		"a leaf of a wrong kind":        two.with(1, sealed(wrongKind)),
		"a leaf whose keys fall":        two.with(1, pageOf(leafOf(2, 1))),
		"a leaf of four items' count":   two.with(1, pageOf(kidsOf([]uint64{1, 2, 3, 4}))),
		"the last leaf too short":       two.with(2, two.s.Pages[1][:10]),
		"a value beside kids":           two.with(3, pageOf(node{keys: []uint64{3}, values: []uint64{1}, kids: []int{1, 2}})),
		"a free kid, first":             two.with(1, nil),
		"a free kid, last":              two.with(2, []byte{}),
		"a kid behind the last":         two.with(3, pageOf(kidsOf([]uint64{3}, 1, 4))),
		"a first kid behind the last":   two.with(3, pageOf(kidsOf([]uint64{3}, 2048, 2))),
		"a kid 0":                       two.with(3, pageOf(kidsOf([]uint64{3}, 0, 2))),
		"its own kid":                   rootedAt(2, leafOf(1), kidsOf([]uint64{5}, 1, 2)),
		"its own first kid":             rootedAt(2, leafOf(8), kidsOf([]uint64{5}, 2, 1)),
		"its own grandkid":              rootedAt(3, leafOf(1), leafOf(8), kidsOf([]uint64{5}, 1, 4), kidsOf([]uint64{7}, 3, 2)),
		"a kid twice":                   two.with(3, pageOf(kidsOf([]uint64{3}, 1, 1))),
		"a leaf reached twice":          rootedAt(5, leafOf(1), leafOf(5), kidsOf([]uint64{5}, 1, 2), kidsOf([]uint64{5}, 1, 2), kidsOf([]uint64{5}, 3, 4)),
		"a leaf within bounds, twice":   rootedAt(6, leafOf(1), leafOf(5), kidsOf([]uint64{5}, 1, 2), leafOf(9), kidsOf([]uint64{9}, 2, 4), kidsOf([]uint64{5}, 3, 5)),
		"a node reached twice":          rootedAt(4, leafOf(1), leafOf(5), kidsOf([]uint64{5}, 1, 2), kidsOf([]uint64{5}, 3, 1)),
		"a first leaf too high":         rootedAt(4, leafOf(1), leafOf(5), leafOf(7), kidsOf([]uint64{5}, 1, 5), kidsOf([]uint64{7}, 2, 3)),
		"a last leaf too high":          rootedAt(5, leafOf(1), leafOf(5), leafOf(7), kidsOf([]uint64{5}, 1, 2), kidsOf([]uint64{7}, 4, 3)),
		"a leaf in the middle too high": rootedAt(9, leafOf(1), leafOf(2), leafOf(5), leafOf(7), leafOf(8), kidsOf([]uint64{2}, 1, 2), node{}, kidsOf([]uint64{8}, 4, 5), kidsOf([]uint64{5, 7}, 6, 3, 8)),
		"a leaf too deep":               deep.with(1, pageOf(kidsOf([]uint64{2}, 8, 9))),
		"a key at the next bound":       rootedAt(3, leafOf(1, 3), leafOf(4), kidsOf([]uint64{3}, 1, 2)),
		"a key above the next bound":    rootedAt(3, leafOf(1, 9), leafOf(10), kidsOf([]uint64{3}, 1, 2)),
		"a key below its bound":         rootedAt(3, leafOf(1), leafOf(2, 4), kidsOf([]uint64{3}, 1, 2)),
		"keys that fall over leaves":    rootedAt(3, leafOf(8), leafOf(2), kidsOf([]uint64{5}, 1, 2)),
		"the middle kid below":          rootedAt(4, leafOf(1), leafOf(4, 6), leafOf(9), kidsOf([]uint64{5, 8}, 1, 2, 3)),
		"the middle kid at the next":    rootedAt(4, leafOf(1), leafOf(5, 8), leafOf(9), kidsOf([]uint64{5, 8}, 1, 2, 3)),
		"the third of four below":       rootedAt(5, leafOf(1), leafOf(5), leafOf(7), leafOf(9), kidsOf([]uint64{5, 8, 9}, 1, 2, 3, 4)),
		"the third of four at the next": rootedAt(5, leafOf(1), leafOf(5), leafOf(8, 9), leafOf(9), kidsOf([]uint64{5, 8, 9}, 1, 2, 3, 4)),
		"the last of four below":        rootedAt(5, leafOf(1), leafOf(5), leafOf(8), leafOf(8), kidsOf([]uint64{5, 8, 9}, 1, 2, 3, 4)),
		"a bound of 0":                  rootedAt(3, leafOf(0), leafOf(1), kidsOf([]uint64{0}, 1, 2)),
		"a bound of 0, the greatest":    rootedAt(3, leafOf(most), leafOf(1), kidsOf([]uint64{0}, 1, 2)),
		"the greatest key at its bound": rootedAt(3, leafOf(0, most), leafOf(most), kidsOf([]uint64{most}, 1, 2)),
		"below the greatest bound":      rootedAt(3, leafOf(0), leafOf(most-1), kidsOf([]uint64{most}, 1, 2)),
		"a leaf below the root's bound": deep.with(4, pageOf(leafOf(9))),
		"a leaf far below it":           deep.with(4, pageOf(leafOf(0, 10))),
		"a leaf at the root's bound":    deep.with(2, pageOf(leafOf(5, 10))),
		"a leaf above the root's bound": deep.with(2, pageOf(leafOf(5, 6, 30))),
		"an inner key at the bound":     deep.with(3, pageOf(kidsOf([]uint64{10}, 1, 2))),
		"deeper than 16":                chain(17),
		"as deep as 16, not all leaves": chain(16),
		"much deeper than 16":           chain(1000),
	}
}

// P8.1.
func TestCheckTakes(t *testing.T) {
	for name, r := range treesThatMayBe() {
		wantWhole(t, name, r.s, r.root)
	}
}

// P8.1: ErrState at each call, and nothing beside it (P4).
func TestTreesThatMayNotBe(t *testing.T) {
	for name, r := range treesThatMayNotBe() {
		if _, ok := plainOf(r.s, r.root); ok {
			t.Errorf("%s: the test's own tree may be", name)
		}
		wantRefused(t, name, r.s, r.root, api.ErrState)
	}
}

// P8.1, P4: ErrCount goes ahead of ErrState; 2048 pages are not too many,
// free or not.
func TestTooManyPages(t *testing.T) {
	for _, count := range []int{2048, 2049, 2050, 1 << 16} {
		for name, page := range map[string][]byte{"free": nil, "a leaf": pageOf(leafOf(5)), "odd": {1, 2}} {
			s := tree.State{Pages: make([][]byte, count)}
			for i := range s.Pages {
				s.Pages[i] = page
			}
			s.Pages[0] = pageOf(leafOf(7))
			what := fmt.Sprintf("%d pages, %s", count, name)
			if count == 2048 {
				wantWhole(t, what, s, 0)
				wantWhole(t, what, s, 1)
				wantRefused(t, what, s, 2049, api.ErrState)
				continue
			}
			for _, root := range []int{0, 1, 2, count, count + 1, -1, math.MinInt, math.MaxInt} {
				wantRefused(t, what, s, root, api.ErrCount)
			}
		}
	}
}

// P8.1: a tree may have all pages that there may be, and no deeper one may be
// than of 2047 pages.
func TestGreatestTrees(t *testing.T) {
	s, root := binaryTree(11, 3)
	if len(s.Pages) != 2047 {
		t.Fatalf("the test's own tree has %d pages", len(s.Pages))
	}
	p := mustPlain(t, "2047 pages", s, root)
	if err := tree.Check(s, root); err != api.OK {
		t.Errorf("P8.1: Check of 2047 pages: %d", err)
	}
	for _, key := range []uint64{0, 1, 2, 3, 4, 1535, 1536, 1537, 3068, 3069, 3070, most} {
		wantFound(t, s, root, p, key)
	}
	if l, err := tree.Reach(s, root); len(l) != 2047 || err != api.OK {
		t.Errorf("P8.2: Reach of 2047 pages: %d, %d", len(l), err)
	}
	// A page more: the last leaf's node has a third kid.
	s.Pages = append(s.Pages, pageOf(leafOf(1<<40)))
	above := 1024 + 512
	n, _ := nodeOf(s.Pages[above-1])
	s.Pages[above-1] = pageOf(kidsOf(append(n.keys, 1<<40), append(n.kids, 2048)...))
	if l, err := tree.Reach(s, root); len(l) != 2048 || err != api.OK {
		t.Errorf("P8.2: Reach of 2048 pages: %d, %d", len(l), err)
	}
	if value, there, err := tree.Get(s, root, 1<<40); value != valueOf(1<<40) || !there || err != api.OK {
		t.Errorf("P8.1: Get in 2048 pages: %d, %v, %d", value, there, err)
	}
}

// smallPages has pages of which small states are made: leaves of keys from 0
// to 3, and nodes over them.
func smallPages() [][]byte {
	all := [][]byte{nil, {7}}
	for _, keys := range [][]uint64{{0}, {1}, {2}, {3}, {0, 1}, {1, 2}, {2, 3}, {0, 1, 2}} {
		all = append(all, pageOf(leafOf(keys...)))
	}
	for _, keys := range [][]uint64{{0}, {1}, {2}, {3}} {
		for first := 1; first <= 4; first++ {
			for last := 1; last <= 4; last++ {
				all = append(all, pageOf(kidsOf(keys, first, last)))
			}
		}
	}
	return append(all, pageOf(kidsOf([]uint64{1, 2}, 1, 2, 3)), pageOf(kidsOf([]uint64{1, 3}, 3, 1, 2)), pageOf(kidsOf([]uint64{2, 3}, 2, 3, 4)))
}

// P8.1, P8.2, P1: all states of three such pages, with each root, held
// against the chapter's words; what may not be is refused by each call.
func TestEverySmallState(t *testing.T) {
	pages := smallPages()
	taken := 0
	for _, a := range pages {
		for _, b := range pages {
			for _, c := range pages {
				s := tree.State{Pages: [][]byte{a, b, c}}
				for root := -1; root <= 4; root++ {
					p, ok := plainOf(s, root)
					if !ok {
						if err := tree.Check(s, root); err != api.ErrState {
							t.Fatalf("P8.1: Check(%s root %d): %d; want ErrState", told(s), root, err)
						}
						continue
					}
					if err := tree.Check(s, root); err != api.OK {
						t.Fatalf("P8.1: Check(%s root %d): %d; want OK", told(s), root, err)
					}
					if len(p.reached) == 3 {
						taken++
						wantWhole(t, "a small one", s, root)
						wantChanges(t, s, root, p)
					}
				}
			}
		}
	}
	if taken == 0 {
		t.Error("the test's own trees may none of them be")
	}
}
