package tree_test

import (
	"fmt"
	"slices"
	"testing"

	"flagstone/api"
	"flagstone/tree"
)

// wantChanges puts and deletes each key of p, and those around it.
func wantChanges(t *testing.T, s tree.State, root int, p plain) {
	t.Helper()
	for _, key := range around(p) {
		wantPut(t, s, root, api.Item{Key: key, Value: 77})
		wantPut(t, s, root, item(key))
		if _, there := p.get(key); there {
			wantDelete(t, s, root, key)
		} else {
			wantNotThere(t, s, root, key)
		}
	}
}

// The chapter's example.
func TestExample(t *testing.T) {
	s, root := grown(t, 1, 2, 3)
	if l, err := tree.Reach(s, root); len(l) != 1 || err != api.OK {
		t.Errorf("P8.2: Reach of three items: %v, %d; want one leaf", l, err)
	}
	s, root = grown(t, 1, 2, 3, 4)
	l, err := tree.Reach(s, root)
	if len(l) != 3 || err != api.OK {
		t.Fatalf("P8.2: Reach of four items: %v, %d; want two leaves and a root", l, err)
	}
	n, _ := nodeOf(s.Pages[root-1])
	if len(n.kids) != 2 {
		t.Fatalf("P8.1: the root has kids %v; want two", n.kids)
	}
	for _, kid := range n.kids {
		if n, ok := nodeOf(s.Pages[kid-1]); !ok || len(n.kids) > 0 {
			t.Errorf("P8.1: the page %d is no leaf", kid)
		}
	}
}

// P8.1: each change of each tree: ahead of all, behind all, between, with
// another value and with the same one, of keys that are there and that are
// not.
func TestChangesOfNamedTrees(t *testing.T) {
	for name, r := range treesThatMayBe() {
		t.Log(name)
		wantChanges(t, r.s, r.root, mustPlain(t, name, r.s, r.root))
	}
}

// P8.1: into leaves of 1, 2 and 3 items, by the numbers: what is put where.
func TestPutIntoALeaf(t *testing.T) {
	for _, keys := range [][]uint64{{10}, {10, 20}, {10, 20, 30}, {0, 10}, {0, 10, most}, {10, most - 1, most}} {
		s := stateOf(leafOf(keys...))
		for _, key := range []uint64{0, 5, 10, 15, 20, 25, 30, 35, most - 1, most} {
			next, root := wantPut(t, s, 1, api.Item{Key: key, Value: 99})
			_, there := mustPlain(t, "a leaf", s, 1).get(key)
			wantPages := 1
			if len(keys) == 3 && !there {
				wantPages = 3 // two leaves and a root
			}
			if l, _ := tree.Reach(next, root); len(l) != wantPages || slices.Contains(l, 1) {
				t.Errorf("P8.1: Put of %d into %v: pages %v; want %d new ones", key, keys, l, wantPages)
			}
			if value, there, _ := tree.Get(next, root, key); value != 99 || !there {
				t.Errorf("P8.1: Get of %d: %d, %v; want 99", key, value, there)
			}
		}
	}
}

// P8.1: the first item makes a leaf.
func TestPutIntoNothing(t *testing.T) {
	for _, key := range []uint64{0, 1, 1 << 63, most} {
		for name, s := range map[string]tree.State{"no pages": {}, "a free page": {Pages: [][]byte{{}}}, "a leaf": stateOf(leafOf(3)), "free ones behind": stateOf(leafOf(3), node{}, node{})} {
			next, root := wantPut(t, s, 0, item(key))
			if l, _ := tree.Reach(next, root); !slices.Equal(l, newPages(s, 1)) {
				t.Errorf("P8.1: Put into nothing, %s: pages %v; want %v", name, l, newPages(s, 1))
			}
		}
	}
}

// P8.1: free pages are taken, the lowest first, then such behind the last.
func TestNewPages(t *testing.T) {
	full := leafOf(10, 20, 30)
	odd := leafOf(1)
	for _, r := range []rooted{
		rootedAt(1, full), rootedAt(1, full, node{}), rootedAt(1, full, node{}, node{}), rootedAt(1, full, node{}, node{}, node{}, node{}, node{}),
		rootedAt(2, node{}, full), rootedAt(2, node{}, full, node{}), rootedAt(3, node{}, odd, full, odd, node{}, odd),
		rootedAt(6, node{}, node{}, node{}, node{}, node{}, full), rootedAt(2, odd, full, node{}, odd, node{}, odd, odd, node{}, odd, node{}),
	} {
		next, root := wantPut(t, r.s, r.root, item(15))
		l, _ := tree.Reach(next, root)
		if want := newPages(r.s, 3); !slices.Equal(l, want) {
			t.Errorf("P8.1: Put into %s: pages %v; want %v", told(r.s), l, want)
		}
	}
}

// P8.1: Delete, down to no items at all; from each of many trees, and with
// free pages on the way or without.
func TestDeleteDownToNothing(t *testing.T) {
	for count := 1; count <= 40; count++ {
		s, root := kept(t, upTo(count, 2)...)
		for _, order := range orders(upTo(count, 2)) {
			now, top := s, root
			for _, key := range order {
				wantNotThere(t, now, top, key+1)
				now, top = wantDelete(t, now, top, key)
				wantNotThere(t, now, top, key)
			}
			if top != 0 {
				t.Fatalf("P8.1: Delete of all %d items: root %d; want 0", count, top)
			}
		}
	}
}

// orders has keys in some of their orders: rising, falling, from the middle,
// every other one, and mixed.
func orders(keys []uint64) map[string][]uint64 {
	out := map[string][]uint64{"rising": keys}
	falling := slices.Clone(keys)
	slices.Reverse(falling)
	out["falling"] = falling
	half := len(keys) / 2
	out["from the middle"] = slices.Concat(keys[half:], keys[:half])
	for name, stride := range map[string]int{"strides of 7": 7, "strides of 11": 11} {
		for first := range stride {
			for i := first; i < len(keys); i += stride {
				out[name] = append(out[name], keys[i])
			}
		}
	}
	mixed := slices.Clone(keys)
	next := numbers(uint64(len(keys)))
	for i := range mixed {
		j := i + int(next(uint64(len(mixed)-i)))
		mixed[i], mixed[j] = mixed[j], mixed[i]
	}
	out["mixed"] = mixed
	return out
}

// numbers is a closure that tells numbers below a bound, the same ones each
// time.
func numbers(seed uint64) func(below uint64) uint64 {
	state := seed*0x9e3779b97f4a7c15 + 1
	return func(below uint64) uint64 {
		state ^= state << 13
		state ^= state >> 7
		state ^= state << 17
		return (state >> 11) % below
	}
}

// P8.1, P8.3: put in any order, with what the elder roots made kept or not.
func TestPutInAnyOrder(t *testing.T) {
	for _, step := range []uint64{1, 2, 1 << 57} {
		for name, keys := range orders(upTo(60, step)) {
			t.Log(name)
			var s tree.State
			root := 0
			for _, key := range keys {
				s, root = wantPut(t, s, root, item(key))
				var err api.Errno
				if s, err = tree.Keep(s, []int{root}); err != api.OK {
					t.Fatalf("P8.2: Keep: %d", err)
				}
			}
			wantWhole(t, name, s, root)
		}
	}
}

// P8.1: leaves and nodes that are as small as can be: a leaf that loses its
// only item, a node that loses one of two kids, first, last and between.
func TestDeleteFromSmallNodes(t *testing.T) {
	for depth := 1; depth <= 6; depth++ {
		s, root := binaryTree(depth, 5)
		p := wantWhole(t, fmt.Sprintf("%d deep", depth), s, root)
		if depth <= 5 {
			wantChanges(t, s, root, p)
		}
		var keys []uint64
		for _, x := range p.items {
			keys = append(keys, x.Key)
		}
		for name, order := range orders(keys) {
			t.Log(name)
			now, top := s, root
			for _, key := range order {
				now, top = wantDelete(t, now, top, key)
			}
			if top != 0 {
				t.Fatalf("P8.1: Delete of all items: root %d; want 0", top)
			}
		}
	}
}

// P8.1: a small node beside neighbours of each size, first, between and last
// among its parent's kids.
func TestDeleteBesideNeighbours(t *testing.T) {
	for sizes := range 81 {
		// Four kids of a root, each of 1 to 3 items: a number of four digits.
		nodes := []node{{}}
		root := node{}
		rest, key := sizes, uint64(0)
		for kid := range 4 {
			if kid > 0 {
				root.keys = append(root.keys, key)
			}
			var keys []uint64
			for range rest%3 + 1 {
				keys = append(keys, key)
				key += 2
			}
			rest /= 3
			nodes = append(nodes, leafOf(keys...))
			root.kids = append(root.kids, kid+2)
		}
		nodes[0] = root
		s := stateOf(nodes...)
		wantChanges(t, s, 1, mustPlain(t, "four leaves", s, 1))
	}
}

// P8.1: nodes with kids of each size beside each other, three deep.
func TestDeleteBesideNodesWithKids(t *testing.T) {
	for sizes := range 27 {
		nodes := []node{{}}
		root := node{}
		rest, key := sizes, uint64(0)
		for i := range 3 {
			if i > 0 {
				root.keys = append(root.keys, key)
			}
			middle := node{}
			for kid := range rest%3 + 2 {
				if kid > 0 {
					middle.keys = append(middle.keys, key)
				}
				nodes = append(nodes, leafOf(key))
				middle.kids = append(middle.kids, len(nodes))
				key += 2
			}
			rest /= 3
			nodes = append(nodes, middle)
			root.kids = append(root.kids, len(nodes))
		}
		nodes[0] = root
		s := stateOf(nodes...)
		p := mustPlain(t, "three nodes", s, 1)
		wantChanges(t, s, 1, p)
		for _, first := range p.items {
			now, top := wantDelete(t, s, 1, first.Key)
			for _, next := range p.items {
				if next != first {
					wantDelete(t, now, top, next.Key)
				}
			}
		}
	}
}

// P8.1: Delete's false is no error, and root 0 has nothing to delete.
func TestDeleteFromNothing(t *testing.T) {
	for _, s := range []tree.State{{}, {Pages: make([][]byte, 3)}, stateOf(leafOf(1, 2)), stateOf(leafOf(1), node{})} {
		for _, key := range []uint64{0, 1, 2, most} {
			wantNotThere(t, s, 0, key)
		}
	}
}

// P8.1: keys of 0 and of 2^64 - 1 come and go like others.
func TestKeysAtTheEnds(t *testing.T) {
	ends := []uint64{0, 1, 2, 3, 1<<63 - 1, 1 << 63, most - 3, most - 2, most - 1, most}
	for _, order := range orders(ends) {
		s, root := kept(t, order...)
		p := wantWhole(t, "the ends", s, root)
		if len(p.items) != len(ends) {
			t.Fatalf("P8.1: the items are %v; want keys %v", p.items, ends)
		}
		wantChanges(t, s, root, p)
	}
}
