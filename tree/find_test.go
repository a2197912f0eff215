package tree_test

import (
	"math"
	"slices"
	"testing"

	"flagstone/api"
	"flagstone/tree"
)

// P8.1: by the numbers: a key below all, equal to one, between two, and above
// all.
func TestGetAndFloor(t *testing.T) {
	r := threeDeep() // 1, 2, 5, 6, 7, 10, 20, 21
	for _, x := range []struct {
		key, floor uint64
		any        bool
	}{
		{0, 0, false}, {1, 1, true}, {2, 2, true}, {3, 2, true}, {4, 2, true}, {5, 5, true}, {7, 7, true}, {8, 7, true}, {9, 7, true},
		{10, 10, true}, {11, 10, true}, {14, 10, true}, {15, 10, true}, {19, 10, true}, {20, 20, true}, {21, 21, true}, {22, 21, true}, {most, 21, true},
	} {
		want, wantValue, wantThere := api.Item{}, uint64(0), false
		if x.any {
			want = item(x.floor)
		}
		if x.any && x.floor == x.key {
			wantValue, wantThere = valueOf(x.key), true
		}
		if got, any, err := tree.Floor(r.s, r.root, x.key); got != want || any != x.any || err != api.OK {
			t.Errorf("P8.1: Floor of %d: %v, %v, %d; want %v, %v, OK", x.key, got, any, err, want, x.any)
		}
		if value, there, err := tree.Get(r.s, r.root, x.key); value != wantValue || there != wantThere || err != api.OK {
			t.Errorf("P8.1: Get of %d: %d, %v, %d; want %d, %v, OK", x.key, value, there, err, wantValue, wantThere)
		}
	}
}

// P8.1: an item of key 0 and value 0 is one: true tells it from none.
func TestItemOfZeros(t *testing.T) {
	s, root, err := tree.Put(tree.State{}, 0, api.Item{})
	if err != api.OK {
		t.Fatal("P8.1: Put:", err)
	}
	if value, there, err := tree.Get(s, root, 0); value != 0 || !there || err != api.OK {
		t.Errorf("P8.1: Get: %d, %v, %d; want 0, true, OK", value, there, err)
	}
	if x, any, err := tree.Floor(s, root, most); x != (api.Item{}) || !any || err != api.OK {
		t.Errorf("P8.1: Floor: %v, %v, %d; want zeros, true, OK", x, any, err)
	}
	if l, err := tree.Range(s, root, 0, 1); len(l) != 1 || err != api.OK {
		t.Errorf("P8.1: Range: %v, %d; want one item", l, err)
	}
}

// P8.1: by the numbers: n of 0, fewer and more than there are.
func TestRange(t *testing.T) {
	r := threeDeep()
	for _, x := range []struct {
		from uint64
		n    int
		want []uint64
	}{
		{0, 0, nil}, {0, 1, []uint64{1}}, {0, 3, []uint64{1, 2, 5}}, {0, 8, []uint64{1, 2, 5, 6, 7, 10, 20, 21}}, {0, 9, []uint64{1, 2, 5, 6, 7, 10, 20, 21}},
		{0, math.MaxInt, []uint64{1, 2, 5, 6, 7, 10, 20, 21}}, {1, 2, []uint64{1, 2}}, {2, 2, []uint64{2, 5}}, {3, 2, []uint64{5, 6}}, {6, 3, []uint64{6, 7, 10}},
		{8, 2, []uint64{10, 20}}, {10, 1, []uint64{10}}, {11, 5, []uint64{20, 21}}, {21, 0, nil}, {21, 1, []uint64{21}}, {21, 9, []uint64{21}}, {22, 9, nil}, {most, 9, nil},
	} {
		if l, err := tree.Range(r.s, r.root, x.from, x.n); !slices.Equal(l, itemsOf(x.want...)) || err != api.OK {
			t.Errorf("P8.1: Range from %d of %d: %v, %d; want %v, OK", x.from, x.n, l, err, itemsOf(x.want...))
		}
	}
}

// P8.1, P4: n below 0 is ErrRange, of no items too, but behind Check's error.
func TestRangeOfFewerThanNone(t *testing.T) {
	broken := threeDeep().with(1, nil)
	many := rooted{tree.State{Pages: make([][]byte, 2049)}, 0}
	for _, n := range []int{-1, -2, -1 << 32, math.MinInt, math.MinInt + 1} {
		for _, r := range []rooted{{}, threeDeep(), {threeDeep().s, 0}, {threeDeep().s, 1}} {
			for _, from := range []uint64{0, 5, most} {
				if l, err := tree.Range(r.s, r.root, from, n); err != api.ErrRange || len(l) != 0 {
					t.Errorf("P8.1: Range from %d of %d: %v, %d; want ErrRange", from, n, l, err)
				}
			}
		}
		if l, err := tree.Range(broken.s, broken.root, 0, n); err != api.ErrState || len(l) != 0 {
			t.Errorf("P8.1: Range of %d, of a tree that may not be: %v, %d; want ErrState", n, l, err)
		}
		if l, err := tree.Range(many.s, many.root, 0, n); err != api.ErrCount || len(l) != 0 {
			t.Errorf("P8.1: Range of %d, of too many pages: %v, %d; want ErrCount", n, l, err)
		}
	}
}

// P8.1: in great trees, each key that is there and those around it.
func TestFindInGreatTrees(t *testing.T) {
	for _, count := range []int{40, 150} {
		s, root := kept(t, upTo(count, 3)...)
		p := mustPlain(t, "a great tree", s, root)
		for key := uint64(0); key < uint64(3*count+5); key++ {
			wantFound(t, s, root, p, key)
		}
	}
}
