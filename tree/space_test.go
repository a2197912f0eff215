package tree_test

import (
	"slices"
	"testing"

	"flagstone/api"
	"flagstone/tree"
)

// filled is r with so many pages, of which the last ones are free.
func filled(r rooted, count, free int) rooted {
	s := cloned(r.s)
	for len(s.Pages) < count-free {
		s.Pages = append(s.Pages, []byte{byte(len(s.Pages)), 1})
	}
	for len(s.Pages) < count {
		s.Pages = append(s.Pages, nil)
	}
	return rooted{s, r.root}
}

func wantNoSpace(t *testing.T, what string, r rooted, x api.Item) {
	t.Helper()
	if next, top, err := tree.Put(r.s, r.root, x); err != api.ErrSpace || len(next.Pages) != 0 || top != 0 {
		t.Errorf("P8.1: Put, %s: %d pages, %d, %d; want ErrSpace alone", what, len(next.Pages), top, err)
	}
}

// P8.1: new pages that would be one too many, and those that just fit, be
// they free or behind the last.
func TestPutSpace(t *testing.T) {
	leaf1, leaf3 := rootedAt(1, leafOf(10)), rootedAt(1, leafOf(10, 20, 30))
	for _, x := range []struct {
		what string
		r    rooted
		key  uint64
		need int
	}{
		{"nothing", rooted{}, 5, 1},
		{"a leaf, a new key", leaf1, 5, 1},
		{"a leaf, another value", leaf1, 10, 1},
		{"a full leaf, another value", leaf3, 10, 1},
		{"a full leaf, a new key", leaf3, 15, 3},
		{"two leaves, a new key", rootedAt(3, leafOf(1, 2), leafOf(3, 4), kidsOf([]uint64{3}, 1, 2)), 5, 2},
	} {
		for behind := range x.need + 2 {
			for free := range x.need + 2 {
				r := filled(x.r, 2048-behind, free)
				if behind+free < x.need {
					wantNoSpace(t, x.what, r, api.Item{Key: x.key, Value: 9})
					continue
				}
				next, _ := wantPut(t, r.s, r.root, api.Item{Key: x.key, Value: 9})
				if want := max(len(r.s.Pages), len(r.s.Pages)+x.need-free); len(next.Pages) != want {
					t.Errorf("P8.1: Put, %s: %d pages; want %d", x.what, len(next.Pages), want)
				}
			}
		}
	}
}

// P8.1: Delete needs pages likewise; down to no items it needs none.
func TestDeleteSpace(t *testing.T) {
	two := filled(rootedAt(1, leafOf(10, 20)), 2048, 0)
	if next, top, was, err := tree.Delete(two.s, 1, 10); err != api.ErrSpace || len(next.Pages) != 0 || top != 0 || was {
		t.Errorf("P8.1: Delete without space: %d pages, %d, %v, %d; want ErrSpace alone", len(next.Pages), top, was, err)
	}
	wantNotThere(t, two.s, 1, 15)
	one := filled(rootedAt(1, leafOf(10)), 2048, 0)
	wantDelete(t, one.s, 1, 10)
	for _, free := range []int{1, 2} {
		r := filled(rootedAt(1, leafOf(10, 20)), 2048, free)
		next, root := wantDelete(t, r.s, 1, 10)
		if root != 2049-free || len(next.Pages) != 2048 {
			t.Errorf("P8.1: Delete: root %d of %d pages; want %d of 2048", root, len(next.Pages), 2049-free)
		}
		r = filled(rootedAt(1, leafOf(10, 20)), 2048-free, 0)
		if _, root := wantDelete(t, r.s, 1, 10); root != 2049-free {
			t.Errorf("P8.1: Delete: root %d; want %d", root, 2049-free)
		}
	}
}

// P8.1, P4: Check's error goes ahead of ErrSpace.
func TestNoSpaceIsLast(t *testing.T) {
	broken := filled(rootedAt(2, leafOf(10), kidsOf([]uint64{5}, 1, 2)), 2048, 0)
	wantRefused(t, "full and broken", broken.s, broken.root, api.ErrState)
	many := filled(rootedAt(1, leafOf(10)), 2049, 0)
	wantRefused(t, "too many", many.s, many.root, api.ErrCount)
}

// P8.1, P8.3: puts till there is no space, elder pages all there: then it is
// refused, again and again, and each root still has what it had; when they
// are let go, it goes on.
func TestPutTillNoSpace(t *testing.T) {
	var s tree.State
	root := 0
	var roots []int
	for {
		next, top, err := tree.Put(s, root, item(uint64(len(roots))))
		if err == api.ErrSpace {
			break
		}
		if err != api.OK || len(next.Pages) > 2048 || len(roots) > 2048 {
			t.Fatalf("P8.1: Put: %d pages, %d", len(next.Pages), err)
		}
		s, root = next, top
		roots = append(roots, root)
	}
	if len(s.Pages) < 2000 {
		t.Errorf("P8.1: ErrSpace at %d pages", len(s.Pages))
	}
	wantNoSpace(t, "full", rooted{s, root}, item(uint64(len(roots))))
	for i, elder := range roots {
		want := item(uint64(i))
		if x, any, err := tree.Floor(s, elder, most); x != want || !any || err != api.OK {
			t.Fatalf("P8.3: Floor of the elder root %d: %v, %v, %d; want %v", elder, x, any, err, want)
		}
		if l, err := tree.Range(s, elder, 0, 9999); len(l) != i+1 || err != api.OK {
			t.Fatalf("P8.3: Range of the elder root %d: %d items, %d; want %d", elder, len(l), err, i+1)
		}
	}
	s, err := tree.Keep(s, []int{root})
	if err != api.OK {
		t.Fatal("P8.2: Keep:", err)
	}
	wantPut(t, s, root, item(uint64(len(roots))))
}

// P8.1: a tree that has nearly all pages there may be, and one that has all
// of them.
func TestChangesOfGreatestTrees(t *testing.T) {
	s, root := binaryTree(11, 3)
	r := filled(rooted{s, root}, 2048, 0)
	for _, key := range []uint64{0, 1, 1500, 3069, most} {
		wantNoSpace(t, "2047 pages of a tree", rooted{s, root}, item(key))
		wantNoSpace(t, "2047 pages of a tree and one more", r, item(key))
	}
	if _, _, was, err := tree.Delete(r.s, root, 300); err != api.ErrSpace || was {
		t.Errorf("P8.1: Delete in a full state: %v, %d; want ErrSpace", was, err)
	}
	wantNotThere(t, r.s, root, 301)
}

// P8.1: with Keep behind each change a tree has many items: at least one for
// each page but a few.
func TestManyItems(t *testing.T) {
	var s tree.State
	root := 0
	next := numbers(5)
	all := map[uint64]uint64{}
	for len(all) < 1500 {
		x := api.Item{Key: next(1 << 40), Value: next(1 << 40)}
		all[x.Key] = x.Value
		var err api.Errno
		if s, root, err = tree.Put(s, root, x); err != api.OK {
			t.Fatalf("P8.1: Put of item %d: %d", len(all), err)
		}
		if s, err = tree.Keep(s, []int{root}); err != api.OK {
			t.Fatalf("P8.2: Keep: %d", err)
		}
	}
	if l, err := tree.Range(s, root, 0, 2000); !slices.Equal(l, mapped(all)) || err != api.OK {
		t.Errorf("P8.3: Range: %d items, %d; want %d", len(l), err, len(all))
	}
}
