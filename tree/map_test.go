package tree_test

import (
	"maps"
	"slices"
	"testing"

	"flagstone/api"
	"flagstone/tree"
)

// P8.3: keys put and taken away in any order, held against a map; Keep now
// and then, or never while there is space.
func TestATreeIsAMap(t *testing.T) {
	for seed := range uint64(60) {
		next := numbers(seed)
		keys := uint64(4) << (seed % 6)
		m := map[uint64]uint64{}
		var s tree.State
		root := 0
		for range 120 {
			key := spread(next(keys), seed)
			value, there := m[key]
			if got, is, err := tree.Get(s, root, key); got != value || is != there || err != api.OK {
				t.Fatalf("P8.3: Get of %d: %d, %v, %d; want %d, %v", key, got, is, err, value, there)
			}
			switch {
			case next(5) > 1+seed%2:
				m[key] = next(1 << 50)
				s, root = wantPut(t, s, root, api.Item{Key: key, Value: m[key]})
			case there:
				delete(m, key)
				s, root = wantDelete(t, s, root, key)
			default:
				wantNotThere(t, s, root, key)
			}
			if next(4) == 0 || len(s.Pages) > 1900 {
				var err api.Errno
				if s, err = tree.Keep(s, []int{root}); err != api.OK {
					t.Fatalf("P8.2: Keep: %d", err)
				}
			}
			if l, err := tree.Range(s, root, 0, 1000); !slices.Equal(l, mapped(m)) || err != api.OK {
				t.Fatalf("P8.3: Range: %v, %d; want %v", l, err, mapped(m))
			}
		}
		wantWhole(t, "in the end", s, root)
	}
}

// spread puts keys side by side, far apart, or at both ends.
func spread(key, seed uint64) uint64 {
	switch seed % 3 {
	case 0:
		return key
	case 1:
		return key * 0x9e3779b97f4a7c15
	default:
		return key/2 - (key&1)*key
	}
}

// P8.3: each elder root still has what it had, through all that follows, as
// long as it is not let go.
func TestElderRootsStay(t *testing.T) {
	for seed := range uint64(8) {
		next := numbers(seed + 100)
		m := map[uint64]uint64{}
		var s tree.State
		root := 0
		var elders []int
		var had []map[uint64]uint64
		for range 100 {
			key := next(30)
			var err api.Errno
			if _, there := m[key]; there && next(2) == 0 {
				delete(m, key)
				s, root, _, err = tree.Delete(s, root, key)
			} else {
				m[key] = next(1000)
				s, root, err = tree.Put(s, root, api.Item{Key: key, Value: m[key]})
			}
			if err != api.OK {
				t.Fatalf("P8.1: a change: %d", err)
			}
			elders = append(elders, root)
			had = append(had, maps.Clone(m))
		}
		for i, elder := range elders {
			if p := mustPlain(t, "P8.3: an elder root", s, elder); !slices.Equal(p.items, mapped(had[i])) {
				t.Fatalf("P8.3: the elder root %d has %v; want %v", elder, p.items, mapped(had[i]))
			}
			if l, err := tree.Range(s, elder, 0, 100); !slices.Equal(l, mapped(had[i])) || err != api.OK {
				t.Fatalf("P8.3: Range of the elder root %d: %v, %d; want %v", elder, l, err, mapped(had[i]))
			}
		}
	}
}

// P8.3: of one elder root two trees grow, and neither sees the other.
func TestTwoTreesOfOneRoot(t *testing.T) {
	s, root := grown(t, upTo(20, 10)...)
	s, left := wantPut(t, s, root, api.Item{Key: 55, Value: 1})
	s, right := wantDelete(t, s, root, 100)
	s, right = wantPut(t, s, right, api.Item{Key: 55, Value: 2})
	for _, x := range []struct {
		root  int
		value uint64
		is55  bool
		is100 bool
	}{{root, 0, false, true}, {left, 1, true, true}, {right, 2, true, false}} {
		if value, there, _ := tree.Get(s, x.root, 55); value != x.value || there != x.is55 {
			t.Errorf("P8.3: Get of 55 from root %d: %d, %v; want %d, %v", x.root, value, there, x.value, x.is55)
		}
		if _, there, _ := tree.Get(s, x.root, 100); there != x.is100 {
			t.Errorf("P8.3: Get of 100 from root %d: %v; want %v", x.root, there, x.is100)
		}
	}
}

// P8.3: trees stand side by side in one state, and are kept together.
func TestTreesSideBySide(t *testing.T) {
	var s tree.State
	roots := make([]int, 5)
	maps := make([]map[uint64]uint64, len(roots))
	for i := range maps {
		maps[i] = map[uint64]uint64{}
	}
	next := numbers(77)
	for range 300 {
		which := int(next(uint64(len(roots))))
		key := next(25)
		var err api.Errno
		if _, there := maps[which][key]; there {
			delete(maps[which], key)
			s, roots[which], _, err = tree.Delete(s, roots[which], key)
		} else {
			maps[which][key] = next(1000)
			s, roots[which], err = tree.Put(s, roots[which], api.Item{Key: key, Value: maps[which][key]})
		}
		if err != api.OK {
			t.Fatalf("P8.1: a change: %d", err)
		}
		if s, err = tree.Keep(s, roots); err != api.OK {
			t.Fatalf("P8.2: Keep of %v: %d", roots, err)
		}
		inUse := 0
		for i, root := range roots {
			p := mustPlain(t, "P8.2: kept", s, root)
			inUse += len(p.reached)
			if !slices.Equal(p.items, mapped(maps[i])) {
				t.Fatalf("P8.3: the tree of %d has %v; want %v", root, p.items, mapped(maps[i]))
			}
		}
		for _, page := range s.Pages {
			if len(page) > 0 {
				inUse--
			}
		}
		if last := len(s.Pages) - 1; inUse != 0 || last >= 0 && len(s.Pages[last]) == 0 {
			t.Fatalf("P8.2: Keep left pages that none reaches: %s", told(s))
		}
	}
}
