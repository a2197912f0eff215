package meta_test

import (
	"fmt"
	"math"
	"math/rand"
	"slices"
	"testing"

	"flagstone/api"
	"flagstone/meta"
	"flagstone/model"
	"flagstone/reloc"
	"flagstone/resize"
	"flagstone/tree"
	"flagstone/volume"
)

// anOp is mostly one that fits a disk of about so many sectors.
func anOp(r *rand.Rand, size int) model.Op {
	name := "abcdefghijklmnop"[:r.Intn(17)]
	x := model.Op{What: r.Intn(8) + 1, At: r.Intn(size + 1), N: r.Intn(min(size, 64) + 1), ID: r.Intn(30), Name: name}
	if r.Intn(3) == 0 {
		x.What = 1
	}
	if x.What == 8 {
		x.N = size/2 + r.Intn(size)
	}
	for range r.Intn(min(size/2, 64) + 1) {
		x.Data = append(x.Data, octets(byte(r.Intn(3)))...)
	}
	return x
}

// behind is s behind an op, or behind a step that moves data.
func behind(r *rand.Rand, s volume.State, size int) volume.State {
	var next volume.State
	did := true
	switch r.Intn(12) {
	case 0:
		next, did, _ = reloc.Compact(s)
	case 1:
		next, did, _ = reloc.Defragment(s)
	case 2:
		next, _, _ = resize.Truncate(s)
	default:
		next, _ = resize.Do(s, anOp(r, size), 8*size)
	}
	if !did {
		return s
	}
	return next
}

// P14.1 to P14.4: rows of volumes, each saved in the tree of the one ahead;
// what the tree has is loaded again, and of what was loaded the items are the
// same.
func TestRowsOfVolumes(t *testing.T) {
	longest := 0
	for seed := range 30 {
		r := rand.New(rand.NewSource(int64(seed)))
		size := 4 + r.Intn(20)
		v, _ := volume.New(size, 0)
		s, root := tree.State{}, 0
		for range 80 {
			v = behind(r, v, size)
			l := wantWhole(t, v)
			s, root = wantSave(t, "a row", s, root, l, api.OK)
			has, _ := tree.Range(s, root, 0, math.MaxInt)
			got, err := meta.Load(has, v.Data)
			if !same(got, v) || err != api.OK {
				t.Fatalf("P14.3: seed %d: %s is loaded as %s, %d", seed, told(v), told(got), err)
			}
			wantItems(t, got, l)
			longest = max(longest, len(l))
		}
		if t.Failed() {
			t.Fatalf("seed %d", seed)
		}
	}
	if longest < 60 {
		t.Errorf("the test's own volumes have at most %d items", longest)
	}
}

// another is l with a few things made other ones.
func another(r *rand.Rand, l, other []api.Item) []api.Item {
	l = slices.Clone(l)
	for range 1 + r.Intn(3) {
		i := r.Intn(len(l))
		switch r.Intn(7) {
		case 0:
			l[i].Value += uint64(r.Intn(5)) - 2
		case 1:
			l[i].Key += uint64(r.Intn(5)) - 2
		case 2:
			l[i].Value = l[r.Intn(len(l))].Value
		case 3:
			l[i].Value ^= 1 << r.Intn(64)
		case 4:
			l = slices.Delete(l, i, i+1)
		case 5:
			l = append(l, other[r.Intn(len(other))])
		case 6:
			l[i] = other[r.Intn(len(other))]
		}
		if len(l) == 0 {
			return nil
		}
	}
	if r.Intn(10) > 0 {
		slices.SortFunc(l, byKey)
		l = slices.CompactFunc(l, func(a, b api.Item) bool { return a.Key == b.Key })
	}
	return l
}

// P14.1: items of volumes with a few of them others are taken where they are
// a volume's, and refused where they are none's.
func TestLoadOfItemsNearby(t *testing.T) {
	counts := map[api.Errno]int{}
	for seed := range 60 {
		r := rand.New(rand.NewSource(int64(seed)))
		v, _ := volume.New(6, 4)
		for range 60 {
			before := itemsOf(v)
			v = behind(r, v, 6)
			l := another(r, itemsOf(v), before)
			data := v.Data
			if r.Intn(5) == 0 {
				data = append(slices.Clone(data), octets(1))
			}
			_, err := plainLoad(l, data)
			wantLoad(t, fmt.Sprint("seed ", seed), l, data, err)
			counts[err]++
		}
		if t.Failed() {
			t.FailNow()
		}
	}
	if len(counts) != 3 || counts[api.OK] < 100 || counts[api.ErrOrder] < 100 || counts[api.ErrCorrupt] < 1000 {
		t.Errorf("the test's own items: %v", counts)
	}
}

// P14.2, P14.4: rows of lists of any items, each saved in the tree of the one
// ahead, with what it left and without.
func TestRowsOfLists(t *testing.T) {
	refused := 0
	for seed := range 12 {
		r := rand.New(rand.NewSource(int64(seed)))
		s, root := tree.State{}, 0
		for range 40 {
			m := map[uint64]uint64{}
			for range r.Intn(60) {
				m[uint64(r.Intn(80))] = uint64(r.Intn(3))
			}
			var l []api.Item
			for key := range uint64(80) {
				if value, is := m[key]; is {
					l = append(l, api.Item{Key: key, Value: value})
				}
			}
			if r.Intn(4) == 0 {
				full := filled(rooted{s, root}, 2048, r.Intn(12))
				_, _, err := plainSave(full.s, full.root, l)
				wantSave(t, "a full one", full.s, full.root, l, err)
				if err != api.OK {
					refused++
				}
			}
			s, root = wantSave(t, fmt.Sprint("seed ", seed), s, root, l, api.OK)
			if r.Intn(3) == 0 {
				// A page more that the root does not reach.
				s.Pages = append(s.Pages, nil, octets(byte(r.Intn(3))))
			}
		}
		if t.Failed() {
			t.FailNow()
		}
	}
	if refused < 20 {
		t.Errorf("the test's own rows: %d refused", refused)
	}
}

// P14.1: the kinds' counts are the extents', the references' and the
// snapshots'.
func TestCountsOfKinds(t *testing.T) {
	r := rand.New(rand.NewSource(3))
	v, _ := volume.New(20, 10)
	for range 200 {
		v = behind(r, v, 20)
		extents := len(v.Now)
		for _, snap := range v.Snaps {
			extents += len(snap.List)
		}
		want := [8]int{1: extents, 2: extents, 3: 3 * len(v.Snaps), 4: 1}
		var counts [8]int
		l, _ := meta.Items(v)
		for _, x := range l {
			counts[x.Key>>56%8]++
		}
		if counts != want {
			t.Fatalf("P14.1: Items(%s): %v of each kind; want %v", told(v), counts, want)
		}
	}
}
