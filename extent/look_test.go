package extent_test

import (
	"testing"

	"flagstone/api"
	"flagstone/extent"
)

// P5.1: in an extent, at its ends, and in a hole.
func TestFind(t *testing.T) {
	l := mapOf(list{{2, 100, 4}, {6, 50, 3}, {20, 0, 5}})
	for virt, want := range map[int]int{
		0: -1, 1: -1, 2: 100, 3: 101, 5: 103, 6: 50, 8: 52, 9: -1, 15: -1, 19: -1, 20: 0, 22: 2, 24: 4, 25: -1, 65535: -1,
	} {
		wantFind(t, l, virt, want, api.OK)
	}
}

// P5.1: the first sector and the last one.
func TestFindAtTheEdges(t *testing.T) {
	for _, l := range [][]api.Extent{nil, {}, mapOf(list{{1, 1, 65534}})} {
		wantFind(t, l, 0, -1, api.OK)
		wantFind(t, l, 65535, -1, api.OK)
	}
	wantFind(t, mapOf(list{{0, 65535, 1}, {65535, 0, 1}}), 0, 65535, api.OK)
	wantFind(t, mapOf(list{{0, 65535, 1}, {65535, 0, 1}}), 65535, 0, api.OK)
	for _, virt := range []int{0, 1, 32768, 65535} {
		wantFind(t, mapOf(list{{0, 0, 65536}}), virt, virt, api.OK)
	}
}

// P5.1, P4: ErrRange, and neither a place nor a hole's -1 beside it.
func TestFindRefuses(t *testing.T) {
	for _, l := range mapsThatMayBe() {
		for _, virt := range anySize() {
			if virt < 0 || virt > 65535 {
				wantFind(t, l, virt, 0, api.ErrRange)
			}
		}
	}
}

// P5.1, P5.3: each sector of the disk, in each map that may be.
func TestFindEverySector(t *testing.T) {
	for name, l := range mapsThatMayBe() {
		p := plainOf(l)
		for virt := range 65536 {
			if got, err := extent.Find(l, virt); got != p.at(virt) || err != api.OK {
				t.Fatalf("P5.1: Find, %s, %d: %d, %d; want %d", name, virt, got, err, p.at(virt))
			}
		}
	}
}

// P5.1: extents and holes of just these sectors.
func TestLook(t *testing.T) {
	l := mapOf(list{{2, 100, 4}, {6, 50, 3}, {20, 5, 5}})
	for _, c := range []struct {
		virt, n int
		want    []api.Extent
	}{
		{0, 1, mapOf(list{{0, -1, 1}})},
		{0, 2, mapOf(list{{0, -1, 2}})},
		{0, 3, mapOf(list{{0, -1, 2}, {2, 100, 1}})},
		{2, 4, mapOf(list{{2, 100, 4}})},
		{3, 2, mapOf(list{{3, 101, 2}})},
		{5, 1, mapOf(list{{5, 103, 1}})},
		{5, 2, mapOf(list{{5, 103, 1}, {6, 50, 1}})},
		{6, 3, mapOf(list{{6, 50, 3}})},
		{8, 2, mapOf(list{{8, 52, 1}, {9, -1, 1}})},
		{9, 11, mapOf(list{{9, -1, 11}})},
		{10, 3, mapOf(list{{10, -1, 3}})},
		{7, 15, mapOf(list{{7, 51, 2}, {9, -1, 11}, {20, 5, 2}})},
		{24, 2, mapOf(list{{24, 9, 1}, {25, -1, 1}})},
		{25, 65511, mapOf(list{{25, -1, 65511}})},
		{65535, 1, mapOf(list{{65535, -1, 1}})},
		{0, 65536, mapOf(list{{0, -1, 2}, {2, 100, 4}, {6, 50, 3}, {9, -1, 11}, {20, 5, 5}, {25, -1, 65511}})},
	} {
		wantLook(t, l, c.virt, c.n, c.want, api.OK)
	}
}

// P5.1: a hole of n sectors ahead of an extent at n - 1 is no extent from -1
// on; they stay two.
func TestLookKeepsHolesApart(t *testing.T) {
	for n := 1; n < 5; n++ {
		x := api.Extent{Virt: n, Phys: n - 1, Len: 3}
		wantLook(t, []api.Extent{x}, 0, n+3, []api.Extent{{Virt: 0, Phys: -1, Len: n}, x}, api.OK)
	}
	wantLook(t, mapOf(list{{4, 0, 2}, {9, 2, 1}}), 3, 7, mapOf(list{{3, -1, 1}, {4, 0, 2}, {6, -1, 3}, {9, 2, 1}}), api.OK)
}

// P5.1: the empty map, and the whole disk.
func TestLookAtTheEdges(t *testing.T) {
	for _, l := range [][]api.Extent{nil, {}} {
		wantLook(t, l, 0, 65536, mapOf(list{{0, -1, 65536}}), api.OK)
		wantLook(t, l, 65535, 1, mapOf(list{{65535, -1, 1}}), api.OK)
	}
	wantLook(t, mapOf(list{{0, 0, 65536}}), 0, 65536, mapOf(list{{0, 0, 65536}}), api.OK)
	wantLook(t, mapOf(list{{0, 0, 65536}}), 65535, 1, mapOf(list{{65535, 65535, 1}}), api.OK)
}

// P5.1: no sectors are nothing to tell, be it in an extent, at its ends, in
// a hole or behind the last sector.
func TestLookAtNoSectors(t *testing.T) {
	for _, l := range mapsThatMayBe() {
		for _, virt := range []int{0, 1, 2, 3, 5, 6, 7, 9, 12, 65535, 65536} {
			wantLook(t, l, virt, 0, nil, api.OK)
		}
	}
}

// P5.1, P1: numbers of any size beside each other.
func TestLookOfAnySize(t *testing.T) {
	for _, virt := range anySize() {
		for _, n := range anySize() {
			if !isIn(virt, n) {
				wantLook(t, ordinary(), virt, n, nil, api.ErrRange)
				wantLook(t, nil, virt, n, nil, api.ErrRange)
			} else {
				wantLook(t, ordinary(), virt, n, plainOf(ordinary()).look(virt, n), api.OK)
			}
		}
	}
}
