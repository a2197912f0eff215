package extent_test

import (
	"testing"

	"flagstone/api"
	"flagstone/extent"
)

// P5.1: the chapter's example.
func TestCutOfTheExample(t *testing.T) {
	wantCut(t, mapOf(list{{0, 100, 10}}), 4, 2, mapOf(list{{0, 100, 4}, {6, 106, 4}}), api.OK)
}

// P5.1: at the edges, and across extents and holes.
func TestCut(t *testing.T) {
	l := mapOf(list{{2, 100, 4}, {6, 50, 3}, {20, 5, 5}})
	for _, c := range []struct {
		virt, n int
		want    []api.Extent
	}{
		{0, 2, l},
		{9, 11, l},
		{12, 3, l},
		{25, 65511, l},
		{2, 1, mapOf(list{{3, 101, 3}, {6, 50, 3}, {20, 5, 5}})},
		{0, 3, mapOf(list{{3, 101, 3}, {6, 50, 3}, {20, 5, 5}})},
		{5, 1, mapOf(list{{2, 100, 3}, {6, 50, 3}, {20, 5, 5}})},
		{3, 2, mapOf(list{{2, 100, 1}, {5, 103, 1}, {6, 50, 3}, {20, 5, 5}})},
		{2, 4, mapOf(list{{6, 50, 3}, {20, 5, 5}})},
		{6, 3, mapOf(list{{2, 100, 4}, {20, 5, 5}})},
		{20, 5, mapOf(list{{2, 100, 4}, {6, 50, 3}})},
		{24, 1, mapOf(list{{2, 100, 4}, {6, 50, 3}, {20, 5, 4}})},
		{4, 4, mapOf(list{{2, 100, 2}, {8, 52, 1}, {20, 5, 5}})},
		{4, 17, mapOf(list{{2, 100, 2}, {21, 6, 4}})},
		{8, 13, mapOf(list{{2, 100, 4}, {6, 50, 2}, {21, 6, 4}})},
		{3, 65533, mapOf(list{{2, 100, 1}})},
		{0, 24, mapOf(list{{24, 9, 1}})},
		{0, 65536, nil},
	} {
		wantCut(t, l, c.virt, c.n, c.want, api.OK)
	}
}

// P5.1: of no sectors nothing is cut; an extent stays one.
func TestCutOfNoSectors(t *testing.T) {
	for _, l := range mapsThatMayBe() {
		for _, virt := range []int{0, 1, 2, 3, 5, 6, 7, 9, 12, 65535, 65536} {
			wantCut(t, l, virt, 0, l, api.OK)
		}
	}
}

// P5.1: the empty map, and the whole disk.
func TestCutAtTheEdges(t *testing.T) {
	for _, l := range [][]api.Extent{nil, {}} {
		wantCut(t, l, 0, 65536, nil, api.OK)
		wantCut(t, l, 7, 1, nil, api.OK)
	}
	all := mapOf(list{{0, 0, 65536}})
	wantCut(t, all, 0, 1, mapOf(list{{1, 1, 65535}}), api.OK)
	wantCut(t, all, 65535, 1, mapOf(list{{0, 0, 65535}}), api.OK)
	wantCut(t, all, 1, 65534, mapOf(list{{0, 0, 1}, {65535, 65535, 1}}), api.OK)
	wantCut(t, all, 0, 65536, nil, api.OK)
}

// P5.1, P1: numbers of any size beside each other.
func TestCutOfAnySize(t *testing.T) {
	for _, virt := range anySize() {
		for _, n := range anySize() {
			if !isIn(virt, n) {
				wantCut(t, ordinary(), virt, n, nil, api.ErrRange)
				wantCut(t, nil, virt, n, nil, api.ErrRange)
			} else {
				wantCut(t, ordinary(), virt, n, plainOf(ordinary()).cut(virt, n).extents(), api.OK)
			}
		}
	}
}

// P5.1: over nothing, and over parts of one or more extents.
func TestPut(t *testing.T) {
	l := mapOf(list{{2, 100, 4}, {6, 50, 3}, {20, 5, 5}})
	for _, c := range []struct {
		x    api.Extent
		want []api.Extent
	}{
		{api.Extent{Virt: 0, Phys: 7, Len: 1}, mapOf(list{{0, 7, 1}, {2, 100, 4}, {6, 50, 3}, {20, 5, 5}})},
		{api.Extent{Virt: 0, Phys: 7, Len: 2}, mapOf(list{{0, 7, 2}, {2, 100, 4}, {6, 50, 3}, {20, 5, 5}})},
		{api.Extent{Virt: 12, Phys: 7, Len: 2}, mapOf(list{{2, 100, 4}, {6, 50, 3}, {12, 7, 2}, {20, 5, 5}})},
		{api.Extent{Virt: 30, Phys: 7, Len: 2}, mapOf(list{{2, 100, 4}, {6, 50, 3}, {20, 5, 5}, {30, 7, 2}})},
		{api.Extent{Virt: 2, Phys: 7, Len: 1}, mapOf(list{{2, 7, 1}, {3, 101, 3}, {6, 50, 3}, {20, 5, 5}})},
		{api.Extent{Virt: 5, Phys: 7, Len: 1}, mapOf(list{{2, 100, 3}, {5, 7, 1}, {6, 50, 3}, {20, 5, 5}})},
		{api.Extent{Virt: 3, Phys: 7, Len: 2}, mapOf(list{{2, 100, 1}, {3, 7, 2}, {5, 103, 1}, {6, 50, 3}, {20, 5, 5}})},
		{api.Extent{Virt: 2, Phys: 7, Len: 4}, mapOf(list{{2, 7, 4}, {6, 50, 3}, {20, 5, 5}})},
		{api.Extent{Virt: 4, Phys: 7, Len: 4}, mapOf(list{{2, 100, 2}, {4, 7, 4}, {8, 52, 1}, {20, 5, 5}})},
		{api.Extent{Virt: 4, Phys: 70, Len: 17}, mapOf(list{{2, 100, 2}, {4, 70, 17}, {21, 6, 4}})},
		{api.Extent{Virt: 0, Phys: 0, Len: 65536}, mapOf(list{{0, 0, 65536}})},
		{api.Extent{Virt: 1, Phys: 7, Len: 30}, mapOf(list{{1, 7, 30}})},
	} {
		wantPut(t, l, c.x, c.want, api.OK)
	}
}

// P5.1: what stands there already stays as it is, all of it or a part.
func TestPutOfWhatStandsThere(t *testing.T) {
	l := ordinary()
	for _, x := range l {
		for from := range x.Len {
			for n := 1; n <= x.Len-from; n++ {
				wantPut(t, l, api.Extent{Virt: x.Virt + from, Phys: x.Phys + from, Len: n}, l, api.OK)
			}
		}
	}
}

// P5.1: beside one that it could be one with, on either side or both; and
// beside those that it touches in Virt or in Phys alone.
func TestPutBeside(t *testing.T) {
	l := mapOf(list{{10, 100, 4}, {16, 106, 4}})
	for _, c := range []struct {
		x    api.Extent
		want []api.Extent
	}{
		{api.Extent{Virt: 14, Phys: 104, Len: 1}, mapOf(list{{10, 100, 5}, {16, 106, 4}})},
		{api.Extent{Virt: 15, Phys: 105, Len: 1}, mapOf(list{{10, 100, 4}, {15, 105, 5}})},
		{api.Extent{Virt: 14, Phys: 104, Len: 2}, mapOf(list{{10, 100, 10}})},
		{api.Extent{Virt: 8, Phys: 98, Len: 2}, mapOf(list{{8, 98, 6}, {16, 106, 4}})},
		{api.Extent{Virt: 20, Phys: 110, Len: 2}, mapOf(list{{10, 100, 4}, {16, 106, 6}})},
		{api.Extent{Virt: 12, Phys: 102, Len: 6}, mapOf(list{{10, 100, 10}})},
		{api.Extent{Virt: 12, Phys: 102, Len: 3}, mapOf(list{{10, 100, 5}, {16, 106, 4}})},
		{api.Extent{Virt: 0, Phys: 90, Len: 30}, mapOf(list{{0, 90, 30}})},
		{api.Extent{Virt: 14, Phys: 105, Len: 2}, mapOf(list{{10, 100, 4}, {14, 105, 2}, {16, 106, 4}})},
		{api.Extent{Virt: 14, Phys: 103, Len: 2}, mapOf(list{{10, 100, 4}, {14, 103, 2}, {16, 106, 4}})},
		{api.Extent{Virt: 30, Phys: 110, Len: 2}, mapOf(list{{10, 100, 4}, {16, 106, 4}, {30, 110, 2}})},
		{api.Extent{Virt: 0, Phys: 98, Len: 2}, mapOf(list{{0, 98, 2}, {10, 100, 4}, {16, 106, 4}})},
		{api.Extent{Virt: 8, Phys: 104, Len: 2}, mapOf(list{{8, 104, 2}, {10, 100, 4}, {16, 106, 4}})},
	} {
		wantPut(t, l, c.x, c.want, api.OK)
	}
}

// P5.1: the empty map, and the ends of the disk.
func TestPutAtTheEdges(t *testing.T) {
	for _, l := range [][]api.Extent{nil, {}} {
		for _, x := range mapOf(list{{0, 0, 1}, {0, 65535, 1}, {65535, 0, 1}, {65535, 65535, 1}, {0, 0, 65536}, {5, 6, 7}}) {
			wantPut(t, l, x, []api.Extent{x}, api.OK)
		}
	}
	all := mapOf(list{{0, 0, 65536}})
	wantPut(t, all, api.Extent{Virt: 0, Phys: 9, Len: 1}, mapOf(list{{0, 9, 1}, {1, 1, 65535}}), api.OK)
	wantPut(t, all, api.Extent{Virt: 65535, Phys: 9, Len: 1}, mapOf(list{{0, 0, 65535}, {65535, 9, 1}}), api.OK)
}

// P5.1, P1: numbers of any size beside each other.
func TestPutOfAnySize(t *testing.T) {
	for _, virt := range anySize() {
		for _, phys := range anySize() {
			for _, n := range anySize() {
				x := api.Extent{Virt: virt, Phys: phys, Len: n}
				if !aloneMayBe(x) {
					wantPut(t, ordinary(), x, nil, api.ErrRange)
					wantPut(t, nil, x, nil, api.ErrRange)
				} else {
					wantPut(t, nil, x, []api.Extent{x}, api.OK)
				}
			}
		}
	}
}

// smallMaps has all maps of 4 sectors from virt on, of which each is in a
// hole or stands in one of 4 from phys on.
func smallMaps(virt, phys int) []plain {
	all := []plain{{}}
	for v := virt; v < virt+4; v++ {
		for _, p := range all {
			for k := range 4 {
				all = append(all, p.put(api.Extent{Virt: v, Phys: phys + k, Len: 1}))
			}
		}
	}
	return all
}

// smallSpans has all spans of 4 sectors from at on.
func smallSpans(at int) []api.Span {
	var out []api.Span
	for from := range 4 {
		for n := 1; n <= 4-from; n++ {
			out = append(out, api.Span{At: at + from, Len: n})
		}
	}
	return out
}

// P5.1 to P5.3: all small maps and all that may be done with them, at both
// ends of the disk and of the host.
func TestEverySmallMap(t *testing.T) {
	ends := []int{0, 65532}
	for _, virt := range ends {
		for _, phys := range ends {
			for _, p := range smallMaps(virt, phys) {
				smallMap(t, p, virt, phys)
			}
		}
	}
}

func smallMap(t *testing.T, p plain, virt, phys int) {
	l := p.extents()
	if err := extent.Check(l); err != api.OK {
		t.Fatalf("P5.1: Check(%v): %d", l, err)
	}
	wantUsed(t, l, p.used(), api.OK)
	for v := virt; v < virt+4; v++ {
		wantFind(t, l, v, p.at(v), api.OK)
		wantLook(t, l, v, 0, nil, api.OK)
		wantCut(t, l, v, 0, l, api.OK)
	}
	for _, s := range smallSpans(virt) {
		wantLook(t, l, s.At, s.Len, p.look(s.At, s.Len), api.OK)
		wantCut(t, l, s.At, s.Len, p.cut(s.At, s.Len).extents(), api.OK)
		for to := phys; to+s.Len <= phys+4; to++ {
			x := api.Extent{Virt: s.At, Phys: to, Len: s.Len}
			wantPut(t, l, x, p.put(x).extents(), api.OK)
		}
	}
	for _, s := range smallSpans(phys) {
		for to := phys; to+s.Len <= phys+4; to++ {
			wantMove(t, l, s, to, p.move(s, to).extents(), api.OK)
		}
	}
}
