package extent_test

import (
	"testing"

	"flagstone/api"
	"flagstone/extent"
)

// P5.2: all of an extent, parts of one or more of them, or nothing.
func TestMove(t *testing.T) {
	l := mapOf(list{{2, 100, 4}, {6, 50, 3}, {20, 102, 5}})
	for _, c := range []struct {
		at, n, to int
		want      []api.Extent
	}{
		{100, 2, 7, mapOf(list{{2, 7, 2}, {4, 102, 2}, {6, 50, 3}, {20, 102, 5}})},
		{100, 4, 7, mapOf(list{{2, 7, 4}, {6, 50, 3}, {20, 9, 2}, {22, 104, 3}})},
		{101, 1, 7, mapOf(list{{2, 100, 1}, {3, 7, 1}, {4, 102, 2}, {6, 50, 3}, {20, 102, 5}})},
		{103, 1, 7, mapOf(list{{2, 100, 3}, {5, 7, 1}, {6, 50, 3}, {20, 102, 1}, {21, 7, 1}, {22, 104, 3}})},
		{106, 1, 7, mapOf(list{{2, 100, 4}, {6, 50, 3}, {20, 102, 4}, {24, 7, 1}})},
		{50, 3, 900, mapOf(list{{2, 100, 4}, {6, 900, 3}, {20, 102, 5}})},
		{40, 20, 900, mapOf(list{{2, 100, 4}, {6, 910, 3}, {20, 102, 5}})},
		{52, 50, 200, mapOf(list{{2, 248, 2}, {4, 102, 2}, {6, 50, 2}, {8, 200, 1}, {20, 102, 5}})},
		{53, 47, 900, l},
		{0, 50, 900, l},
		{107, 10, 900, l},
		{65535, 1, 0, l},
		{2, 4, 900, l},
		{6, 3, 900, l},
	} {
		wantMove(t, l, api.Span{At: c.at, Len: c.n}, c.to, c.want, api.OK)
	}
}

// P5.2: what is moved onto where it stands is as it was.
func TestMoveOntoItself(t *testing.T) {
	for _, l := range mapsThatMayBe() {
		for _, x := range spansOf(pairs{{0, 65536}, {0, 1}, {65535, 1}, {50, 3}, {51, 1}, {101, 20}, {1001, 1}, {1000, 9000}}) {
			wantMove(t, l, x, x.At, l, api.OK)
		}
	}
}

// P5.2: to what overlaps it, on either side: each sector moves once.
func TestMoveOntoWhatOverlaps(t *testing.T) {
	l := mapOf(list{{0, 100, 4}})
	wantMove(t, l, api.Span{At: 100, Len: 4}, 101, mapOf(list{{0, 101, 4}}), api.OK)
	wantMove(t, l, api.Span{At: 100, Len: 4}, 99, mapOf(list{{0, 99, 4}}), api.OK)
	wantMove(t, l, api.Span{At: 100, Len: 2}, 101, mapOf(list{{0, 101, 2}, {2, 102, 2}}), api.OK)
	wantMove(t, l, api.Span{At: 102, Len: 2}, 101, mapOf(list{{0, 100, 2}, {2, 101, 2}}), api.OK)
	wantMove(t, l, api.Span{At: 101, Len: 2}, 100, mapOf(list{{0, 100, 1}, {1, 100, 2}, {3, 103, 1}}), api.OK)
	wantMove(t, l, api.Span{At: 101, Len: 2}, 102, mapOf(list{{0, 100, 1}, {1, 102, 2}, {3, 103, 1}}), api.OK)
}

// P5.2: onto sectors in which others stand: those stay, and both stand there.
func TestMoveOntoOthers(t *testing.T) {
	l := mapOf(list{{0, 100, 4}, {10, 200, 4}})
	wantMove(t, l, api.Span{At: 100, Len: 4}, 200, mapOf(list{{0, 200, 4}, {10, 200, 4}}), api.OK)
	wantMove(t, l, api.Span{At: 100, Len: 150}, 200, mapOf(list{{0, 200, 4}, {10, 300, 4}}), api.OK)
	// What stood at to stays, though x goes over it.
	wantMove(t, l, api.Span{At: 200, Len: 4}, 102, mapOf(list{{0, 100, 4}, {10, 102, 4}}), api.OK)
}

// P5.2: to where extents become one, in the middle, on either side, and all.
func TestMoveMakesOne(t *testing.T) {
	l := mapOf(list{{0, 100, 4}, {4, 50, 3}, {7, 107, 4}})
	wantMove(t, l, api.Span{At: 50, Len: 3}, 104, mapOf(list{{0, 100, 11}}), api.OK)
	wantMove(t, l, api.Span{At: 50, Len: 1}, 104, mapOf(list{{0, 100, 5}, {5, 51, 2}, {7, 107, 4}}), api.OK)
	wantMove(t, l, api.Span{At: 52, Len: 1}, 106, mapOf(list{{0, 100, 4}, {4, 50, 2}, {6, 106, 5}}), api.OK)
	wantMove(t, l, api.Span{At: 100, Len: 4}, 46, mapOf(list{{0, 46, 7}, {7, 107, 4}}), api.OK)
	wantMove(t, l, api.Span{At: 107, Len: 4}, 53, mapOf(list{{0, 100, 4}, {4, 50, 7}}), api.OK)
	wantMove(t, l, api.Span{At: 103, Len: 1}, 49, mapOf(list{{0, 100, 3}, {3, 49, 4}, {7, 107, 4}}), api.OK)
	// A hole between them keeps them apart.
	apart := mapOf(list{{0, 100, 4}, {5, 50, 3}})
	wantMove(t, apart, api.Span{At: 50, Len: 3}, 104, mapOf(list{{0, 100, 4}, {5, 104, 3}}), api.OK)
}

// P5.2: the empty map, and the ends of the host.
func TestMoveAtTheEdges(t *testing.T) {
	for _, l := range [][]api.Extent{nil, {}} {
		wantMove(t, l, api.Span{At: 0, Len: 65536}, 0, nil, api.OK)
		wantMove(t, l, api.Span{At: 5, Len: 1}, 65535, nil, api.OK)
	}
	all := mapOf(list{{0, 0, 65536}})
	wantMove(t, all, api.Span{At: 0, Len: 1}, 65535, mapOf(list{{0, 65535, 1}, {1, 1, 65535}}), api.OK)
	wantMove(t, all, api.Span{At: 65535, Len: 1}, 0, mapOf(list{{0, 0, 65535}, {65535, 0, 1}}), api.OK)
	wantMove(t, all, api.Span{At: 0, Len: 65535}, 1, mapOf(list{{0, 1, 65535}, {65535, 65535, 1}}), api.OK)
	wantMove(t, all, api.Span{At: 1, Len: 65535}, 0, mapOf(list{{0, 0, 1}, {1, 0, 65535}}), api.OK)
}

// P5.2, P1: numbers of any size beside each other.
func TestMoveOfAnySize(t *testing.T) {
	p := plainOf(ordinary())
	for _, at := range anySize() {
		for _, n := range anySize() {
			for _, to := range anySize() {
				x := api.Span{At: at, Len: n}
				if n < 1 || !isIn(at, n) || !isIn(to, n) {
					wantMove(t, ordinary(), x, to, nil, api.ErrRange)
					wantMove(t, nil, x, to, nil, api.ErrRange)
				} else {
					wantMove(t, ordinary(), x, to, p.move(x, to).extents(), api.OK)
				}
			}
		}
	}
}

// P5.2: spans apart, such as touch or overlap in Phys, one within another,
// and one for several; by At, whatever their order in Virt.
func TestUsed(t *testing.T) {
	for _, c := range []struct {
		l    []api.Extent
		want []api.Span
	}{
		{nil, nil},
		{[]api.Extent{}, nil},
		{mapOf(list{{5, 0, 1}}), spansOf(pairs{{0, 1}})},
		{mapOf(list{{0, 65535, 1}}), spansOf(pairs{{65535, 1}})},
		{mapOf(list{{0, 0, 65536}}), spansOf(pairs{{0, 65536}})},
		{mapOf(list{{0, 20, 2}, {5, 10, 3}, {9, 0, 1}}), spansOf(pairs{{0, 1}, {10, 3}, {20, 2}})},
		{mapOf(list{{0, 10, 2}, {5, 13, 3}}), spansOf(pairs{{10, 2}, {13, 3}})},
		{mapOf(list{{0, 10, 2}, {5, 12, 3}}), spansOf(pairs{{10, 5}})},
		{mapOf(list{{0, 12, 3}, {3, 10, 2}}), spansOf(pairs{{10, 5}})},
		{mapOf(list{{0, 10, 4}, {5, 12, 4}}), spansOf(pairs{{10, 6}})},
		{mapOf(list{{0, 12, 4}, {5, 10, 4}}), spansOf(pairs{{10, 6}})},
		{mapOf(list{{0, 10, 9}, {20, 12, 2}}), spansOf(pairs{{10, 9}})},
		{mapOf(list{{0, 12, 2}, {20, 10, 9}}), spansOf(pairs{{10, 9}})},
		{mapOf(list{{0, 10, 9}, {20, 10, 2}, {30, 17, 2}, {40, 19, 1}}), spansOf(pairs{{10, 10}})},
		{mapOf(list{{0, 10, 3}, {3, 10, 3}, {6, 10, 3}}), spansOf(pairs{{10, 3}})},
		{mapOf(list{{0, 10, 3}, {3, 10, 5}, {8, 10, 1}}), spansOf(pairs{{10, 5}})},
		{mapOf(list{{0, 10, 2}, {5, 14, 2}, {9, 12, 2}, {20, 30, 1}}), spansOf(pairs{{10, 6}, {30, 1}})},
		{ordinary(), spansOf(pairs{{7, 1}, {50, 10}, {100, 8}, {65530, 6}})},
		{oneForAll(1024), spansOf(pairs{{0, 2}})},
	} {
		wantUsed(t, c.l, c.want, api.OK)
	}
	for _, l := range mapsThatMayBe() {
		wantUsed(t, l, plainOf(l).used(), api.OK)
	}
}

// P5.3: each sector of the disk, ahead of a change and behind it; and what is
// answered may be.
func TestChangesChangeJustWhatTheySay(t *testing.T) {
	l := mapOf(list{{0, 300, 40}, {40, 100, 25}, {70, 110, 30}, {100, 0, 5}, {105, 120, 7}, {65500, 400, 36}})
	old := plainOf(l)
	cut, err1 := extent.Cut(l, 30, 45)
	put, err2 := extent.Put(l, api.Extent{Virt: 60, Phys: 125, Len: 12})
	moved, err3 := extent.Move(l, api.Span{At: 105, Len: 20}, 2000)
	if err1 != api.OK || err2 != api.OK || err3 != api.OK {
		t.Fatal("P5.3: refused:", err1, err2, err3)
	}
	for _, answer := range [][]api.Extent{cut, put, moved} {
		if err := extent.Check(answer); err != api.OK {
			t.Errorf("P5.3: %v may not be: %d", answer, err)
		}
	}
	for virt := range 65536 {
		wantOfCut, wantOfPut, wantOfMoved := old.at(virt), old.at(virt), old.at(virt)
		if virt >= 30 && virt < 75 {
			wantOfCut = -1
		}
		if virt >= 60 && virt < 72 {
			wantOfPut = 125 + virt - 60
		}
		if phys := old.at(virt); phys >= 105 && phys < 125 {
			wantOfMoved = 2000 + phys - 105
		}
		wantFind(t, cut, virt, wantOfCut, api.OK)
		wantFind(t, put, virt, wantOfPut, api.OK)
		wantFind(t, moved, virt, wantOfMoved, api.OK)
	}
}

// P5.3: many changes of one map, each held against the plain way. The
// numbers follow from one another, so that each run is the same.
func TestManyChanges(t *testing.T) {
	seed := uint32(5)
	below := func(n int) int {
		seed = seed*1664525 + 1013904223
		return int(seed>>8) % n
	}
	var l []api.Extent
	p := plain{}
	for range 4000 {
		at, n, to := below(300), 1+below(20), below(300)
		switch below(4) {
		case 0:
			wantCut(t, l, at, n, p.cut(at, n).extents(), api.OK)
			p = p.cut(at, n)
		case 1:
			x := api.Span{At: at, Len: n}
			wantMove(t, l, x, to, p.move(x, to).extents(), api.OK)
			p = p.move(x, to)
		default:
			x := api.Extent{Virt: at, Phys: to, Len: n}
			wantPut(t, l, x, p.put(x).extents(), api.OK)
			p = p.put(x)
		}
		l = p.extents()
		wantUsed(t, l, p.used(), api.OK)
		wantLook(t, l, at, n, p.look(at, n), api.OK)
		wantFind(t, l, to, p.at(to), api.OK)
	}
}
