package refs_test

import (
	"testing"

	"flagstone/api"
	"flagstone/refs"
)

// P9.1: the chapter's example, asked of all and of one sector.
func TestRefsOfTheExample(t *testing.T) {
	wantRefs(t, example(), refsOf(quads{{3, 4, 0, 0}, {3, 4, 1, 9}}), api.OK)
	wantWho(t, example(), span(5, 1), refsOf(quads{{5, 1, 0, 2}, {5, 1, 1, 11}}), api.OK)
	wantShared(t, example(), span(5, 1), true, api.OK)
}

// P9.1: by Phys first, of one place by Owner, of one place and owner by Virt.
func TestRefsOrder(t *testing.T) {
	for _, c := range []struct {
		name string
		m    []refs.Map
		want quads
	}{
		{"by Phys, not by Virt", []refs.Map{mapOf(0, extents{{0, 30, 2}, {5, 20, 2}, {9, 10, 2}})}, quads{{10, 2, 0, 9}, {20, 2, 0, 5}, {30, 2, 0, 0}}},
		{"by Phys, not by Owner", []refs.Map{mapOf(0, extents{{0, 30, 2}}), mapOf(1, extents{{0, 20, 2}}), mapOf(255, extents{{0, 10, 2}})}, quads{{10, 2, 255, 0}, {20, 2, 1, 0}, {30, 2, 0, 0}}},
		{"by Owner, not by Virt", []refs.Map{mapOf(2, extents{{9, 10, 2}}), mapOf(10, extents{{5, 10, 2}}), mapOf(255, extents{{1, 10, 2}})}, quads{{10, 2, 2, 9}, {10, 2, 10, 5}, {10, 2, 255, 1}}},
		{"by Owner, not by Len", []refs.Map{mapOf(2, extents{{0, 10, 9}}), mapOf(10, extents{{0, 10, 1}})}, quads{{10, 9, 2, 0}, {10, 1, 10, 0}}},
		{"by Virt, not by Len", []refs.Map{mapOf(0, extents{{0, 10, 3}, {3, 10, 1}, {8, 10, 2}, {20, 10, 1}})}, quads{{10, 3, 0, 0}, {10, 1, 0, 3}, {10, 2, 0, 8}, {10, 1, 0, 20}}},
		{"all three", []refs.Map{mapOf(1, extents{{0, 20, 1}, {4, 10, 1}, {6, 20, 1}}), mapOf(2, extents{{1, 10, 1}, {3, 20, 1}})}, quads{{10, 1, 1, 4}, {10, 1, 2, 1}, {20, 1, 1, 0}, {20, 1, 1, 6}, {20, 1, 2, 3}}},
		{"one for each extent, though they touch", []refs.Map{mapOf(0, extents{{0, 10, 2}, {9, 12, 2}}), mapOf(1, extents{{2, 14, 2}})}, quads{{10, 2, 0, 0}, {12, 2, 0, 9}, {14, 2, 1, 2}}},
		{"ordinary", ordinary(), quads{
			{7, 1, 3, 20}, {40, 15, 255, 1}, {50, 3, 0, 6}, {51, 2, 3, 7}, {53, 2, 0, 10}, {100, 4, 0, 2}, {100, 4, 3, 2}, {101, 5, 0, 20}, {102, 1, 255, 0}, {65530, 6, 0, 65530}, {65535, 1, 255, 40},
		}},
	} {
		t.Run(c.name, func(t *testing.T) {
			wantRefs(t, c.m, refsOf(c.want), api.OK)
			wantWho(t, c.m, everywhere(), refsOf(c.want), api.OK)
		})
	}
}

// P9.1: of all maps one for each extent, in order; also of more than Back
// would take.
func TestRefsOfAllMaps(t *testing.T) {
	for name, m := range mapsThatMayBe() {
		t.Run(name, func(t *testing.T) {
			all := 0
			for _, x := range m {
				all += len(x.List)
			}
			got, err := refs.Refs(m)
			if len(got) != all || err != api.OK {
				t.Fatalf("P9.1: Refs: %d references, %d; want %d", len(got), err, all)
			}
			wantRefs(t, m, plainWho(m, everywhere()), api.OK)
		})
	}
}

// P9.1: a reference that begins ahead of these sectors, ends behind them,
// lies in them, or has them in it; and one that only touches them.
func TestWhoCuts(t *testing.T) {
	m := []refs.Map{mapOf(6, extents{{70, 20, 10}})}
	for _, c := range []struct {
		x    api.Span
		want quads
	}{
		{span(25, 10), quads{{25, 5, 6, 75}}}, // it begins ahead
		{span(29, 10), quads{{29, 1, 6, 79}}},
		{span(15, 10), quads{{20, 5, 6, 70}}}, // it ends behind
		{span(11, 10), quads{{20, 1, 6, 70}}},
		{span(15, 30), quads{{20, 10, 6, 70}}}, // it lies in them
		{span(20, 10), quads{{20, 10, 6, 70}}},
		{span(20, 11), quads{{20, 10, 6, 70}}},
		{span(19, 11), quads{{20, 10, 6, 70}}},
		{span(0, 65536), quads{{20, 10, 6, 70}}},
		{span(23, 4), quads{{23, 4, 6, 73}}}, // it has them in it
		{span(20, 1), quads{{20, 1, 6, 70}}},
		{span(29, 1), quads{{29, 1, 6, 79}}},
		{span(20, 9), quads{{20, 9, 6, 70}}},
		{span(21, 9), quads{{21, 9, 6, 71}}},
		{span(10, 10), nil}, // it only touches them
		{span(30, 10), nil},
		{span(0, 1), nil},
		{span(65535, 1), nil},
	} {
		wantWho(t, m, c.x, refsOf(c.want), api.OK)
	}
}

// P9.1: what is cut is in order as it is then: those that began ahead all
// begin where the sectors do.
func TestWhoOrdersWhatIsCut(t *testing.T) {
	m := []refs.Map{
		mapOf(1, extents{{9, 13, 9}, {30, 12, 4}}),
		mapOf(2, extents{{0, 12, 9}, {20, 16, 2}}),
		mapOf(3, extents{{50, 11, 5}, {60, 10, 5}}),
	}
	wantRefs(t, m, refsOf(quads{{10, 5, 3, 60}, {11, 5, 3, 50}, {12, 4, 1, 30}, {12, 9, 2, 0}, {13, 9, 1, 9}, {16, 2, 2, 20}}), api.OK)
	wantWho(t, m, span(14, 3), refsOf(quads{{14, 3, 1, 10}, {14, 2, 1, 32}, {14, 3, 2, 2}, {14, 2, 3, 53}, {14, 1, 3, 64}, {16, 1, 2, 20}}), api.OK)
	wantWho(t, m, span(12, 1), refsOf(quads{{12, 1, 1, 30}, {12, 1, 2, 0}, {12, 1, 3, 51}, {12, 1, 3, 62}}), api.OK)
}

// P9.1: one sector, and many, of which one, some, or none is shared, by two
// owners or by one with itself.
func TestShared(t *testing.T) {
	m := []refs.Map{
		mapOf(0, extents{{0, 10, 10}, {40, 60, 2}, {50, 61, 1}}),
		mapOf(4, extents{{7, 15, 1}, {8, 20, 5}, {20, 40, 5}}),
		mapOf(5, extents{{0, 45, 5}}),
	}
	for _, c := range []struct {
		x    api.Span
		want bool
	}{
		{span(15, 1), true}, {span(14, 1), false}, {span(16, 1), false}, {span(9, 1), false},
		{span(10, 5), false}, {span(10, 6), true}, {span(15, 9), true}, {span(16, 9), false}, {span(14, 3), true}, {span(0, 16), true}, {span(0, 15), false},
		{span(16, 44), false}, // neighbours of two owners are not shared
		{span(19, 2), false}, {span(44, 2), false}, {span(40, 10), false},
		{span(60, 1), false}, {span(61, 1), true}, {span(60, 2), true}, {span(61, 5), true}, {span(62, 5), false}, // one owner alone
		{span(16, 46), true}, {span(0, 65536), true}, {span(100, 100), false}, {span(65535, 1), false},
	} {
		wantShared(t, m, c.x, c.want, api.OK)
	}
}

// P9.1, P1, P4: numbers of any size beside each other: none goes round.
func TestSpansOfAnySize(t *testing.T) {
	for name, m := range map[string][]refs.Map{"ordinary": ordinary(), "none": nil, "example": example()} {
		t.Run(name, func(t *testing.T) {
			for _, at := range anySize() {
				for _, n := range anySize() {
					x := span(at, n)
					if at < 0 || n < 1 {
						wantWho(t, m, x, nil, api.ErrRange)
						wantShared(t, m, x, false, api.ErrRange)
					} else {
						wantWho(t, m, x, plainWho(m, x), api.OK)
						wantShared(t, m, x, plainShared(m, x), api.OK)
					}
				}
			}
		})
	}
}

// P9.1: every span of the ordinary maps' sectors that begins or ends at, or
// next to, an edge of an extent.
func TestSpansAtEdges(t *testing.T) {
	m := ordinary()
	var edges []int
	for _, r := range refsOf(quads{{7, 1, 0, 0}, {40, 15, 0, 0}, {50, 3, 0, 0}, {100, 6, 0, 0}, {101, 2, 0, 0}, {65530, 5, 0, 0}, {65535, 1, 0, 0}}) {
		for _, k := range []int{-1, 0, 1} {
			edges = append(edges, r.Phys+k, r.Phys+r.Len+k)
		}
	}
	for _, at := range edges {
		for _, end := range edges {
			if at < end {
				x := span(at, end-at)
				wantWho(t, m, x, plainWho(m, x), api.OK)
				wantShared(t, m, x, plainShared(m, x), api.OK)
			}
		}
	}
}
