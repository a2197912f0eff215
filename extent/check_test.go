package extent_test

import (
	"fmt"
	"slices"
	"testing"

	"flagstone/api"
	"flagstone/extent"
)

// told is l, or its beginning if it is long.
func told(l []api.Extent) string {
	if len(l) > 12 {
		return fmt.Sprint(len(l), " extents, the first of them ", l[:12])
	}
	return fmt.Sprint(l)
}

// row has count extents of so many sectors, a gap behind each of them in
// Virt and one of 5 in Phys.
func row(count, length, gap int) []api.Extent {
	var out []api.Extent
	for i := range count {
		out = append(out, api.Extent{Virt: i * (length + gap), Phys: 1000 + i*(length+5), Len: length})
	}
	return out
}

// ordinary has holes, extents that touch in Virt alone and in Phys alone,
// such as overlap in Phys, and two that stand in one place.
func ordinary() []api.Extent {
	return mapOf(list{{2, 100, 4}, {6, 50, 3}, {10, 53, 2}, {20, 55, 5}, {30, 102, 6}, {40, 7, 1}, {41, 7, 1}, {65530, 65530, 6}})
}

func mapsThatMayBe() map[string][]api.Extent {
	return map[string][]api.Extent{
		"nil":                                  nil,
		"empty":                                {},
		"the first sector":                     mapOf(list{{0, 0, 1}}),
		"the last sector":                      mapOf(list{{65535, 65535, 1}}),
		"all sectors":                          mapOf(list{{0, 0, 65536}}),
		"up to the end in Virt":                mapOf(list{{65534, 0, 2}}),
		"up to the end in Phys":                mapOf(list{{0, 65534, 2}}),
		"ordinary":                             ordinary(),
		"touch in Virt alone":                  mapOf(list{{0, 10, 5}, {5, 16, 5}}),
		"touch in Virt, Phys ahead":            mapOf(list{{0, 10, 5}, {5, 5, 5}}),
		"touch in Virt, one place":             mapOf(list{{0, 10, 5}, {5, 10, 5}}),
		"touch in Virt, overlap in Phys":       mapOf(list{{0, 10, 5}, {5, 14, 5}}),
		"touch in Phys alone":                  mapOf(list{{0, 10, 5}, {6, 15, 5}}),
		"could be one the other way round":     mapOf(list{{0, 15, 5}, {5, 10, 5}}),
		"could be one but for one between":     mapOf(list{{0, 10, 5}, {5, 90, 1}, {6, 15, 5}}),
		"1024 extents":                         row(1024, 1, 0),
		"1024 extents with holes":              row(1024, 3, 2),
		"1024 extents that stand in one place": oneForAll(1024),
	}
}

// oneForAll has count extents that stand in one place.
func oneForAll(count int) []api.Extent {
	out := row(count, 2, 0)
	for i := range out {
		out[i].Phys = 0
	}
	return out
}

// mapsThatMayNotBe has maps of which each has one fault alone.
func mapsThatMayNotBe() map[string][]api.Extent {
	bad := map[string][]api.Extent{
		"none":                      mapOf(list{{}}),
		"a Len of 0":                mapOf(list{{5, 5, 0}}),
		"a Len of 0 at the end":     mapOf(list{{65536, 65536, 0}}),
		"a Len below 0":             mapOf(list{{5, 5, -1}}),
		"a Virt below 0":            mapOf(list{{-1, 5, 3}}),
		"a Phys below 0":            mapOf(list{{5, -1, 3}}),
		"a hole":                    mapOf(list{{0, -1, 1}}),
		"Virt ends at 2^16 + 1":     mapOf(list{{65535, 0, 2}}),
		"Phys ends at 2^16 + 1":     mapOf(list{{0, 65535, 2}}),
		"a Virt of 2^16":            mapOf(list{{65536, 0, 1}}),
		"a Phys of 2^16":            mapOf(list{{0, 65536, 1}}),
		"a Len of 2^16 + 1":         mapOf(list{{0, 0, 65537}}),
		"out of order":              mapOf(list{{10, 10, 2}, {5, 30, 2}}),
		"out of order and touching": mapOf(list{{10, 10, 2}, {8, 30, 2}}),
		"out of order at the last":  mapOf(list{{0, 10, 2}, {20, 30, 2}, {10, 50, 2}}),
		"one twice":                 mapOf(list{{10, 10, 2}, {10, 10, 2}}),
		"one begins with the other": mapOf(list{{10, 10, 2}, {10, 30, 3}}),
		"overlap by one sector":     mapOf(list{{10, 10, 3}, {12, 30, 3}}),
		"overlap by all but one":    mapOf(list{{10, 10, 3}, {11, 30, 3}}),
		"overlap that goes on":      mapOf(list{{10, 10, 3}, {12, 12, 3}}),
		"one within another":        mapOf(list{{10, 10, 9}, {12, 50, 2}}),
		"one within the one before": mapOf(list{{0, 100, 10}, {2, 300, 2}, {5, 400, 2}}),
		"two that could be one":     mapOf(list{{10, 10, 2}, {12, 12, 2}}),
		"the last could be one":     mapOf(list{{0, 50, 2}, {10, 10, 2}, {12, 12, 2}}),
		"the first could be one":    mapOf(list{{0, 0, 1}, {1, 1, 1}, {10, 10, 2}}),
		"1025 extents":              row(1025, 1, 0),
		"1025 extents with holes":   row(1025, 3, 2),
		"1025 that stand in one":    oneForAll(1025),
		"1025 that are none":        make([]api.Extent, 1025),
	}
	for _, n := range anySize() {
		if n >= 0 && n <= 65535 {
			continue
		}
		bad[fmt.Sprint("a Virt of ", n)] = mapOf(list{{n, 5, 1}})
		bad[fmt.Sprint("a Phys of ", n)] = mapOf(list{{5, n, 1}})
		bad[fmt.Sprint("a Len of ", n)] = mapOf(list{{1, 1, n}})
		bad[fmt.Sprint("a last Virt of ", n)] = mapOf(list{{0, 7, 1}, {n, 5, 1}})
		bad[fmt.Sprint("a last Phys of ", n)] = mapOf(list{{0, 7, 1}, {5, n, 1}})
		bad[fmt.Sprint("a last Len of ", n)] = mapOf(list{{0, 7, 1}, {5, 5, n}})
		bad[fmt.Sprint("a first Virt of ", n)] = mapOf(list{{n, 7, 1}, {5, 5, 1}})
		bad[fmt.Sprint("a first Len of ", n)] = mapOf(list{{1, 7, n}, {5, 5, 1}})
	}
	return bad
}

// P5.1.
func TestCheckTakes(t *testing.T) {
	for name, l := range mapsThatMayBe() {
		if err := extent.Check(l); err != api.OK {
			t.Errorf("P5.1: Check, %s: %d", name, err)
		}
	}
}

// P5.1.
func TestCheckRefuses(t *testing.T) {
	for name, l := range mapsThatMayNotBe() {
		if err := extent.Check(l); err != api.ErrState {
			t.Errorf("P5.1: Check, %s: %d; want ErrState", name, err)
		}
	}
}

// P5.1, P1: one extent of all numbers beside each other.
func TestCheckOfAnySize(t *testing.T) {
	for _, virt := range anySize() {
		for _, phys := range anySize() {
			for _, length := range anySize() {
				want := api.ErrState
				if length >= 1 && isIn(virt, length) && isIn(phys, length) {
					want = api.OK
				}
				if err := extent.Check(mapOf(list{{virt, phys, length}})); err != want {
					t.Errorf("P5.1: Check(%d, %d, %d): %d; want %d", virt, phys, length, err, want)
				}
			}
		}
	}
}

// smallExtents has all extents of which each number is just in, at, or just
// out of a few sectors from these on, Len from 0 to 3.
func smallExtents(virt, phys int) []api.Extent {
	var out []api.Extent
	for v := virt - 1; v <= virt+4; v++ {
		for p := phys - 1; p <= phys+4; p++ {
			for n := range 4 {
				out = append(out, api.Extent{Virt: v, Phys: p, Len: n})
			}
		}
	}
	return out
}

// P5.1: each two beside each other, at both ends: they may be just if each
// may be and they are what the plain way makes of them, as few as can be.
func TestCheckOfTwo(t *testing.T) {
	for _, base := range []int{0, 100, 65532} {
		all := smallExtents(base, base)
		for _, a := range all {
			for _, b := range all {
				l, want := []api.Extent{a, b}, api.ErrState
				if aloneMayBe(a) && aloneMayBe(b) && slices.Equal(plainOf(l).extents(), l) {
					want = api.OK
				}
				if err := extent.Check(l); err != want {
					t.Fatalf("P5.1: Check(%v): %d; want %d", l, err, want)
				}
			}
		}
	}
}

func aloneMayBe(x api.Extent) bool {
	return x.Len >= 1 && isIn(x.Virt, x.Len) && isIn(x.Phys, x.Len)
}

// P5.1, P5.2, P4: of each call Check's error goes ahead of all others, and
// nothing stands beside it.
func TestCallsRefuseWhatMayNotBe(t *testing.T) {
	for name, l := range mapsThatMayNotBe() {
		t.Run(name, func(t *testing.T) {
			wantUsed(t, l, nil, api.ErrState)
			for _, n := range []int{0, 1, 5, -1, 65536} {
				wantFind(t, l, n, 0, api.ErrState)
				wantLook(t, l, n, 1, nil, api.ErrState)
				wantLook(t, l, 0, n, nil, api.ErrState)
				wantCut(t, l, n, 1, nil, api.ErrState)
				wantCut(t, l, 0, n, nil, api.ErrState)
				wantPut(t, l, api.Extent{Virt: n, Phys: 3, Len: 1}, nil, api.ErrState)
				wantPut(t, l, api.Extent{Virt: 3, Phys: 3, Len: n}, nil, api.ErrState)
				wantMove(t, l, api.Span{At: n, Len: 1}, 9, nil, api.ErrState)
				wantMove(t, l, api.Span{At: 3, Len: n}, 9, nil, api.ErrState)
				wantMove(t, l, api.Span{At: 3, Len: 1}, n, nil, api.ErrState)
			}
			// What would mend the map is refused too.
			wantCut(t, l, 0, 65536, nil, api.ErrState)
			wantPut(t, l, api.Extent{Len: 65536}, nil, api.ErrState)
		})
	}
}
