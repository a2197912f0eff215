package refs_test

import (
	"fmt"
	"slices"
	"testing"

	"flagstone/api"
	"flagstone/refs"
)

// row has count extents of so many sectors from phys on, a gap behind each of
// them in Virt and in Phys; each two neighbours have changed places, so that
// the order by Phys is not that by Virt.
func row(count, length, phys int) []api.Extent {
	var out []api.Extent
	for i := range count {
		out = append(out, api.Extent{Virt: i * (length + 1), Phys: phys + i*(length+1), Len: length})
	}
	for i := 1; i < count; i += 2 {
		out[i-1].Phys, out[i].Phys = out[i].Phys, out[i-1].Phys
	}
	return out
}

// ofOwners has one small map for each of these owners.
func ofOwners(owners ...int) []refs.Map {
	var out []refs.Map
	for i, owner := range owners {
		out = append(out, mapOf(owner, extents{{i, 10 + i, 3}}))
	}
	return out
}

// from has n owners, the first of them that one.
func from(first, n int) []int {
	var out []int
	for i := range n {
		out = append(out, first+i)
	}
	return out
}

// ordinary has owners that share sectors, some of them thrice, one that
// refers to some twice, an empty map, and the last sectors of all.
func ordinary() []refs.Map {
	return []refs.Map{
		mapOf(0, extents{{2, 100, 4}, {6, 50, 3}, {10, 53, 2}, {20, 101, 5}, {65530, 65530, 6}}),
		mapOf(3, extents{{2, 100, 4}, {7, 51, 2}, {20, 7, 1}}),
		mapOf(4, nil),
		mapOf(255, extents{{0, 102, 1}, {1, 40, 15}, {40, 65535, 1}}),
	}
}

func mapsThatMayBe() map[string][]refs.Map {
	return map[string][]refs.Map{
		"no maps":                    nil,
		"no maps, an empty list":     {},
		"an empty map":               {mapOf(0, nil)},
		"an empty list in a map":     {{Owner: 7, List: []api.Extent{}}},
		"empty maps":                 {mapOf(0, nil), mapOf(1, nil), mapOf(255, nil)},
		"empty maps and one":         {mapOf(0, nil), mapOf(1, extents{{5, 6, 7}}), mapOf(255, nil)},
		"owner 0":                    ofOwners(0),
		"owner 255":                  ofOwners(255),
		"owners 0 and 255":           ofOwners(0, 255),
		"9 owners":                   ofOwners(from(0, 9)...),
		"the last 9 owners":          ofOwners(from(247, 9)...),
		"9 empty maps":               make9Empty(),
		"ordinary":                   ordinary(),
		"all sectors":                {mapOf(0, extents{{0, 0, 65536}})},
		"all sectors of 9 owners":    nineOf(listOf(extents{{0, 0, 65536}})),
		"1024 extents":               {{Owner: 9, List: row(1024, 3, 5)}},
		"1024 extents of 9 owners":   nineOf(row(1024, 3, 5)),
		"1024 extents, one of 1 too": {{Owner: 0, List: row(1024, 1, 0)}, mapOf(1, extents{{0, 0, 65536}})},
	}
}

func make9Empty() []refs.Map {
	var out []refs.Map
	for owner := range 9 {
		out = append(out, mapOf(owner*10, nil))
	}
	return out
}

// nineOf has 9 owners with a copy of l.
func nineOf(l []api.Extent) []refs.Map {
	var out []refs.Map
	for owner := range 9 {
		out = append(out, refs.Map{Owner: owner * 20, List: slices.Clone(l)})
	}
	return out
}

// badLists has maps of one owner that may not be, each for one reason.
func badLists() map[string][]api.Extent {
	return map[string][]api.Extent{
		"a Len of 0":            listOf(extents{{5, 5, 0}}),
		"a Len below 0":         listOf(extents{{5, 5, -1}}),
		"a Virt below 0":        listOf(extents{{-1, 5, 3}}),
		"a Phys below 0":        listOf(extents{{5, -1, 3}}),
		"Virt ends behind":      listOf(extents{{65535, 0, 2}}),
		"Phys ends behind":      listOf(extents{{0, 65535, 2}}),
		"out of order":          listOf(extents{{10, 10, 2}, {5, 30, 2}}),
		"overlap":               listOf(extents{{10, 10, 3}, {12, 30, 3}}),
		"two that could be one": listOf(extents{{10, 10, 2}, {12, 12, 2}}),
		"1025 extents":          row(1025, 1, 0),
	}
}

// mapsThatMayNotBe has maps of which each has one fault alone.
func mapsThatMayNotBe() map[string][]refs.Map {
	bad := map[string][]refs.Map{
		"10 owners":             ofOwners(from(0, 10)...),
		"the last 10 owners":    ofOwners(from(246, 10)...),
		"10 empty maps":         append(make9Empty(), mapOf(255, nil)),
		"256 owners":            ofOwners(from(0, 256)...),
		"owner -1":              ofOwners(-1),
		"owner -1, then others": ofOwners(-1, 0, 1),
		"owner 256":             ofOwners(256),
		"others, then 256":      ofOwners(0, 255, 256),
		"an empty map of -1":    {mapOf(-1, nil)},
		"an empty map of 256":   {mapOf(256, nil)},
		"one owner twice":       ofOwners(4, 4),
		"owner 0 twice":         ofOwners(0, 0),
		"the last owner twice":  ofOwners(0, 3, 3),
		"two empty maps of one": {mapOf(4, nil), mapOf(4, nil)},
		"owners that fall":      ofOwners(5, 4),
		"the last owner falls":  ofOwners(0, 5, 4),
		"the first owner falls": ofOwners(5, 4, 6),
		"empty maps that fall":  {mapOf(5, nil), mapOf(4, nil)},
		"an owner comes again":  ofOwners(0, 1, 0),
		"9 owners and one more": append(ofOwners(from(0, 9)...), mapOf(255, nil)),
	}
	for _, n := range anySize() {
		if n < 0 || n > 255 {
			bad[fmt.Sprint("owner ", n)] = ofOwners(n)
			bad[fmt.Sprint("a first owner ", n)] = ofOwners(n, 4)
			bad[fmt.Sprint("a last owner ", n)] = ofOwners(4, n)
		}
	}
	for name, l := range badLists() {
		bad["a map with "+name] = []refs.Map{{Owner: 0, List: l}}
		bad["the first with "+name] = []refs.Map{{Owner: 0, List: l}, mapOf(1, extents{{1, 2, 3}}), mapOf(2, nil)}
		bad["the last with "+name] = []refs.Map{mapOf(0, nil), mapOf(1, extents{{1, 2, 3}}), {Owner: 255, List: l}}
	}
	return bad
}

// P9.1.
func TestCheckTakes(t *testing.T) {
	for name, m := range mapsThatMayBe() {
		if err := refs.Check(m); err != api.OK {
			t.Errorf("P9.1: Check, %s: %d", name, err)
		}
	}
}

// P9.1.
func TestCheckRefuses(t *testing.T) {
	for name, m := range mapsThatMayNotBe() {
		if err := refs.Check(m); err != api.ErrState {
			t.Errorf("P9.1: Check, %s: %d; want ErrState", name, err)
		}
	}
}

// P9.1: each two and each three owners beside each other.
func TestCheckOfOwners(t *testing.T) {
	owners := []int{-2, -1, 0, 1, 2, 254, 255, 256, 257}
	isOwner := func(n int) bool { return n >= 0 && n <= 255 }
	for _, a := range owners {
		for _, b := range owners {
			for _, c := range owners {
				want := api.ErrState
				if isOwner(a) && isOwner(b) && isOwner(c) && a < b && b < c {
					want = api.OK
				}
				wantCheck(t, ofOwners(a, b, c), want)
			}
		}
	}
}

// P9.1: up to 9 maps, and no more, wherever they begin.
func TestCheckOfManyMaps(t *testing.T) {
	for _, first := range []int{0, 1, 100, 236} {
		for n := range 20 {
			want := api.OK
			if n > 9 {
				want = api.ErrState
			}
			wantCheck(t, ofOwners(from(first, n)...), want)
		}
	}
}

// P9.1, P4: of each call but Back Check's error goes ahead of all others, and
// nothing stands beside it.
func TestCallsRefuseWhatMayNotBe(t *testing.T) {
	for name, m := range mapsThatMayNotBe() {
		t.Run(name, func(t *testing.T) {
			wantCounts(t, m, nil, api.ErrState)
			wantRefs(t, m, nil, api.ErrState)
			wantUsed(t, m, nil, api.ErrState)
			for _, x := range spansOf(spans{{0, 1}, {10, 3}, {0, 65536}, {-1, 1}, {0, 0}, {5, -1}, {-1, -1}, {65536, 1}}) {
				wantWho(t, m, x, nil, api.ErrState)
				wantShared(t, m, x, false, api.ErrState)
			}
		})
	}
}

// P9.1, P1: a nil list and an empty one are one to each call.
func TestNothingAtAll(t *testing.T) {
	for _, m := range [][]refs.Map{nil, {}, {mapOf(0, nil)}, {{Owner: 255, List: []api.Extent{}}}, make9Empty()} {
		wantCheck(t, m, api.OK)
		wantCounts(t, m, nil, api.OK)
		wantRefs(t, m, nil, api.OK)
		wantUsed(t, m, nil, api.OK)
		for _, x := range spansOf(spans{{0, 1}, {0, 65536}, {65535, 1}, {70000, 5}}) {
			wantWho(t, m, x, nil, api.OK)
			wantShared(t, m, x, false, api.OK)
		}
		for _, x := range spansOf(spans{{-1, 1}, {0, 0}, {5, -1}}) {
			wantWho(t, m, x, nil, api.ErrRange)
			wantShared(t, m, x, false, api.ErrRange)
		}
	}
}
