package refs_test

import (
	"testing"

	"flagstone/api"
	"flagstone/refs"
)

// example is that of the chapter: two owners that share 4 sectors.
func example() []refs.Map {
	return []refs.Map{mapOf(0, extents{{0, 3, 4}}), mapOf(1, extents{{9, 3, 4}})}
}

// P9.1: the chapter's example.
func TestCountsOfTheExample(t *testing.T) {
	wantCounts(t, example(), countsOf(triples{{3, 4, 2}}), api.OK)
	wantUsed(t, example(), spansOf(spans{{3, 4}}), api.OK)
}

// P9.1: sectors that stand in several places of maps, and what touches.
func TestCounts(t *testing.T) {
	for _, c := range []struct {
		name string
		m    []refs.Map
		want triples
		used spans
	}{
		{"one extent", []refs.Map{mapOf(7, extents{{9, 5, 3}})}, triples{{5, 3, 1}}, spans{{5, 3}}},
		{"one owner twice", []refs.Map{mapOf(0, extents{{0, 5, 3}, {3, 5, 3}})}, triples{{5, 3, 2}}, spans{{5, 3}}},
		{"one owner, a part twice", []refs.Map{mapOf(0, extents{{0, 5, 6}, {10, 7, 2}})}, triples{{5, 2, 1}, {7, 2, 2}, {9, 2, 1}}, spans{{5, 6}}},
		{"one owner thrice", []refs.Map{mapOf(0, extents{{0, 5, 1}, {1, 5, 1}, {2, 5, 1}})}, triples{{5, 1, 3}}, spans{{5, 1}}},
		{"one twice, another once", []refs.Map{mapOf(0, extents{{0, 5, 2}, {2, 5, 2}}), mapOf(9, extents{{0, 6, 2}})}, triples{{5, 1, 2}, {6, 1, 3}, {7, 1, 1}}, spans{{5, 3}}},
		{"two share some", []refs.Map{mapOf(0, extents{{0, 10, 6}}), mapOf(1, extents{{0, 13, 6}})}, triples{{10, 3, 1}, {13, 3, 2}, {16, 3, 1}}, spans{{10, 9}}},
		{"two share none", []refs.Map{mapOf(0, extents{{0, 10, 2}}), mapOf(1, extents{{0, 20, 2}})}, triples{{10, 2, 1}, {20, 2, 1}}, spans{{10, 2}, {20, 2}}},
		{"a gap of one", []refs.Map{mapOf(0, extents{{0, 10, 2}}), mapOf(1, extents{{0, 13, 2}})}, triples{{10, 2, 1}, {13, 2, 1}}, spans{{10, 2}, {13, 2}}},
		{"one within another", []refs.Map{mapOf(0, extents{{0, 10, 9}}), mapOf(1, extents{{0, 12, 2}})}, triples{{10, 2, 1}, {12, 2, 2}, {14, 5, 1}}, spans{{10, 9}}},
		{"they begin together", []refs.Map{mapOf(0, extents{{0, 10, 9}}), mapOf(1, extents{{0, 10, 2}})}, triples{{10, 2, 2}, {12, 7, 1}}, spans{{10, 9}}},
		{"they end together", []refs.Map{mapOf(0, extents{{0, 10, 9}}), mapOf(1, extents{{0, 17, 2}})}, triples{{10, 7, 1}, {17, 2, 2}}, spans{{10, 9}}},
		{"touch, like counts, two owners", []refs.Map{mapOf(0, extents{{0, 10, 2}}), mapOf(1, extents{{0, 12, 2}})}, triples{{10, 4, 1}}, spans{{10, 4}}},
		{"touch, the higher owner first", []refs.Map{mapOf(0, extents{{0, 12, 2}}), mapOf(1, extents{{0, 10, 2}})}, triples{{10, 4, 1}}, spans{{10, 4}}},
		{"touch, like counts, one owner", []refs.Map{mapOf(0, extents{{0, 10, 2}, {9, 12, 2}, {20, 8, 2}})}, triples{{8, 6, 1}}, spans{{8, 6}}},
		{"touch, like counts of 2", []refs.Map{mapOf(0, extents{{0, 10, 4}}), mapOf(1, extents{{0, 10, 2}}), mapOf(2, extents{{0, 12, 2}})}, triples{{10, 4, 2}}, spans{{10, 4}}},
		{"touch, unlike counts", []refs.Map{mapOf(0, extents{{0, 10, 2}, {2, 10, 2}, {9, 12, 2}})}, triples{{10, 2, 2}, {12, 2, 1}}, spans{{10, 4}}},
		{"up by two and down by two", []refs.Map{mapOf(0, extents{{0, 5, 9}}), mapOf(1, extents{{0, 8, 3}}), mapOf(2, extents{{0, 8, 3}})}, triples{{5, 3, 1}, {8, 3, 3}, {11, 3, 1}}, spans{{5, 9}}},
		{"the first and the last sector", []refs.Map{mapOf(0, extents{{0, 65535, 1}}), mapOf(1, extents{{0, 0, 1}})}, triples{{0, 1, 1}, {65535, 1, 1}}, spans{{0, 1}, {65535, 1}}},
		{"all sectors", nineOf(listOf(extents{{0, 0, 65536}})), triples{{0, 65536, 9}}, spans{{0, 65536}}},
		{"ordinary", ordinary(), triples{
			{7, 1, 1}, {40, 10, 1}, {50, 1, 2}, {51, 2, 3}, {53, 2, 2}, {100, 1, 2}, {101, 1, 3}, {102, 1, 4}, {103, 1, 3}, {104, 2, 1}, {65530, 5, 1}, {65535, 1, 2},
		}, spans{{7, 1}, {40, 15}, {100, 6}, {65530, 6}}},
	} {
		t.Run(c.name, func(t *testing.T) {
			wantCounts(t, c.m, countsOf(c.want), api.OK)
			wantUsed(t, c.m, spansOf(c.used), api.OK)
		})
	}
}

// P9.1: by At, as few as can be, whatever the maps are.
func TestCountsOfAllMaps(t *testing.T) {
	for name, m := range mapsThatMayBe() {
		t.Run(name, func(t *testing.T) {
			wantCounts(t, m, plainCounts(m), api.OK)
			wantUsed(t, m, plainUsed(m), api.OK)
		})
	}
}

// P9.1: as many counts and spans as can be: more than one map may have.
func TestCountsOfManyExtents(t *testing.T) {
	var m []refs.Map
	var want []refs.Count
	var used []api.Span
	for owner := range 9 {
		m = append(m, refs.Map{Owner: owner, List: row(1024, 1, owner*2048)})
		for k := range 1024 {
			want = append(want, refs.Count{At: owner*2048 + 2*k, Len: 1, N: 1})
			used = append(used, span(owner*2048+2*k, 1))
		}
	}
	wantCounts(t, m, want, api.OK)
	wantUsed(t, m, used, api.OK)
}

// P9.1: where each sector is referred to by one owner more than the one ahead.
func TestCountsOfStairs(t *testing.T) {
	var m []refs.Map
	var want []refs.Count
	for owner := range 9 {
		m = append(m, mapOf(owner*3, extents{{owner, 30 + owner, 9 - owner}}))
		want = append(want, refs.Count{At: 30 + owner, Len: 1, N: owner + 1})
	}
	wantCounts(t, m, want, api.OK)
	wantUsed(t, m, spansOf(spans{{30, 9}}), api.OK)
}
