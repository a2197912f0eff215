package free_test

import (
	"fmt"
	"testing"

	"flagstone/api"
	"flagstone/free"
)

// ordinary has spans of several lengths, two of them like, the first sector
// and the last one free.
func ordinary() free.State {
	return stateOf(100, pairs{{0, 2}, {5, 6}, {20, 3}, {24, 1}, {30, 10}, {50, 3}, {90, 10}})
}

func statesThatMayBe() map[string]free.State {
	return map[string]free.State{
		"no sectors":                stateOf(0, nil),
		"no sectors, an empty list": {Spans: []api.Span{}},
		"nothing is free":           stateOf(100, nil),
		"nothing of 2^16 is free":   stateOf(65536, nil),
		"all are free":              stateOf(100, pairs{{0, 100}}),
		"all of 2^16 are free":      stateOf(65536, pairs{{0, 65536}}),
		"one that is free":          stateOf(1, pairs{{0, 1}}),
		"the first is free":         stateOf(100, pairs{{0, 1}}),
		"the last is free":          stateOf(100, pairs{{99, 1}}),
		"the last of 2^16 is free":  stateOf(65536, pairs{{65535, 1}}),
		"all but one":               stateOf(65536, pairs{{0, 30000}, {30001, 35535}}),
		"ordinary":                  ordinary(),
		"1024 spans":                row(1024, 1, 1),
		"1024 longer spans":         row(1024, 3, 2),
		"1024 spans up to the end":  {Size: 65536, Spans: row(1024, 61, 3).Spans},
	}
}

// statesThatMayNotBe has states of which each has one fault alone.
func statesThatMayNotBe() map[string]free.State {
	bad := map[string]free.State{
		"Size -1":                   stateOf(-1, nil),
		"Size 2^16 + 1":             stateOf(65537, nil),
		"Size 2^16 + 1, some free":  stateOf(65537, pairs{{3, 5}}),
		"a Len of 0":                stateOf(100, pairs{{5, 0}}),
		"a Len of 0 at 0":           stateOf(100, pairs{{0, 0}}),
		"a Len of 0 at the end":     stateOf(100, pairs{{100, 0}}),
		"a Len of 0 of no sectors":  stateOf(0, pairs{{0, 0}}),
		"a Len below 0":             stateOf(100, pairs{{5, -1}}),
		"an At below 0":             stateOf(100, pairs{{-1, 3}}),
		"it ends one behind Size":   stateOf(100, pairs{{98, 3}}),
		"it ends behind 2^16":       stateOf(65536, pairs{{65535, 2}}),
		"it begins at Size":         stateOf(100, pairs{{100, 1}}),
		"longer than Size":          stateOf(100, pairs{{0, 101}}),
		"one of no sectors":         stateOf(0, pairs{{0, 1}}),
		"the last ends behind Size": stateOf(100, pairs{{5, 2}, {98, 3}}),
		"out of order":              stateOf(100, pairs{{10, 2}, {5, 2}}),
		"out of order, the last":    stateOf(100, pairs{{0, 2}, {20, 2}, {10, 2}}),
		"out of order and touching": stateOf(100, pairs{{10, 2}, {8, 2}}),
		"one twice":                 stateOf(100, pairs{{10, 2}, {10, 2}}),
		"one begins with the other": stateOf(100, pairs{{10, 2}, {10, 3}}),
		"overlap by one sector":     stateOf(100, pairs{{10, 3}, {12, 3}}),
		"one within another":        stateOf(100, pairs{{10, 9}, {12, 2}}),
		"one within, one behind":    stateOf(100, pairs{{10, 9}, {12, 2}, {16, 1}}),
		"two that touch":            stateOf(100, pairs{{10, 2}, {12, 2}}),
		"the last two touch":        stateOf(100, pairs{{3, 1}, {10, 2}, {12, 2}}),
		"all of it in two":          stateOf(100, pairs{{0, 50}, {50, 50}}),
		"1025 spans":                row(1025, 1, 1),
		"1025 longer spans":         row(1025, 3, 2),
		"1025 that are none":        {Size: 65536, Spans: make([]api.Span, 1025)},
	}
	for _, n := range anySize() {
		if n >= 0 && n <= 65535 {
			continue
		}
		if n != 65536 {
			bad[fmt.Sprint("a Size of ", n)] = stateOf(n, pairs{{1, 1}})
			bad[fmt.Sprint("a Size of ", n, ", none free")] = stateOf(n, nil)
		}
		bad[fmt.Sprint("an At of ", n)] = stateOf(65536, pairs{{n, 1}})
		bad[fmt.Sprint("a Len of ", n)] = stateOf(65536, pairs{{1, n}})
		bad[fmt.Sprint("an At and a Len of ", n)] = stateOf(65536, pairs{{n, n}})
		bad[fmt.Sprint("a first At of ", n)] = stateOf(65536, pairs{{n, 1}, {5, 1}})
		bad[fmt.Sprint("a first Len of ", n)] = stateOf(65536, pairs{{1, n}, {5, 1}})
		bad[fmt.Sprint("a last At of ", n)] = stateOf(65536, pairs{{0, 1}, {n, 1}})
		bad[fmt.Sprint("a last Len of ", n)] = stateOf(65536, pairs{{0, 1}, {5, n}})
	}
	return bad
}

// P6.1.
func TestCheckTakes(t *testing.T) {
	for name, s := range statesThatMayBe() {
		if err := free.Check(s); err != api.OK {
			t.Errorf("P6.1: Check, %s: %d", name, err)
		}
	}
}

// P6.1.
func TestCheckRefuses(t *testing.T) {
	for name, s := range statesThatMayNotBe() {
		if err := free.Check(s); err != api.ErrState {
			t.Errorf("P6.1: Check, %s: %d; want ErrState", name, err)
		}
	}
}

// P6.1, P1: one span of all numbers beside each other, at each Size.
func TestCheckOfAnySize(t *testing.T) {
	for _, size := range anySize() {
		for _, at := range anySize() {
			for _, n := range anySize() {
				want := api.ErrState
				if size >= 0 && size <= 65536 && isIn(span(at, n), size) {
					want = api.OK
				}
				wantCheck(t, stateOf(size, pairs{{at, n}}), want)
			}
		}
	}
}

// P6.1: each two and each three spans beside each other, of few sectors: they
// may be just if they are what the plain way makes of them.
func TestCheckOfTwoAndThree(t *testing.T) {
	const size = 6
	var some []api.Span
	for at := -1; at <= size; at++ {
		for n := range size {
			some = append(some, span(at, n))
		}
	}
	for _, a := range some {
		for _, b := range some {
			wantCheckOf(t, size, a, b)
			for _, c := range some {
				wantCheckOf(t, size, a, b, c)
			}
		}
	}
}

func wantCheckOf(t *testing.T, size int, l ...api.Span) {
	t.Helper()
	s, want := free.State{Size: size, Spans: l}, api.OK
	for _, x := range l {
		if !isIn(x, size) {
			want = api.ErrState
		}
	}
	if want == api.OK && !same(plainOf(s).state(), s) {
		want = api.ErrState
	}
	wantCheck(t, s, want)
}

// P6.1, P6.2, P4: of each call Check's error goes ahead of all others, and
// nothing stands beside it.
func TestCallsRefuseWhatMayNotBe(t *testing.T) {
	none := free.State{}
	for name, s := range statesThatMayNotBe() {
		t.Run(name, func(t *testing.T) {
			wantHighest(t, s, 0, api.ErrState)
			wantRoom(t, s, 0, 0, api.ErrState)
			for _, n := range []int{0, 1, 5, 99, -1, 100, 65536, 65537} {
				wantBest(t, s, n, 9, 0, api.ErrState)
				wantBest(t, s, 1, n, 0, api.ErrState)
				wantAlloc(t, s, n, 9, none, 0, api.ErrState)
				wantAlloc(t, s, 1, n, none, 0, api.ErrState)
				wantTake(t, s, span(n, 1), none, api.ErrState)
				wantTake(t, s, span(1, n), none, api.ErrState)
				wantFree(t, s, span(n, 1), none, api.ErrState)
				wantFree(t, s, span(1, n), none, api.ErrState)
				wantResize(t, s, n, none, api.ErrState)
			}
		})
	}
}
