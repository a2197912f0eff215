package free_test

import (
	"testing"

	"flagstone/api"
	"flagstone/free"
)

// P6.1: the chapter's example.
func TestAllocOfTheExample(t *testing.T) {
	s := stateOf(20, pairs{{0, 5}, {10, 3}})
	wantBest(t, s, 2, 20, 10, api.OK)
	wantAlloc(t, s, 2, 20, stateOf(20, pairs{{0, 5}, {12, 1}}), 10, api.OK)
}

// P6.1: the shortest that has so many, and of like ones the lowest.
func TestBest(t *testing.T) {
	s := ordinary() // 0: 2, 5: 6, 20: 3, 24: 1, 30: 10, 50: 3, 90: 10
	for _, c := range []struct{ n, line, want int }{
		{1, 100, 24}, {2, 100, 0}, {3, 100, 20}, {4, 100, 5}, {6, 100, 5}, {7, 100, 30}, {10, 100, 30},
		// Line below the better one, at its beginning, within it and at its end.
		{1, 24, 0}, {1, 25, 24}, {3, 22, 5}, {3, 23, 20}, {7, 38, 30}, {10, 40, 30},
		// Line cuts a span shorter, so that it fits better than it would.
		{1, 31, 24}, {2, 32, 0}, {3, 33, 20}, {4, 34, 30}, {5, 35, 30}, {5, 36, 5}, {4, 95, 90}, {6, 96, 5}, {7, 97, 90}, {7, 99, 90},
		{1, 6, 5}, {1, 7, 0}, {1, 1, 0}, {2, 7, 0}, {3, 8, 5},
		// Cut to as many as another one has: the lowest counts.
		{1, 91, 24}, {3, 93, 20}, {6, 11, 5}, {6, 36, 5}, {2, 52, 0},
	} {
		wantBest(t, s, c.n, c.line, c.want, api.OK)
		want := plainOf(s).with([]api.Span{span(c.want, c.n)}, false).state()
		wantAlloc(t, s, c.n, c.line, want, c.want, api.OK)
	}
}

// P6.1: where a lower span is cut to what a higher one has, and the other
// way round.
func TestBestOfSpansMadeLike(t *testing.T) {
	s := stateOf(30, pairs{{2, 5}, {10, 3}, {20, 9}})
	wantBest(t, s, 3, 23, 10, api.OK)
	wantBest(t, s, 5, 25, 2, api.OK)
	wantBest(t, s, 4, 24, 20, api.OK)
	wantBest(t, s, 3, 22, 10, api.OK)
	wantBest(t, s, 1, 21, 20, api.OK)
	wantBest(t, s, 1, 20, 10, api.OK)
}

// P6.1: what lies behind line stays free, though its span is taken from.
func TestAllocLeavesWhatIsBehindLine(t *testing.T) {
	s := stateOf(100, pairs{{10, 20}})
	wantAlloc(t, s, 5, 15, stateOf(100, pairs{{15, 15}}), 10, api.OK)
	wantAlloc(t, s, 3, 15, stateOf(100, pairs{{13, 17}}), 10, api.OK)
	wantAlloc(t, s, 6, 15, free.State{}, 0, api.ErrSpace)
	wantAlloc(t, s, 20, 30, stateOf(100, nil), 10, api.OK)
}

// P6.1: a line within no span, behind Size, and as great as can be.
func TestBestBeyondSize(t *testing.T) {
	s := ordinary()
	for _, line := range anySize() {
		if line >= 100 {
			wantBest(t, s, 10, line, 30, api.OK)
			wantBest(t, s, 1, line, 24, api.OK)
			wantBest(t, s, 11, line, 0, api.ErrSpace)
			wantAlloc(t, s, 1, line, stateOf(100, pairs{{0, 2}, {5, 6}, {20, 3}, {30, 10}, {50, 3}, {90, 10}}), 24, api.OK)
		}
	}
	wantBest(t, s, 3, 19, 5, api.OK)
	wantBest(t, s, 3, 20, 5, api.OK)
}

// P6.1: more than there is, or none below line.
func TestBestWithoutSpace(t *testing.T) {
	for _, c := range []struct {
		s       free.State
		n, line int
	}{
		{ordinary(), 11, 100}, {ordinary(), 3, 2}, {ordinary(), 3, 7}, {ordinary(), 1, 0}, {ordinary(), 7, 36}, {ordinary(), 10, 39},
		{ordinary(), 35, 100}, {ordinary(), 36, 100}, {ordinary(), 100, 100}, {ordinary(), 101, 65536},
		{stateOf(0, nil), 1, 0}, {stateOf(0, nil), 1, 100}, {stateOf(100, nil), 1, 100},
		{stateOf(100, pairs{{0, 100}}), 101, 101}, {stateOf(100, pairs{{0, 100}}), 51, 50}, {stateOf(100, pairs{{50, 50}}), 1, 50},
		{stateOf(65536, pairs{{0, 65536}}), 65537, 65537},
	} {
		wantBest(t, c.s, c.n, c.line, 0, api.ErrSpace)
		wantAlloc(t, c.s, c.n, c.line, free.State{}, 0, api.ErrSpace)
	}
}

// P6.1, P4: a wrong number, whatever stands beside it and whatever is free.
func TestBestOutOfRange(t *testing.T) {
	for _, s := range statesThatMayBe() {
		for _, n := range anySize() {
			for _, line := range anySize() {
				want, wantErr := 0, api.ErrRange
				if n >= 1 && line >= 0 {
					want, wantErr = plainOf(s).best(n, line)
				}
				wantBest(t, s, n, line, want, wantErr)
				if wantErr != api.OK {
					wantAlloc(t, s, n, line, free.State{}, 0, wantErr)
				}
			}
		}
	}
}

// P6.1: all that is free, taken at once or one by one.
func TestAllocOfAll(t *testing.T) {
	s := stateOf(65536, pairs{{0, 65536}})
	wantAlloc(t, s, 65536, 65536, stateOf(65536, nil), 0, api.OK)
	wantAlloc(t, s, 1, 1, stateOf(65536, pairs{{1, 65535}}), 0, api.OK)
	s = ordinary()
	for _, at := range []int{24, 0, 1, 20, 21, 22, 50, 51, 52, 5, 6, 7, 8, 9, 10} {
		next, got, err := free.Alloc(s, 1, 100)
		if got != at || err != api.OK {
			t.Fatalf("P6.1: Alloc(%s, 1, 100): %d, %d; want %d", told(s), got, err, at)
		}
		s = next
	}
	wantRoom(t, s, 20, 10, api.OK)
}

// P6.1: 1024 spans never become more, wherever they are taken from.
func TestAllocOfManySpans(t *testing.T) {
	s := row(1024, 3, 2)
	p := plainOf(s)
	for _, n := range []int{1, 2, 3} {
		wantAlloc(t, s, n, 65536, p.with([]api.Span{span(2, n)}, false).state(), 2, api.OK)
	}
	wantAlloc(t, s, 1, 4, p.with([]api.Span{span(2, 1)}, false).state(), 2, api.OK)
	wantAlloc(t, s, 1, 503, p.with([]api.Span{span(502, 1)}, false).state(), 502, api.OK)
	wantAlloc(t, s, 4, 65536, free.State{}, 0, api.ErrSpace)
}

// P6.3: what was allocated was free and is not, nothing else has changed, and
// freed again all is as it was.
func TestAllocAndFree(t *testing.T) {
	for _, s := range statesThatMayBe() {
		for _, n := range []int{1, 2, 3, 4, 6, 10, 100, 65536} {
			for _, line := range []int{1, 7, 33, 36, 91, 100, 30003, 65536} {
				allocAndFree(t, s, n, line)
			}
		}
	}
}

func allocAndFree(t *testing.T, s free.State, n, line int) {
	t.Helper()
	next, at, err := free.Alloc(s, n, line)
	if err == api.ErrSpace {
		return
	}
	if err != api.OK {
		t.Fatalf("P6.3: Alloc(%s, %d, %d): %d", told(s), n, line, err)
	}
	wantCheck(t, next, api.OK)
	old, now := plainOf(s), plainOf(next)
	x := span(at, n)
	if old.count(x) != n || now.count(x) != 0 || at+n > line {
		t.Fatalf("P6.3: Alloc(%s, %d, %d): %d: of these were free %d, are free %d", told(s), n, line, at, old.count(x), now.count(x))
	}
	for k := range old {
		if (k < at || k >= at+n) && old[k] != now[k] {
			t.Fatalf("P6.3: Alloc(%s, %d, %d): sector %d has changed", told(s), n, line, k)
		}
	}
	wantTake(t, next, x, free.State{}, api.ErrBusy)
	wantFree(t, next, x, s, api.OK)
}

// P6.3: many are allocated, and freed in another order, from whichever end.
func TestAllocManyAndFreeThem(t *testing.T) {
	s := ordinary()
	var got []api.Span
	for n := range 9 {
		next, at, err := free.Alloc(s, 1+n%4, 100)
		if err != api.OK {
			t.Fatalf("P6.3: Alloc(%s, %d, 100): %d", told(s), 1+n%4, err)
		}
		s, got = next, append(got, span(at, 1+n%4))
	}
	for i := range got {
		next, err := free.Free(s, got[i*4%9])
		if err != api.OK {
			t.Fatalf("P6.3: Free(%s, %v): %d", told(s), got[i*4%9], err)
		}
		s = next
	}
	if !same(s, ordinary()) {
		t.Errorf("P6.3: all freed again: %s; want %s", told(s), told(ordinary()))
	}
}
