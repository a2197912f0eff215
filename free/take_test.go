package free_test

import (
	"testing"

	"flagstone/api"
	"flagstone/free"
)

// P6.1: a whole span, its front, its end and its middle.
func TestTake(t *testing.T) {
	s := stateOf(30, pairs{{0, 2}, {5, 6}, {20, 10}})
	for _, c := range []struct {
		x    api.Span
		want pairs
	}{
		{span(5, 6), pairs{{0, 2}, {20, 10}}},
		{span(0, 2), pairs{{5, 6}, {20, 10}}},
		{span(20, 10), pairs{{0, 2}, {5, 6}}},
		{span(5, 1), pairs{{0, 2}, {6, 5}, {20, 10}}},
		{span(5, 5), pairs{{0, 2}, {10, 1}, {20, 10}}},
		{span(10, 1), pairs{{0, 2}, {5, 5}, {20, 10}}},
		{span(6, 5), pairs{{0, 2}, {5, 1}, {20, 10}}},
		{span(6, 1), pairs{{0, 2}, {5, 1}, {7, 4}, {20, 10}}},
		{span(6, 4), pairs{{0, 2}, {5, 1}, {10, 1}, {20, 10}}},
		{span(0, 1), pairs{{1, 1}, {5, 6}, {20, 10}}},
		{span(1, 1), pairs{{0, 1}, {5, 6}, {20, 10}}},
		{span(29, 1), pairs{{0, 2}, {5, 6}, {20, 9}}},
		{span(20, 1), pairs{{0, 2}, {5, 6}, {21, 9}}},
		{span(25, 3), pairs{{0, 2}, {5, 6}, {20, 5}, {28, 2}}},
	} {
		wantTake(t, s, c.x, stateOf(30, c.want), api.OK)
		// P6.3: freed again all is as it was.
		wantFree(t, stateOf(30, c.want), c.x, s, api.OK)
	}
}

// P6.1: what is partly or not at all free.
func TestTakeOfWhatIsBusy(t *testing.T) {
	s := stateOf(30, pairs{{0, 2}, {5, 6}, {12, 3}, {20, 10}})
	for _, x := range spansOf(pairs{
		{2, 1}, {2, 3}, {4, 1}, {11, 1}, {15, 5}, {17, 1},
		{0, 3}, {1, 2}, {4, 2}, {4, 7}, {5, 7}, {10, 2}, {4, 8}, {11, 3}, {14, 2}, {19, 11}, {19, 2},
		{5, 10}, {10, 3}, {5, 25}, {1, 5}, {0, 11}, {0, 30},
	}) {
		wantTake(t, s, x, free.State{}, api.ErrBusy)
	}
	for _, x := range spansOf(pairs{{0, 1}, {29, 1}, {0, 30}, {12, 5}}) {
		wantTake(t, stateOf(30, nil), x, free.State{}, api.ErrBusy)
	}
}

// P6.1: all free, and the ends of the greatest state.
func TestTakeAtTheEdges(t *testing.T) {
	all := stateOf(65536, pairs{{0, 65536}})
	wantTake(t, all, span(0, 65536), stateOf(65536, nil), api.OK)
	wantTake(t, all, span(0, 1), stateOf(65536, pairs{{1, 65535}}), api.OK)
	wantTake(t, all, span(65535, 1), stateOf(65536, pairs{{0, 65535}}), api.OK)
	wantTake(t, all, span(1, 65534), stateOf(65536, pairs{{0, 1}, {65535, 1}}), api.OK)
	wantTake(t, stateOf(1, pairs{{0, 1}}), span(0, 1), stateOf(1, nil), api.OK)
}

// P6.1, P1: spans of any size, empty ones, and such as go beyond Size.
func TestTakeAndFreeOfAnySize(t *testing.T) {
	states := []free.State{stateOf(0, nil), stateOf(9, nil), stateOf(9, pairs{{0, 9}}), ordinary(), stateOf(65536, nil), stateOf(65536, pairs{{0, 65536}}), row(1024, 3, 2)}
	for _, s := range states {
		numbers := append(anySize(), s.Size-1, s.Size, s.Size+1)
		for _, at := range numbers {
			for _, n := range numbers {
				x := span(at, n)
				if !isIn(x, s.Size) {
					wantTake(t, s, x, free.State{}, api.ErrRange)
					wantFree(t, s, x, free.State{}, api.ErrRange)
				} else {
					takeAndFree(t, s, x)
				}
			}
		}
	}
}

// takeAndFree holds both calls against the plain way; x is within s.
func takeAndFree(t *testing.T, s free.State, x api.Span) {
	t.Helper()
	p := plainOf(s)
	want, wantErr := free.State{}, api.ErrBusy
	if p.count(x) == x.Len {
		want, wantErr = orSpace(p.with([]api.Span{x}, false).state())
	}
	wantTake(t, s, x, want, wantErr)
	want, wantErr = free.State{}, api.ErrTwice
	if p.count(x) == 0 {
		want, wantErr = orSpace(p.with([]api.Span{x}, true).state())
	}
	wantFree(t, s, x, want, wantErr)
}

// P6.1: the middle of a span makes two of it: of 1024 there may be no more,
// for what follows would be a state that may not be.
func TestTakeWithoutSpace(t *testing.T) {
	for count := 1022; count <= 1024; count++ {
		s := row(count, 3, 2)
		for _, first := range []int{2, 502, 2 + 5*(count-1)} {
			for _, x := range []api.Span{span(first, 1), span(first+1, 1), span(first+2, 1), span(first, 2), span(first+1, 2), span(first, 3)} {
				takeAndFree(t, s, x)
			}
		}
	}
	s := row(1024, 3, 2)
	wantTake(t, s, span(3, 1), free.State{}, api.ErrSpace)
	wantTake(t, s, span(503, 1), free.State{}, api.ErrSpace)
	// Range and what is not free go ahead.
	wantTake(t, s, span(1, 1), free.State{}, api.ErrBusy)
	wantTake(t, s, span(3, 3), free.State{}, api.ErrBusy)
	wantTake(t, s, span(3, 0), free.State{}, api.ErrRange)
}

// P6.1: beside a free span on either side, on both, or on none.
func TestFree(t *testing.T) {
	s := stateOf(30, pairs{{3, 2}, {10, 3}, {20, 4}})
	for _, c := range []struct {
		x    api.Span
		want pairs
	}{
		{span(0, 1), pairs{{0, 1}, {3, 2}, {10, 3}, {20, 4}}},
		{span(0, 3), pairs{{0, 5}, {10, 3}, {20, 4}}},
		{span(2, 1), pairs{{2, 3}, {10, 3}, {20, 4}}},
		{span(5, 1), pairs{{3, 3}, {10, 3}, {20, 4}}},
		{span(5, 4), pairs{{3, 6}, {10, 3}, {20, 4}}},
		{span(5, 5), pairs{{3, 10}, {20, 4}}},
		{span(6, 4), pairs{{3, 2}, {6, 7}, {20, 4}}},
		{span(6, 3), pairs{{3, 2}, {6, 3}, {10, 3}, {20, 4}}},
		{span(9, 1), pairs{{3, 2}, {9, 4}, {20, 4}}},
		{span(13, 7), pairs{{3, 2}, {10, 14}}},
		{span(14, 5), pairs{{3, 2}, {10, 3}, {14, 5}, {20, 4}}},
		{span(24, 6), pairs{{3, 2}, {10, 3}, {20, 10}}},
		{span(24, 5), pairs{{3, 2}, {10, 3}, {20, 9}}},
		{span(25, 5), pairs{{3, 2}, {10, 3}, {20, 4}, {25, 5}}},
		{span(29, 1), pairs{{3, 2}, {10, 3}, {20, 4}, {29, 1}}},
	} {
		wantFree(t, s, c.x, stateOf(30, c.want), api.OK)
		// P6.3: taken again all is as it was.
		wantTake(t, stateOf(30, c.want), c.x, s, api.OK)
	}
}

// P6.1: what is partly or wholly free already.
func TestFreeTwice(t *testing.T) {
	s := stateOf(30, pairs{{3, 2}, {10, 3}, {20, 4}})
	for _, x := range spansOf(pairs{
		{3, 2}, {3, 1}, {4, 1}, {10, 3}, {11, 1}, {20, 4}, {23, 1},
		{2, 2}, {0, 4}, {4, 2}, {4, 6}, {5, 6}, {9, 2}, {9, 5}, {12, 2}, {13, 8}, {23, 2}, {23, 7}, {19, 6},
		{3, 10}, {5, 20}, {0, 30},
	}) {
		wantFree(t, s, x, free.State{}, api.ErrTwice)
	}
	for _, x := range spansOf(pairs{{0, 30}, {0, 1}, {29, 1}, {14, 3}}) {
		wantFree(t, stateOf(30, pairs{{0, 30}}), x, free.State{}, api.ErrTwice)
	}
}

// P6.1: nothing free, and the ends of the greatest state.
func TestFreeAtTheEdges(t *testing.T) {
	none := stateOf(65536, nil)
	for _, x := range spansOf(pairs{{0, 65536}, {0, 1}, {65535, 1}, {77, 9}}) {
		wantFree(t, none, x, free.State{Size: 65536, Spans: []api.Span{x}}, api.OK)
	}
	wantFree(t, stateOf(65536, pairs{{0, 7}, {8, 65528}}), span(7, 1), stateOf(65536, pairs{{0, 65536}}), api.OK)
	wantFree(t, stateOf(1, nil), span(0, 1), stateOf(1, pairs{{0, 1}}), api.OK)
}

// P6.1: apart from all others makes one more: of 1024 there may be no more,
// but beside one or between two it goes.
func TestFreeWithoutSpace(t *testing.T) {
	for count := 1022; count <= 1024; count++ {
		s := row(count, 3, 3)
		for _, gap := range []int{0, 6, 600, 6 * count} {
			for _, x := range []api.Span{span(gap, 1), span(gap+1, 1), span(gap+2, 1), span(gap, 2), span(gap+1, 2), span(gap, 3)} {
				takeAndFree(t, s, x)
			}
		}
	}
	s := row(1024, 3, 3)
	wantFree(t, s, span(0, 1), free.State{}, api.ErrSpace)
	wantFree(t, s, span(601, 1), free.State{}, api.ErrSpace)
	wantFree(t, s, span(6*1024+2, 1), free.State{}, api.ErrSpace)
	// Range and what is free go ahead.
	wantFree(t, s, span(601, 3), free.State{}, api.ErrTwice)
	wantFree(t, s, span(601, 0), free.State{}, api.ErrRange)
	wantFree(t, s, span(s.Size, 1), free.State{}, api.ErrRange)
}
