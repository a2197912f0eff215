package free_test

import (
	"slices"
	"testing"

	"flagstone/api"
	"flagstone/free"
)

// P6.1: -1, 0, 2^16 and one more, and numbers of any size.
func TestNew(t *testing.T) {
	wantNew(t, -1, free.State{}, api.ErrRange)
	wantNew(t, 0, stateOf(0, nil), api.OK)
	wantNew(t, 1, stateOf(1, pairs{{0, 1}}), api.OK)
	wantNew(t, 20, stateOf(20, pairs{{0, 20}}), api.OK)
	wantNew(t, 65536, stateOf(65536, pairs{{0, 65536}}), api.OK)
	wantNew(t, 65537, free.State{}, api.ErrRange)
	for _, size := range anySize() {
		if size < 0 || size > 65536 {
			wantNew(t, size, free.State{}, api.ErrRange)
		} else {
			wantNew(t, size, plain{}.resized(size).state(), api.OK)
		}
	}
}

// P6.2: none, apart, touching, overlapping, one within another, one twice.
func TestWithout(t *testing.T) {
	for _, c := range []struct {
		size int
		used pairs
		want pairs
	}{
		{0, nil, nil},
		{1, nil, pairs{{0, 1}}},
		{20, nil, pairs{{0, 20}}},
		{65536, nil, pairs{{0, 65536}}},
		{20, pairs{{0, 20}}, nil},
		{20, pairs{{0, 1}}, pairs{{1, 19}}},
		{20, pairs{{19, 1}}, pairs{{0, 19}}},
		{20, pairs{{5, 3}}, pairs{{0, 5}, {8, 12}}},
		{20, pairs{{5, 3}, {10, 2}}, pairs{{0, 5}, {8, 2}, {12, 8}}},
		{20, pairs{{5, 3}, {8, 2}}, pairs{{0, 5}, {10, 10}}},
		{20, pairs{{5, 3}, {9, 2}}, pairs{{0, 5}, {8, 1}, {11, 9}}},
		{20, pairs{{5, 5}, {8, 4}}, pairs{{0, 5}, {12, 8}}},
		{20, pairs{{5, 9}, {8, 2}}, pairs{{0, 5}, {14, 6}}},
		{20, pairs{{5, 9}, {5, 2}}, pairs{{0, 5}, {14, 6}}},
		{20, pairs{{5, 2}, {5, 2}}, pairs{{0, 5}, {7, 13}}},
		{20, pairs{{2, 15}, {3, 1}, {5, 1}, {18, 1}}, pairs{{0, 2}, {17, 1}, {19, 1}}},
		{20, pairs{{0, 10}, {10, 10}}, nil},
		{20, pairs{{0, 12}, {8, 12}}, nil},
		{65536, pairs{{0, 65536}}, nil},
		{65536, pairs{{65535, 1}, {0, 1}}, pairs{{1, 65534}}},
	} {
		wantWithout(t, c.size, spansOf(c.used), stateOf(c.size, c.want), api.OK)
		// In any order it is the same.
		turned := spansOf(c.used)
		slices.Reverse(turned)
		wantWithout(t, c.size, turned, stateOf(c.size, c.want), api.OK)
	}
	wantWithout(t, 20, []api.Span{}, stateOf(20, pairs{{0, 20}}), api.OK)
}

// P6.2: in any order.
func TestWithoutInAnyOrder(t *testing.T) {
	used := spansOf(pairs{{12, 2}, {3, 4}, {6, 3}, {18, 1}})
	want := stateOf(20, pairs{{0, 3}, {9, 3}, {14, 4}, {19, 1}})
	var all func(done, left []api.Span)
	all = func(done, left []api.Span) {
		if len(left) == 0 {
			wantWithout(t, 20, done, want, api.OK)
		}
		for i := range left {
			all(append(slices.Clone(done), left[i]), slices.Delete(slices.Clone(left), i, i+1))
		}
	}
	all(nil, used)
}

// P6.2, P1: empty spans, and such as go beyond size, wherever they stand.
func TestWithoutOfAnySize(t *testing.T) {
	for _, size := range []int{0, 1, 9, 65536} {
		numbers := append(anySize(), size-1, size, size+1)
		for _, at := range numbers {
			for _, n := range numbers {
				x := span(at, n)
				if isIn(x, size) {
					wantWithout(t, size, []api.Span{x}, plain{}.resized(size).with([]api.Span{x}, false).state(), api.OK)
					continue
				}
				wantWithout(t, size, []api.Span{x}, free.State{}, api.ErrRange)
				if size > 0 {
					wantWithout(t, size, []api.Span{x, span(0, 1)}, free.State{}, api.ErrRange)
					wantWithout(t, size, []api.Span{span(0, 1), x}, free.State{}, api.ErrRange)
					wantWithout(t, size, []api.Span{span(0, size), x}, free.State{}, api.ErrRange)
				}
			}
		}
	}
}

// P6.2, P4: a size that may not be goes ahead of all; too many spans go ahead
// of wrong ones.
func TestWithoutInOrderOfErrors(t *testing.T) {
	many := make([]api.Span, 1025)
	for i := range many {
		many[i] = span(i, 1)
	}
	bad := slices.Clone(many)
	bad[0], bad[1024] = span(-1, 0), span(65536, 1)
	for _, size := range anySize() {
		if size < 0 || size > 65536 {
			wantWithout(t, size, nil, free.State{}, api.ErrRange)
			wantWithout(t, size, spansOf(pairs{{0, 1}}), free.State{}, api.ErrRange)
			wantWithout(t, size, many, free.State{}, api.ErrRange)
			wantWithout(t, size, bad, free.State{}, api.ErrRange)
		} else {
			wantWithout(t, size, many, free.State{}, api.ErrCount)
			wantWithout(t, size, bad, free.State{}, api.ErrCount)
			wantWithout(t, size, make([]api.Span, 1025), free.State{}, api.ErrCount)
		}
	}
	wantWithout(t, 65536, many[:1024], stateOf(65536, pairs{{1024, 64512}}), api.OK)
	wantWithout(t, 65536, bad[:1024], free.State{}, api.ErrRange)
	wantWithout(t, 65536, bad[1:], free.State{}, api.ErrRange)
	wantWithout(t, 1023, many[:1024], free.State{}, api.ErrRange)
	wantWithout(t, 1024, many[:1024], stateOf(1024, nil), api.OK)
}

// P6.2: 1024 spans apart leave 1025 between and around them, which are too
// many; not, if the first or the last sector is used, or two of them touch.
func TestWithoutTooManyFree(t *testing.T) {
	used := row(1024, 1, 1).Spans // 1, 3, .. 2047
	wantWithout(t, 2049, used, free.State{}, api.ErrSpace)
	wantWithout(t, 65536, used, free.State{}, api.ErrSpace)
	turned := slices.Clone(used)
	slices.Reverse(turned)
	wantWithout(t, 2049, turned, free.State{}, api.ErrSpace)
	free1024 := func(size int, used []api.Span) {
		t.Helper()
		want := plain{}.resized(size).with(used, false).state()
		if len(want.Spans) != 1024 {
			t.Fatalf("the test's own state has %d spans", len(want.Spans))
		}
		wantWithout(t, size, used, want, api.OK)
	}
	free1024(2048, used)
	free1024(65536, used[1:])
	fromFirst := slices.Clone(used)
	fromFirst[0] = span(0, 2)
	free1024(2049, fromFirst)
	touching := slices.Clone(used)
	touching[500].Len = 2
	free1024(65536, touching)
	twice := slices.Clone(used)
	twice[500] = twice[700]
	free1024(65536, twice)
	// A wrong span goes ahead, though there are too many around it.
	used[1023].Len = 0
	wantWithout(t, 65536, used, free.State{}, api.ErrRange)
}

// P6.2: what is not free, told as used, makes the state again.
func TestWithoutThereAndBack(t *testing.T) {
	for _, s := range statesThatMayBe() {
		p := plainOf(s)
		for at := range p {
			p[at] = !p[at]
		}
		if used := p.state().Spans; len(used) <= 1024 {
			wantWithout(t, s.Size, used, s, api.OK)
		} else {
			wantWithout(t, s.Size, used, free.State{}, api.ErrCount)
		}
	}
}
