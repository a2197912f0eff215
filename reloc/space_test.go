package reloc_test

import (
	"slices"
	"testing"

	"flagstone/api"
	"flagstone/volume"
)

func okOrSpace(fits bool) api.Errno {
	if fits {
		return api.OK
	}
	return api.ErrSpace
}

// crowded has so many extents, of which the first is sectors 0 to 3 (at 10 to
// 13); 0 to 9 are free, and some behind all.
func crowded(count int) []api.Extent {
	return append(at(0, 10, 4), striped(count-1, 10, 14, 1)...)
}

// P12.1: more extents than a map may have, be it Now's or a snapshot's; they
// are counted when all is moved.
func TestMoveWithTooManyExtents(t *testing.T) {
	for count := 1021; count <= 1024; count++ {
		few, many := at(5, 11, 2), crowded(count)
		for name, s := range map[string]volume.State{
			"Now":             made(1100, many),
			"a snapshot":      made(1100, few, snapped(1, many), snapped(2, few)),
			"the last one":    made(1100, nil, snapped(1, few), snapped(2, few), snapped(7, many)),
			"Now and another": made(1100, many, snapped(1, few), snapped(2, many)),
		} {
			for _, c := range []struct {
				x        api.Span
				to, more int
			}{
				{span(10, 4), 3, 0}, {span(10, 1), 3, 1}, {span(10, 3), 3, 1}, {span(13, 1), 3, 1}, {span(12, 2), 1090, 1},
				{span(11, 1), 3, 2}, {span(11, 2), 3, 2}, {span(11, 2), 0, 2}, {span(12, 4), 3, 1}, {span(13, 3), 3, 1}, {span(14, 4), 3, 0},
			} {
				got := wantMove(t, s, c.x, c.to, okOrSpace(count+c.more <= 1024))
				if name == "Now" && count+c.more <= 1024 && len(got.Now) != count+c.more {
					t.Errorf("P12.1: %d extents; want %d", len(got.Now), count+c.more)
				}
			}
		}
	}
}

// P12.1: a map that is full stays so where a piece comes to its neighbours.
func TestMoveMakesExtentsFewer(t *testing.T) {
	now := append(at(0, 10, 2, 2, 20, 1, 3, 13, 1), striped(1021, 10, 21, 1)...)
	s := made(1100, now)
	got := wantMove(t, s, span(20, 1), 12, api.OK)
	if len(s.Now) != 1024 || len(got.Now) != 1022 {
		t.Errorf("P12.1: %d extents, then %d; want 1024, then 1022", len(s.Now), len(got.Now))
	}
}

// fenced has so many free spans: 0 to 9, 18, 20, and then each second one;
// 10 to 17 are a row that is in use, and 19 stands between two free ones.
func fenced(count int) volume.State {
	return made(22+2*(count-3), striped(count-3, 0, 21, 2), snapped(1, at(0, 10, 8, 20, 19, 1)))
}

// P12.1: more free spans than there may be; they are counted when all is
// moved, so that one that is cut in two and two that become one are none more.
func TestMoveWithTooManySpans(t *testing.T) {
	for count := 1021; count <= 1024; count++ {
		s := fenced(count)
		if len(s.Free.Spans) != count {
			t.Fatal("the test's own state:", len(s.Free.Spans))
		}
		for name, c := range map[string]struct {
			x        api.Span
			to, more int
		}{
			"from within a row into a midst":     {span(12, 2), 3, 2},
			"from within a row to a front":       {span(12, 2), 0, 1},
			"from within a row to an end":        {span(13, 4), 6, 1},
			"from a row's front into a midst":    {span(10, 2), 3, 1},
			"from a row's front to a front":      {span(10, 2), 0, 0},
			"from a row's front to what touches": {span(10, 2), 8, 1},
			"from a row's end into a midst":      {span(17, 1), 3, 1},
			"from within a row to all of a span": {span(12, 1), 18, 0},
			"from a row's end to all of a span":  {span(17, 1), 18, 0},
			"from between two into a midst":      {span(19, 1), 3, 0},
			"from between two to a front":        {span(19, 1), 0, -1},
			"from between two to one of them":    {span(19, 1), 18, -1},
			"from between two to all of another": {span(19, 1), 22, -2},
		} {
			got := wantMove(t, s, c.x, c.to, okOrSpace(count+c.more <= 1024))
			if count+c.more <= 1024 && len(got.Free.Spans) != count+c.more {
				t.Errorf("P12.1: %s: %d free spans; want %d", name, len(got.Free.Spans), count+c.more)
			}
		}
	}
}

// P12.1: 1024 free spans with 1025 used ones between them.
func TestMoveAmongMostSpans(t *testing.T) {
	s := made(2049, striped(1024, 0, 0, 2), snapped(1, at(0, 2048, 1)))
	if len(s.Free.Spans) != 1024 {
		t.Fatal("the test's own state:", len(s.Free.Spans))
	}
	wantVictim(t, s, span(2048, 1), 1, true)
	for _, x := range []int{0, 2, 4, 1022, 2046, 2048} {
		wantMove(t, s, span(x, 1), 1023, api.OK)
	}
	wantCompact(t, s)
}

// P12.2: a move's error is Compact's, and nothing beside it.
func TestCompactWithoutSpace(t *testing.T) {
	for count := 1022; count <= 1024; count++ {
		// The last four are in use, as the one ahead is: one free span more.
		row := made(2*count+13, striped(count-1, 0, 10, 2), snapped(1, at(0, 2*count+8, 5)))
		wantVictim(t, row, span(2*count+9, 4), 0, true)
		if len(row.Free.Spans) != count {
			t.Fatal("the test's own state:", len(row.Free.Spans))
		}
		// One extent more: the row of five is cut.
		many := append(striped(count-1, 0, 10, 1), at(4000, 9+count, 5)...)
		for _, s := range []volume.State{row, made(20+count, many), made(20+count, nil, snapped(1, many))} {
			_, did, err := wantCompact(t, s)
			if want := okOrSpace(count < 1024); did != (want == api.OK) || err != want {
				t.Errorf("P12.2: Compact with %d: %t, %d; want %d", count, did, err, want)
			}
		}
	}
}

// P12.2: the first or the second move's error is Defragment's, and nothing
// beside it; no later pair is tried.
func TestDefragmentWithoutSpace(t *testing.T) {
	now := at(0, 10, 2, 2, 20, 1, 8, 30, 1, 9, 40, 1)
	for count := 1020; count <= 1024; count++ {
		for name, c := range map[string]struct {
			kept []api.Extent
			more int
		}{
			"the first whole":       {at(0, 10, 2), 0},
			"the first in a row":    {at(0, 9, 4), 2},
			"the first ahead":       {at(0, 10, 3), 1},
			"the second whole":      {at(0, 20, 1), 0},
			"the second in a row":   {at(0, 19, 3), 2},
			"the second behind":     {at(0, 18, 3), 1},
			"a later pair in a row": {at(0, 29, 3), 0},
		} {
			kept := append(slices.Clone(c.kept), striped(count-1, 10, 50, 1)...)
			got, did, err := wantDefragment(t, made(2000, now, snapped(1, kept)))
			if want := okOrSpace(count+c.more <= 1024); did != (want == api.OK) || err != want {
				t.Errorf("P12.2: %s, %d extents: %t, %d; want %d", name, count, did, err, want)
			} else if did && len(got.Snaps[0].List) != count+c.more {
				t.Errorf("P12.2: %s: %d extents; want %d", name, len(got.Snaps[0].List), count+c.more)
			}
		}
	}
}

// P12.2: the first one is moved first, and a move's error ends it, even where
// the other way round, or when both are moved, no more spans would be free
// than there may be.
func TestDefragmentWithoutSpaceOnTheWay(t *testing.T) {
	for count := 1022; count <= 1024; count++ {
		// 4 and 5 are free, 6 to 9 a row that is in use, and 10 is free.
		for name, c := range map[string]struct {
			now  []api.Extent
			kept []api.Extent
			more int // behind the first move
		}{
			"both within the row":           {at(0, 8, 1, 1, 7, 1), at(10, 6, 1, 20, 9, 1), 1},
			"the first beside a free span":  {at(0, 9, 1, 1, 7, 1), at(10, 6, 1, 20, 8, 1), 0},
			"the second beside a free span": {at(0, 7, 1, 1, 9, 1), at(10, 6, 1, 20, 8, 1), 1},
		} {
			kept := append(at(0, 0, 4), c.kept...)
			s := made(10+2*(count-1), c.now, snapped(1, kept), snapped(2, striped(count-1, 0, 11, 2)))
			if s.Free.Spans[0] != span(4, 2) || s.Free.Spans[1] != span(10, 1) || len(s.Free.Spans) != count {
				t.Fatal("the test's own state:", len(s.Free.Spans), s.Free.Spans[:2])
			}
			got, did, err := wantDefragment(t, s)
			if want := okOrSpace(count+c.more <= 1024); did != (want == api.OK) || err != want {
				t.Errorf("P12.2: %s, %d free spans: %t, %d; want %d", name, count, did, err, want)
			}
			if did && len(got.Free.Spans) != count {
				t.Errorf("P12.2: %s: %d free spans; want %d", name, len(got.Free.Spans), count)
			}
		}
	}
}

// P12.2, P1: a map may have a sector twice, though no op makes such: what the
// first move took along, the second one finds free.
func TestDefragmentOfASectorTwice(t *testing.T) {
	for _, now := range [][]api.Extent{
		at(0, 5, 2, 2, 5, 2), at(0, 5, 2, 2, 6, 2), at(0, 6, 2, 2, 5, 2), at(0, 5, 1, 1, 5, 1), at(0, 5, 3, 3, 6, 1), at(0, 6, 1, 1, 5, 3),
	} {
		s := made(14, now)
		if got, did, err := wantDefragment(t, s); did || err != api.ErrNone {
			t.Errorf("P12.2: Defragment(%s): %s, %t, %d; want ErrNone", told(s), told(got), did, err)
		}
		wantPieces(t, s, 2)
	}
}
