package reloc_test

import (
	"slices"
	"testing"

	"flagstone/api"
	"flagstone/volume"
)

// P12.1: what a move does, told in full: Now and two snapshots refer to the
// span, wholly, in part and twice; it goes to the midst of a free span.
func TestMoveInFull(t *testing.T) {
	s := made(16, at(0, 4, 3, 5, 6, 2, 9, 5, 1),
		volume.Snap{ID: 1, Name: "a", Size: 30, List: at(1, 3, 2, 20, 5, 3)},
		volume.Snap{ID: 3, Name: "b", Size: 3, List: at(0, 7, 1, 2, 3, 1)},
	)
	want := s
	want.Now = at(0, 4, 1, 1, 11, 2, 5, 12, 1, 6, 7, 1, 9, 11, 1)
	want.Snaps = []volume.Snap{
		{ID: 1, Name: "a", Size: 30, List: at(1, 3, 2, 20, 11, 2, 22, 7, 1)},
		{ID: 3, Name: "b", Size: 3, List: at(0, 7, 1, 2, 3, 1)},
	}
	if !slices.Equal(s.Free.Spans, spans(0, 3, 8, 8)) {
		t.Fatal("the test's own state:", s.Free.Spans)
	}
	want.Free.Spans = spans(0, 3, 5, 2, 8, 3, 13, 3)
	want.Data = slices.Clone(s.Data)
	want.Data[11], want.Data[12] = sector(5), sector(6)
	if got := wantMove(t, s, span(5, 2), 11, api.OK); !same(got, want) {
		t.Errorf("P12.1: Move: %s; want %s", told(got), told(want))
	}
}

// P12.1: pieces that become neighbours become one extent, as free spans do.
func TestMoveToNeighbours(t *testing.T) {
	s := made(12, at(0, 0, 2, 2, 6, 2, 4, 4, 2), snapped(1, at(0, 6, 1)))
	if !slices.Equal(s.Free.Spans, spans(2, 2, 8, 4)) {
		t.Fatal("the test's own state:", s.Free.Spans)
	}
	got := wantMove(t, s, span(6, 2), 2, api.OK)
	if !slices.Equal(got.Now, at(0, 0, 6)) || !slices.Equal(got.Snaps[0].List, at(0, 2, 1)) || !slices.Equal(got.Free.Spans, spans(6, 6)) {
		t.Errorf("P12.1: Move: %s", told(got))
	}
	// All of a free span, from between two: no span, then one.
	got = wantMove(t, made(9, at(0, 0, 2, 4, 4, 2)), span(4, 2), 2, api.OK)
	if !slices.Equal(got.Free.Spans, spans(4, 5)) {
		t.Errorf("P12.1: Move: free are %v", got.Free.Spans)
	}
}

// P12.1: spans of any few sectors, from anywhere to anywhere, on data of which
// the first half is in use, and on such of which the second is.
func TestMoveAtTheEdges(t *testing.T) {
	for _, half := range []int{0, 8} {
		s := made(16, at(3, half, 8), snapped(2, at(0, half+2, 6)))
		for n := -2; n <= 7; n++ {
			for from := -6; from <= 18; from++ {
				for to := -6; to <= 18; to++ {
					want := api.OK
					switch {
					case n < 1 || n > 4 || from < 0 || from+n > 16 || to < 0 || to+n > 16:
						want = api.ErrRange
					case from < half || from+n > half+8:
						want = api.ErrNone
					case to < half+8 && to+n > half:
						want = api.ErrBusy
					}
					wantMove(t, s, span(from, n), to, want)
				}
			}
		}
	}
}

// P12.1: the first error that the chapter names, where there are several.
func TestMoveErrorsInOrder(t *testing.T) {
	s := made(12, at(0, 2, 4), snapped(1, at(0, 8, 2)))
	if !slices.Equal(s.Free.Spans, spans(0, 2, 6, 2, 10, 2)) {
		t.Fatal("the test's own state:", s.Free.Spans)
	}
	for name, c := range map[string]struct {
		x    api.Span
		to   int
		want api.Errno
	}{
		"none":                                 {span(2, 0), 0, api.ErrRange},
		"none, all else wrong":                 {span(0, 0), 2, api.ErrRange},
		"five that are in use":                 {span(2, 5), 6, api.ErrRange},
		"below none":                           {span(2, -1), 0, api.ErrRange},
		"ahead, and busy":                      {span(-1, 2), 2, api.ErrRange},
		"behind, and busy":                     {span(11, 2), 2, api.ErrRange},
		"just behind":                          {span(12, 1), 0, api.ErrRange},
		"free, to ahead":                       {span(0, 1), -1, api.ErrRange},
		"free, to behind":                      {span(0, 2), 11, api.ErrRange},
		"free, to just behind":                 {span(0, 1), 12, api.ErrRange},
		"the first free, to where it is busy":  {span(1, 2), 4, api.ErrNone},
		"the last free, to where it is busy":   {span(5, 2), 2, api.ErrNone},
		"one between free":                     {span(5, 4), 0, api.ErrNone},
		"all free, to itself":                  {span(6, 2), 6, api.ErrNone},
		"all free, to free":                    {span(6, 2), 0, api.ErrNone},
		"to itself":                            {span(3, 2), 3, api.ErrBusy},
		"to where the last is the span's":      {span(2, 2), 1, api.ErrBusy},
		"to where the first is the span's":     {span(5, 1), 5, api.ErrBusy},
		"to where it ends, as the span does":   {span(4, 2), 5, api.ErrBusy},
		"to others that are in use":            {span(2, 2), 8, api.ErrBusy},
		"to others, the first of which is one": {span(2, 2), 9, api.ErrBusy},
		"to others, the last of which is one":  {span(2, 2), 7, api.ErrBusy},
		"to two that are apart":                {span(2, 4), 6, api.ErrBusy},
		"of Now":                               {span(2, 2), 6, api.OK},
		"of a snapshot":                        {span(8, 2), 6, api.OK},
	} {
		t.Run(name, func(t *testing.T) { wantMove(t, s, c.x, c.to, c.want) })
	}
	// Of two owners' sectors, which lie side by side.
	wantMove(t, made(9, at(0, 2, 2), snapped(1, at(0, 4, 2))), span(3, 2), 0, api.OK)
}

// P1, P12.1: numbers of any size.
func TestMoveOfAnySize(t *testing.T) {
	s := made(9, at(0, 3, 4))
	none := made(0, nil)
	for _, n := range anySize() {
		for _, from := range anySize() {
			for _, to := range anySize() {
				_, want := plainMove(s, span(from, n), to)
				wantMove(t, s, span(from, n), to, want)
				wantMove(t, none, span(from, n), to, api.ErrRange)
			}
		}
	}
}

// smallDisks has all disks of so many sectors, each a hole or at one of room.
func smallDisks(size, room int) [][]int {
	out := [][]int{nil}
	for range size {
		var more [][]int
		for _, d := range out {
			for phys := -1; phys < room; phys++ {
				more = append(more, append(slices.Clone(d), phys))
			}
		}
		out = more
	}
	return out
}

// P12.1, P12.3: all moves of all small disks, with a snapshot beside.
func TestSmallMoves(t *testing.T) {
	moved := 0
	for i, d := range smallDisks(3, 6) {
		s := made(6, extents(d), snapped(1, [][]api.Extent{nil, at(0, 1, 1), at(0, 4, 1, 1, 2, 1), at(1, 3, 2)}[i%4]))
		for n := range 6 {
			for from := -1; from <= 6; from++ {
				for to := -1; to <= 6; to++ {
					_, want := plainMove(s, span(from, n), to)
					wantMove(t, s, span(from, n), to, want)
					if want == api.OK {
						moved++
					}
				}
			}
		}
		if t.Failed() {
			return
		}
	}
	if moved < 1000 {
		t.Errorf("the test's own states: only %d moves", moved)
	}
}

// P12.1, P12.5: all that is in use goes elsewhere, and back: all is as it was,
// but for the octets of what is free.
func TestMoveThereAndBack(t *testing.T) {
	s := ordinary()
	for _, c := range []struct {
		x  api.Span
		to int
	}{{span(10, 2), 12}, {span(15, 1), 7}, {span(2, 1), 9}, {span(3, 3), 12}, {span(8, 1), 1}, {span(0, 1), 14}} {
		there := wantMove(t, s, c.x, c.to, api.OK)
		back := wantMove(t, there, span(c.to, c.x.Len), c.x.At, api.OK)
		for i := range c.x.Len {
			back.Data[c.to+i] = s.Data[c.to+i]
		}
		if !same(back, s) {
			t.Errorf("P12.1: there and back: %s; want %s", told(back), told(s))
		}
	}
}

// P12.1: the ends of the greatest volume.
func TestMoveInTheGreatest(t *testing.T) {
	s := made(65536, at(0, 4, 65528), snapped(1, at(0, 65530, 2)))
	s = wantMove(t, s, span(65528, 4), 65532, api.OK)
	s = wantMove(t, s, span(65532, 4), 0, api.OK)
	wantMove(t, s, span(0, 4), 65533, api.ErrRange)
	wantMove(t, s, span(65533, 4), 0, api.ErrRange)
	wantMove(t, s, span(65532, 4), 0, api.ErrNone)
	wantMove(t, s, span(4, 4), 0, api.ErrBusy)
	if !slices.Equal(s.Now, at(0, 4, 65524, 65524, 0, 4)) || !slices.Equal(s.Free.Spans, spans(65528, 8)) {
		t.Errorf("P12.1: %s", told(s))
	}
}
