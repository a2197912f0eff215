package free_test

import (
	"testing"

	"flagstone/api"
	"flagstone/free"
)

// P6.2: none, some and all free; the last one free or not.
func TestHighest(t *testing.T) {
	for _, c := range []struct {
		s    free.State
		want int
	}{
		{stateOf(0, nil), 0},
		{stateOf(1, nil), 1},
		{stateOf(1, pairs{{0, 1}}), 0},
		{stateOf(20, nil), 20},
		{stateOf(20, pairs{{0, 20}}), 0},
		{stateOf(20, pairs{{0, 19}}), 20},
		{stateOf(20, pairs{{1, 19}}), 1},
		{stateOf(20, pairs{{19, 1}}), 19},
		{stateOf(20, pairs{{18, 1}}), 20},
		{stateOf(20, pairs{{0, 5}, {10, 3}}), 20},
		{stateOf(20, pairs{{0, 5}, {10, 10}}), 10},
		{stateOf(20, pairs{{0, 5}, {6, 14}}), 6},
		{stateOf(65536, nil), 65536},
		{stateOf(65536, pairs{{0, 65536}}), 0},
		{stateOf(65536, pairs{{65535, 1}}), 65535},
		{ordinary(), 90},
		{row(1024, 3, 2), 5*1024 + 2},
	} {
		wantHighest(t, c.s, c.want, api.OK)
	}
	for _, s := range statesThatMayBe() {
		wantHighest(t, s, plainOf(s).highest(), api.OK)
	}
}

// P6.2: none, some and all free; the longest first, last, or in between.
func TestRoom(t *testing.T) {
	for _, c := range []struct {
		s            free.State
		all, longest int
	}{
		{stateOf(0, nil), 0, 0},
		{stateOf(20, nil), 0, 0},
		{stateOf(20, pairs{{0, 20}}), 20, 20},
		{stateOf(20, pairs{{0, 5}, {10, 3}}), 8, 5},
		{stateOf(20, pairs{{0, 3}, {10, 5}}), 8, 5},
		{stateOf(20, pairs{{0, 3}, {4, 6}, {12, 5}}), 14, 6},
		{stateOf(20, pairs{{0, 3}, {4, 3}}), 6, 3},
		{stateOf(65536, nil), 0, 0},
		{stateOf(65536, pairs{{0, 65536}}), 65536, 65536},
		{stateOf(65536, pairs{{0, 30000}, {30001, 35535}}), 65535, 35535},
		{ordinary(), 35, 10},
		{row(1024, 3, 2), 3 * 1024, 3},
	} {
		wantRoom(t, c.s, c.all, c.longest, api.OK)
	}
	for name, s := range statesThatMayBe() {
		if name != "all of 2^16 are free" && name != "all but one" { // the plain way is slow there
			all, longest := plainOf(s).room()
			wantRoom(t, s, all, longest, api.OK)
		}
	}
}

// P6.2: to less, the same and more.
func TestResize(t *testing.T) {
	for _, c := range []struct {
		s    free.State
		size int
		want free.State
	}{
		{stateOf(20, pairs{{0, 5}, {10, 10}}), 20, stateOf(20, pairs{{0, 5}, {10, 10}})},
		{stateOf(20, pairs{{0, 5}, {10, 10}}), 19, stateOf(19, pairs{{0, 5}, {10, 9}})},
		{stateOf(20, pairs{{0, 5}, {10, 10}}), 11, stateOf(11, pairs{{0, 5}, {10, 1}})},
		{stateOf(20, pairs{{0, 5}, {10, 10}}), 10, stateOf(10, pairs{{0, 5}})},
		{stateOf(20, pairs{{0, 5}, {10, 10}}), 21, stateOf(21, pairs{{0, 5}, {10, 11}})},
		{stateOf(20, pairs{{0, 5}, {10, 10}}), 65536, stateOf(65536, pairs{{0, 5}, {10, 65526}})},
		{stateOf(20, pairs{{0, 5}, {10, 3}}), 20, stateOf(20, pairs{{0, 5}, {10, 3}})},
		{stateOf(20, pairs{{0, 5}, {10, 3}}), 21, stateOf(21, pairs{{0, 5}, {10, 3}, {20, 1}})},
		{stateOf(20, pairs{{0, 5}, {10, 3}}), 65536, stateOf(65536, pairs{{0, 5}, {10, 3}, {20, 65516}})},
		{stateOf(20, nil), 20, stateOf(20, nil)},
		{stateOf(20, nil), 25, stateOf(25, pairs{{20, 5}})},
		{stateOf(20, pairs{{0, 20}}), 0, stateOf(0, nil)},
		{stateOf(20, pairs{{0, 20}}), 1, stateOf(1, pairs{{0, 1}})},
		{stateOf(20, pairs{{0, 20}}), 20, stateOf(20, pairs{{0, 20}})},
		{stateOf(20, pairs{{0, 20}}), 30, stateOf(30, pairs{{0, 30}})},
		{stateOf(0, nil), 0, stateOf(0, nil)},
		{stateOf(0, nil), 1, stateOf(1, pairs{{0, 1}})},
		{stateOf(0, nil), 65536, stateOf(65536, pairs{{0, 65536}})},
		{stateOf(65536, pairs{{0, 65536}}), 0, stateOf(0, nil)},
		{stateOf(65536, nil), 65536, stateOf(65536, nil)},
	} {
		wantResize(t, c.s, c.size, c.want, api.OK)
	}
}

// P6.2: a sector that is not free lies behind.
func TestResizeBehindABusySector(t *testing.T) {
	for _, c := range []struct {
		s    free.State
		size int
	}{
		{stateOf(20, pairs{{0, 5}, {10, 10}}), 9},
		{stateOf(20, pairs{{0, 5}, {10, 10}}), 5},
		{stateOf(20, pairs{{0, 5}, {10, 10}}), 3},
		{stateOf(20, pairs{{0, 5}, {10, 10}}), 0},
		{stateOf(20, pairs{{0, 19}}), 19},
		{stateOf(20, pairs{{0, 19}}), 5},
		{stateOf(20, pairs{{1, 19}}), 0},
		{stateOf(20, nil), 19},
		{stateOf(20, nil), 0},
		{stateOf(65536, nil), 65535},
	} {
		wantResize(t, c.s, c.size, free.State{}, api.ErrBusy)
	}
}

// P6.2, P1, P4: a size of any size; one that may not be goes ahead of what
// is not free.
func TestResizeOfAnySize(t *testing.T) {
	for _, s := range statesThatMayBe() {
		p := plainOf(s)
		for _, size := range append(anySize(), s.Size-1, s.Size, s.Size+1) {
			if size < 0 || size > 65536 {
				wantResize(t, s, size, free.State{}, api.ErrRange)
			} else if size < p.highest() {
				wantResize(t, s, size, free.State{}, api.ErrBusy)
			} else {
				want, err := orSpace(p.resized(size).state())
				wantResize(t, s, size, want, err)
			}
		}
	}
}

// P6.2: new ones behind a sector that is not free are one more span: of 1024
// there may be no more, but behind one that is free it goes.
func TestResizeWithoutSpace(t *testing.T) {
	full := row(1024, 3, 2)
	wantResize(t, full, full.Size, full, api.OK)
	wantResize(t, full, full.Size+1, free.State{}, api.ErrSpace)
	wantResize(t, full, 65536, free.State{}, api.ErrSpace)
	wantResize(t, full, full.Size-1, free.State{}, api.ErrBusy)
	wantResize(t, full, 65537, free.State{}, api.ErrRange)
	less := row(1023, 3, 2)
	want := free.State{Size: less.Size + 7, Spans: append(row(1023, 3, 2).Spans, span(less.Size, 7))}
	wantResize(t, less, less.Size+7, want, api.OK)
	open := free.State{Size: full.Size - 2, Spans: full.Spans}
	want = free.State{Size: open.Size + 7, Spans: row(1024, 3, 2).Spans}
	want.Spans[1023].Len += 7
	wantResize(t, open, open.Size+7, want, api.OK)
}

// P6.2: larger and smaller again all is as it was, where the last sector is
// not free.
func TestResizeThereAndBack(t *testing.T) {
	s := stateOf(95, pairs{{0, 2}, {5, 6}, {90, 4}})
	larger, err := free.Resize(s, 200)
	if err != api.OK {
		t.Fatal("P6.2: Resize to 200:", err)
	}
	wantResize(t, larger, 95, s, api.OK)
	wantHighest(t, larger, 95, api.OK)
}
