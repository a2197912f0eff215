package extent_test

import (
	"testing"

	"flagstone/api"
)

// wantChange holds a change against the plain way, with ErrSpace where that
// has more than 1024 extents; count is how many it should have.
func wantChange(t *testing.T, p plain, count int, want func(l []api.Extent, err api.Errno)) {
	t.Helper()
	l := p.extents()
	if len(l) != count {
		t.Fatalf("the test's own map has %d extents; want %d", len(l), count)
	}
	want(refusal(l))
}

// P5.1: a hole within an extent makes two of it.
func TestCutWithoutSpace(t *testing.T) {
	for count := 1021; count <= 1024; count++ {
		l := row(count, 3, 2)
		p := plainOf(l)
		for _, c := range []struct{ virt, n, more int }{
			{1, 1, 1}, {501, 1, 1}, {5*(count-1) + 1, 1, 1},
			{0, 1, 0}, {502, 1, 0}, {503, 2, 0}, {0, 0, 0}, {1, 0, 0}, {501, 0, 0}, {65536, 0, 0},
			{501, 5, 0}, {501, 10, -1}, {500, 3, -1}, {500, 8, -2}, {0, 65536, -count},
		} {
			wantChange(t, p.cut(c.virt, c.n), count+c.more, func(want []api.Extent, err api.Errno) {
				t.Helper()
				wantCut(t, l, c.virt, c.n, want, err)
			})
		}
	}
}

// P5.1: one more in a hole or at an extent's end, two more within it; none
// where it becomes one with what is there.
func TestPutWithoutSpace(t *testing.T) {
	for count := 1021; count <= 1024; count++ {
		l := row(count, 3, 2)
		p := plainOf(l)
		end := 5 * count
		for _, c := range []struct {
			x    api.Extent
			more int
		}{
			{api.Extent{Virt: 3, Phys: 60000, Len: 2}, 1},
			{api.Extent{Virt: end, Phys: 60000, Len: 2}, 1},
			{api.Extent{Virt: 65535, Phys: 65535, Len: 1}, 1},
			{api.Extent{Virt: 500, Phys: 60000, Len: 1}, 1},
			{api.Extent{Virt: 502, Phys: 60000, Len: 3}, 1},
			{api.Extent{Virt: 501, Phys: 60000, Len: 1}, 2},
			{api.Extent{Virt: 1, Phys: 60000, Len: 1}, 2},
			{api.Extent{Virt: 501, Phys: 60000, Len: 5}, 1},
			{api.Extent{Virt: 501, Phys: 60000, Len: 10}, 0},
			{api.Extent{Virt: 500, Phys: 60000, Len: 3}, 0},
			{api.Extent{Virt: 500, Phys: 60000, Len: 8}, -1},
			{api.Extent{Virt: 501, Phys: 1801, Len: 1}, 0},
			{api.Extent{Virt: 503, Phys: 1803, Len: 1}, 0},
			{api.Extent{Virt: 499, Phys: 1799, Len: 1}, 0},
			{api.Extent{Virt: 0, Phys: 0, Len: 65536}, 1 - count},
		} {
			wantChange(t, p.put(c.x), count+c.more, func(want []api.Extent, err api.Errno) {
				t.Helper()
				wantPut(t, l, c.x, want, err)
			})
		}
	}
}

// P5.1: what closes a gap makes one of three, though there be 1024.
func TestPutClosesAGapOfAFullMap(t *testing.T) {
	l := mapOf(list{{0, 20000, 4}, {6, 20006, 4}})
	for _, x := range row(1022, 3, 2) {
		x.Virt += 20
		l = append(l, x)
	}
	wantChange(t, plainOf(l).put(api.Extent{Virt: 4, Phys: 20004, Len: 2}), 1023, func(want []api.Extent, err api.Errno) {
		wantPut(t, l, api.Extent{Virt: 4, Phys: 20004, Len: 2}, want, err)
	})
	wantChange(t, plainOf(l).put(api.Extent{Virt: 4, Phys: 20005, Len: 2}), 1025, func(want []api.Extent, err api.Errno) {
		wantPut(t, l, api.Extent{Virt: 4, Phys: 20005, Len: 2}, want, err)
	})
}

// P5.2: a part that goes elsewhere makes two or three of an extent.
func TestMoveWithoutSpace(t *testing.T) {
	for count := 1021; count <= 1024; count++ {
		l := row(count, 3, 2)
		p := plainOf(l)
		for _, c := range []struct{ at, n, to, more int }{
			{1001, 1, 60000, 2}, {1000, 1, 60000, 1}, {1002, 1, 60000, 1}, {1002, 7, 60000, 2}, {1000, 3, 60000, 0},
			{1001, 1, 1001, 0}, {1000, 30000, 1001, 0}, {1001, 30000, 1002, 1}, {0, 1000, 5, 0}, {0, 1001, 7, 1},
		} {
			x := api.Span{At: c.at, Len: c.n}
			wantChange(t, p.move(x, c.to), count+c.more, func(want []api.Extent, err api.Errno) {
				t.Helper()
				wantMove(t, l, x, c.to, want, err)
			})
		}
	}
}

// P5.2: one span in which many stand cuts all of them.
func TestMoveOfOneForManyWithoutSpace(t *testing.T) {
	for count := 511; count <= 513; count++ {
		wantChange(t, plainOf(oneForAll(count)).move(api.Span{At: 1, Len: 1}, 5), 2*count, func(want []api.Extent, err api.Errno) {
			wantMove(t, oneForAll(count), api.Span{At: 1, Len: 1}, 5, want, err)
		})
	}
	wantMove(t, oneForAll(1024), api.Span{At: 0, Len: 1}, 5, nil, api.ErrSpace)
}

// P5.2: as many are cut as become one with others: 1024 stay, though their
// pieces are more.
func TestMoveCountsBehindTheChange(t *testing.T) {
	l := row(1024, 2, 0)
	for i := range l {
		l[i].Phys = 10 - 5*(i%2)
	}
	wantChange(t, plainOf(l).move(api.Span{At: 11, Len: 1}, 4), 1024, func(want []api.Extent, err api.Errno) {
		wantMove(t, l, api.Span{At: 11, Len: 1}, 4, want, err)
	})
}

// P5.1, P5.2, P4: ErrRange goes ahead of ErrSpace.
func TestRangeGoesAheadOfSpace(t *testing.T) {
	l := row(1024, 3, 2)
	wantCut(t, l, 1, 65536, nil, api.ErrRange)
	wantCut(t, l, 1, -1, nil, api.ErrRange)
	wantPut(t, l, api.Extent{Virt: 1, Phys: 65536, Len: 1}, nil, api.ErrRange)
	wantPut(t, l, api.Extent{Virt: 65535, Phys: 0, Len: 2}, nil, api.ErrRange)
	wantMove(t, l, api.Span{At: 1001, Len: 1}, 65536, nil, api.ErrRange)
	wantMove(t, l, api.Span{At: 1001, Len: 64536}, 0, nil, api.ErrRange)
}
