package volume_test

import (
	"math/rand"
	"slices"
	"testing"

	"flagstone/api"
	"flagstone/free"
	"flagstone/model"
	"flagstone/volume"
)

// with is s with those sectors laid at those places of its data.
func with(s volume.State, place int, b []byte) volume.State {
	s.Data = slices.Clone(s.Data)
	for ; len(b) > 0; place, b = place+1, b[64:] {
		s.Data[place] = b[:64]
	}
	return s
}

// P11.2: the chapter's example: write 2 sectors, snapshot, write one of them:
// three data sectors are used.
func TestExample(t *testing.T) {
	s, err := volume.New(4, 8)
	if err != api.OK {
		t.Fatal("P11.1: New:", err)
	}
	first, second := octets(1, 2), octets(3)
	want := with(s, 0, first)
	want.Now, want.Free.Spans = at(0, 0, 2), spans(2, 6)
	s = wantDo(t, s, model.Op{What: write, Data: first}, want, model.Reply{Size: 4})
	want.Snaps, want.Next = []volume.Snap{{ID: 1, Name: "a", Size: 4, List: at(0, 0, 2)}}, 2
	s = wantDo(t, s, model.Op{What: snapshot, Name: "a"}, want, model.Reply{ID: 1, Size: 4})
	want = with(want, 2, second)
	want.Now, want.Free.Spans = at(0, 2, 1, 1, 1, 1), spans(3, 5)
	s = wantDo(t, s, model.Op{What: write, Data: second}, want, model.Reply{Size: 4})
	if n, _, err := free.Room(s.Free); n != 5 || err != api.OK {
		t.Errorf("P11.2: %d are free, %d; want 5 of 8", n, err)
	}
	wantRead(t, s, 0, 0, 2, octets(3, 2), api.OK)
	wantRead(t, s, 1, 0, 2, first, api.OK)
}

// P11.2: the new sectors are one span if one has them all, the shortest such,
// the lowest of like ones; else the longest is used up first.
func TestWriteTakesBestFit(t *testing.T) {
	// Of 20 sectors 1, 3 to 5, 7 to 8, 10 to 12 and 15 to 19 are free.
	s := made(20, 40, nil, volume.Snap{ID: 1, Name: "a", Size: 20, List: at(0, 0, 1, 2, 2, 1, 6, 6, 1, 9, 9, 1, 13, 13, 2)})
	if !slices.Equal(s.Free.Spans, spans(1, 1, 3, 3, 7, 2, 10, 3, 15, 5)) {
		t.Fatal("the test's own state:", s.Free.Spans)
	}
	for n, c := range map[int]struct {
		now  []api.Extent
		free []api.Span
	}{
		1: {at(30, 1, 1), spans(3, 3, 7, 2, 10, 3, 15, 5)},
		2: {at(30, 7, 2), spans(1, 1, 3, 3, 10, 3, 15, 5)},
		3: {at(30, 3, 3), spans(1, 1, 7, 2, 10, 3, 15, 5)},
		4: {at(30, 15, 4), spans(1, 1, 3, 3, 7, 2, 10, 3, 19, 1)},
		5: {at(30, 15, 5), spans(1, 1, 3, 3, 7, 2, 10, 3)},
		6: {at(30, 15, 5, 35, 1, 1), spans(3, 3, 7, 2, 10, 3)},
		7: {at(30, 15, 5, 35, 7, 2), spans(1, 1, 3, 3, 10, 3)},
		8: {at(30, 15, 5, 35, 3, 3), spans(1, 1, 7, 2, 10, 3)},
		9: {at(30, 15, 5, 35, 3, 3, 38, 1, 1), spans(7, 2, 10, 3)},
	} {
		want := s
		want.Now, want.Free.Spans = c.now, c.free
		b := row(n)
		for i, x := range c.now {
			from := x.Virt - 30
			want = with(want, x.Phys, b[64*from:64*(from+x.Len)])
			if i == len(c.now)-1 && from+x.Len != n {
				t.Fatal("the test's own map:", c.now)
			}
		}
		wantDo(t, s, model.Op{What: write, At: 30, Data: b}, want, model.Reply{Size: 40})
	}
}

// P11.2: new sectors are taken ahead of the old ones' becoming free, so that
// what is written over is not written in place.
func TestWriteOverItself(t *testing.T) {
	s := made(4, 2, at(0, 0, 2))
	want := with(s, 2, octets(8, 9))
	want.Now, want.Free.Spans = at(0, 2, 2), spans(0, 2)
	s = wantDo(t, s, model.Op{What: write, Data: octets(8, 9)}, want, model.Reply{Size: 2})
	want = with(want, 0, octets(7))
	want.Now, want.Free.Spans = at(0, 2, 1, 1, 0, 1), spans(1, 1, 3, 1)
	wantDo(t, s, model.Op{What: write, At: 1, Data: octets(7)}, want, model.Reply{Size: 2})
}

// P11.2: a write of zeros takes sectors as another one does, and shows none.
func TestWriteOfZeros(t *testing.T) {
	s := made(3, 3, nil)
	want := with(s, 0, octets(0, 5))
	want.Now, want.Free.Spans = at(1, 0, 2), spans(2, 1)
	s = wantDo(t, s, model.Op{What: write, At: 1, Data: octets(0, 5)}, want, model.Reply{Size: 3})
	wantModel(t, s, model.State{Now: [][]byte{nil, nil, octets(5)}, Next: 1})
	wantRead(t, s, 0, 0, 3, octets(0, 0, 5), api.OK)
}

// P11.2: what nobody refers to any more is free, and what a snapshot or
// another sector of the disk refers to is not; free sectors keep their octets.
func TestWhatBecomesFree(t *testing.T) {
	s := made(10, 6, at(0, 0, 4, 4, 2, 1), volume.Snap{ID: 3, Name: "a", Size: 4, List: at(0, 1, 1, 1, 4, 3)})
	if !slices.Equal(s.Free.Spans, spans(7, 3)) {
		t.Fatal("the test's own state:", s.Free.Spans)
	}
	for name, c := range map[string]struct {
		x    model.Op
		free []api.Span
	}{
		"a write over one":              {model.Op{What: write, At: 0, Data: octets(1)}, spans(0, 1, 8, 2)},
		"a write over a snapshot's":     {model.Op{What: write, At: 1, Data: octets(1)}, spans(8, 2)},
		"a write over one that is two":  {model.Op{What: write, At: 2, Data: octets(1)}, spans(8, 2)},
		"a write over both of it":       {model.Op{What: write, At: 2, Data: octets(1, 2, 3)}, spans(2, 2)},
		"a write into a hole":           {model.Op{What: write, At: 5, Data: octets(1)}, spans(8, 2)},
		"a discard of one":              {model.Op{What: discard, At: 0, N: 1}, spans(0, 1, 7, 3)},
		"a discard of a snapshot's":     {model.Op{What: discard, At: 1, N: 1}, spans(7, 3)},
		"a discard of one that is two":  {model.Op{What: discard, At: 4, N: 1}, spans(7, 3)},
		"a discard of all":              {model.Op{What: discard, N: 6}, spans(0, 1, 2, 2, 7, 3)},
		"a discard of a hole":           {model.Op{What: discard, At: 5, N: 1}, spans(7, 3)},
		"a discard of none":             {model.Op{What: discard, At: 1}, spans(7, 3)},
		"a delete":                      {model.Op{What: remove, ID: 3}, spans(4, 6)},
		"a revert":                      {model.Op{What: revert, ID: 3}, spans(0, 1, 2, 2, 7, 3)},
		"a resize to 5":                 {model.Op{What: resize, N: 5}, spans(7, 3)},
		"a resize to 4":                 {model.Op{What: resize, N: 4}, spans(7, 3)},
		"a resize to 3":                 {model.Op{What: resize, N: 3}, spans(3, 1, 7, 3)},
		"a resize to 2":                 {model.Op{What: resize, N: 2}, spans(2, 2, 7, 3)},
		"a resize to 0":                 {model.Op{What: resize}, spans(0, 1, 2, 2, 7, 3)},
		"a resize to more":              {model.Op{What: resize, N: 65536}, spans(7, 3)},
		"a snapshot, which takes none":  {model.Op{What: snapshot, Name: "b"}, spans(7, 3)},
		"a read":                        {model.Op{What: read, N: 6}, spans(7, 3)},
		"a list":                        {model.Op{What: list}, spans(7, 3)},
		"a write that is refused":       {model.Op{What: write, At: 6, Data: octets(1)}, spans(7, 3)},
		"a delete of none":              {model.Op{What: remove, ID: 2}, spans(7, 3)},
		"a snapshot by a name of one":   {model.Op{What: snapshot, Name: "a"}, spans(7, 3)},
		"a discard that does not fit":   {model.Op{What: discard, At: 5, N: 2}, spans(7, 3)},
		"a revert to none":              {model.Op{What: revert, ID: 4}, spans(7, 3)},
		"a resize to more than may be":  {model.Op{What: resize, N: 65537}, spans(7, 3)},
		"an op that is none":            {model.Op{What: 9}, spans(7, 3)},
		"a write of more than are free": {model.Op{What: write, At: 0, Data: octets(1, 2, 3, 4)}, spans(7, 3)},
	} {
		t.Run(name, func(t *testing.T) {
			after := wantPlain(t, s, c.x)
			if !slices.Equal(after.Free.Spans, c.free) {
				t.Errorf("P11.2: free behind it: %v; want %v", after.Free.Spans, c.free)
			}
			for _, x := range after.Free.Spans {
				for place := x.At; place < x.At+x.Len; place++ {
					if string(after.Data[place]) != string(s.Data[place]) {
						t.Errorf("P11.2: sector %d is free, and has other octets", place)
					}
				}
			}
		})
	}
}

// P11.2: a snapshot has the disk's size and map, the next ID, and stands last.
func TestSnapshot(t *testing.T) {
	want := ordinary()
	want.Snaps = append(want.Snaps, volume.Snap{ID: 10, Name: "new", Size: 8, List: slices.Clone(want.Now)})
	want.Next = 11
	s := wantDo(t, ordinary(), model.Op{What: snapshot, Name: "new"}, want, model.Reply{ID: 10, Size: 8})
	want.Snaps = want.Snaps[:4]
	s = wantDo(t, s, model.Op{What: remove, ID: 10}, want, model.Reply{Size: 8})
	want.Snaps = append(want.Snaps, volume.Snap{ID: 11, Name: "new", Size: 8, List: slices.Clone(want.Now)})
	want.Next = 12
	wantDo(t, s, model.Op{What: snapshot, Name: "new"}, want, model.Reply{ID: 11, Size: 8})
}

// P11.2: behind a revert the disk has the snapshot's size and map.
func TestRevert(t *testing.T) {
	for _, snap := range ordinary().Snaps {
		s := wantPlain(t, ordinary(), model.Op{What: revert, ID: snap.ID})
		if s.Size != snap.Size || !slices.Equal(s.Now, snap.List) || len(s.Snaps) != 4 {
			t.Errorf("P11.2: a revert to %d: %s", snap.ID, told(s))
		}
	}
}

// P11.2: a resize to a smaller size cuts what lies behind, for good; a greater
// one is a hole.
func TestResize(t *testing.T) {
	for n := range 12 {
		s := wantPlain(t, ordinary(), model.Op{What: resize, N: n})
		s = wantPlain(t, s, model.Op{What: resize, N: 8})
		all := plainOf(ordinary()).octets(plainOf(ordinary()).disks[0])
		clear(all[64*min(n, 8):])
		wantRead(t, s, 0, 0, 8, all, api.OK)
	}
	great := made(2, 65536, at(65535, 1, 1))
	wantPlain(t, great, model.Op{What: resize, N: 65535})
	wantPlain(t, great, model.Op{What: resize, N: 65536})
}

// P11.2: a list tells the snapshots in their order.
func TestList(t *testing.T) {
	want := []model.Named{{ID: 1, Name: "less"}, {ID: 2, Name: "none"}, {ID: 4, Name: "0123456789abcdef"}, {ID: 9, Name: "\x00"}}
	wantDo(t, ordinary(), model.Op{What: list}, ordinary(), model.Reply{List: want, Size: 8})
	wantDo(t, made(1, 5, nil), model.Op{What: list}, made(1, 5, nil), model.Reply{Size: 5})
}

// wrongOps has ops that May refuses on an ordinary disk.
func wrongOps() map[string]model.Op {
	return map[string]model.Op{
		"no kind":                  {N: 1, Data: octets(1)},
		"a kind of 9":              {What: 9},
		"a kind of -1":             {What: -1},
		"no data":                  {What: write},
		"a part of a sector":       {What: write, Data: make([]byte, 65)},
		"65 sectors":               {What: write, Data: make([]byte, 65*64)},
		"a write ahead":            {What: write, At: -1, Data: octets(1)},
		"a write behind":           {What: write, At: 8, Data: octets(1)},
		"a write partly behind":    {What: write, At: 7, Data: octets(1, 2)},
		"a read ahead":             {What: read, At: -1},
		"a read of -1":             {What: read, N: -1},
		"a read partly behind":     {What: read, At: 1, N: 8},
		"a discard ahead":          {What: discard, At: -1, N: 1},
		"a discard of -1":          {What: discard, N: -1},
		"a discard partly behind":  {What: discard, At: 1, N: 8},
		"a name of none":           {What: snapshot},
		"a name of 17":             {What: snapshot, Name: "0123456789abcdefg"},
		"a name that is one's":     {What: snapshot, Name: "less"},
		"a delete of none":         {What: remove, ID: 3},
		"a delete of the disk":     {What: remove},
		"a revert to none":         {What: revert, ID: 10},
		"a revert to the disk":     {What: revert},
		"a resize to -1":           {What: resize, N: -1},
		"a resize to 2^16 and 1":   {What: resize, N: 65537},
		"a read of more than ever": {What: read, At: 1, N: int(^uint(0) >> 1)},
	}
}

// P11.2: an op with an error of May's tells it and the size, and changes
// nothing.
func TestWrongOps(t *testing.T) {
	names := []model.Named{{ID: 1, Name: "less"}, {ID: 2, Name: "none"}, {ID: 4, Name: "0123456789abcdef"}, {ID: 9, Name: "\x00"}}
	for name, x := range wrongOps() {
		t.Run(name, func(t *testing.T) {
			err := model.May(8, names, 10, x)
			if err == api.OK {
				t.Fatal("the test's own op may be")
			}
			wantDo(t, ordinary(), x, ordinary(), model.Reply{Err: err, Size: 8})
		})
	}
}

// P11.2: what May says of an op goes ahead of a want of space.
func TestWrongOpsWithoutSpace(t *testing.T) {
	s := made(2, 4, at(0, 0, 2))
	wantDo(t, s, model.Op{What: write, Data: octets(1)}, s, model.Reply{Err: api.ErrSpace, Size: 4})
	wantDo(t, s, model.Op{What: write, At: 4, Data: octets(1)}, s, model.Reply{Err: api.ErrRange, Size: 4})
	wantDo(t, s, model.Op{What: write, Data: make([]byte, 63)}, s, model.Reply{Err: api.ErrArg, Size: 4})
}

// P11.2: the counts of snapshots, and their IDs, at their bounds.
func TestSnapshotsAtTheirBounds(t *testing.T) {
	s := made(9, 1, at(0, 8, 1), snapped(8)...)
	s = wantPlain(t, s, model.Op{What: snapshot, Name: "x"})
	if s.Next != 9 {
		t.Errorf("P11.2: a ninth snapshot was taken: %s", told(s))
	}
	for id := range 10 {
		s = wantPlain(t, s, model.Op{What: revert, ID: id})
		s = wantPlain(t, s, model.Op{What: remove, ID: id})
	}
	s.Next = 254
	s = wantPlain(t, s, model.Op{What: snapshot, Name: "x"})
	s = wantPlain(t, s, model.Op{What: snapshot, Name: "y"})
	if len(s.Snaps) != 1 || s.Next != 255 {
		t.Errorf("P11.2: the last ID is 254: %s", told(s))
	}
}

// P11.2, P1: ops whose numbers are of any size.
func TestOpsOfAnySize(t *testing.T) {
	s := made(3, 5, at(1, 0, 2), volume.Snap{ID: 1, Name: "a", Size: 2, List: at(0, 1, 1)})
	r := rand.New(rand.NewSource(1))
	sizes := anySize()
	for what := range 10 {
		for _, n := range sizes {
			for _, place := range sizes {
				if what == resize && n > 9 && n <= 65537 && place != 0 {
					continue // once is enough: such disks are great
				}
				id := sizes[r.Intn(len(sizes))]
				wantPlain(t, s, model.Op{What: what, At: place, N: n, ID: id, Name: "b", Data: octets(1)})
			}
		}
	}
}
