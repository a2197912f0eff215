package volume_test

import (
	"testing"

	"flagstone/api"
	"flagstone/model"
	"flagstone/volume"
)

// wantErr asks for what the plain way has, and that it is that error.
func wantErr(t *testing.T, s volume.State, x model.Op, want api.Errno) volume.State {
	t.Helper()
	after := wantPlain(t, s, x)
	if _, r := volume.Do(s, x); r.Err != want {
		t.Errorf("P11.2: Do(%s, %s): %d; want %d", told(s), toldOp(x), r.Err, want)
	}
	return after
}

// P11.2: a write of just as many sectors as are free, and of one more, over
// several spans; those that it writes over do not count.
func TestWriteOfAsManyAsAreFree(t *testing.T) {
	for name, s := range map[string]volume.State{
		"one span":         made(9, 70, at(0, 0, 2)),
		"several spans":    made(20, 70, at(0, 1, 1, 4, 3, 2, 9, 9, 1, 12, 11, 4)),
		"ordinary":         made(20, 70, at(0, 2, 2, 3, 4, 1, 4, 2, 1, 6, 8, 2), volume.Snap{ID: 1, Name: "a", Size: 9, List: at(1, 6, 1, 8, 19, 1)}),
		"spans of one":     made(100, 70, striped(33, 1, 2)[1:]),
		"none":             made(6, 70, at(10, 0, 6)),
		"no data":          made(0, 70, nil),
		"a span of 64":     made(66, 70, at(0, 64, 2)),
		"64 and one more":  made(70, 70, at(0, 64, 2, 10, 67, 3)),
		"63, in two spans": made(66, 70, at(0, 40, 3)),
	} {
		t.Run(name, func(t *testing.T) {
			n := 0
			for _, x := range s.Free.Spans {
				n += x.Len
			}
			for k := 1; k <= min(n+3, 64); k++ {
				want := api.OK
				if k > n {
					want = api.ErrSpace
				}
				wantErr(t, s, model.Op{What: write, Data: row(k)}, want)
				wantErr(t, s, model.Op{What: write, At: 70 - k, Data: row(k)}, want)
				wantErr(t, s, model.Op{What: write, At: 3, Data: row(k)}, want)
			}
		})
	}
}

// P11.2: 64 sectors, each in a span of its own.
func TestWriteOf64Pieces(t *testing.T) {
	s := made(200, 300, striped(100, 1, 1))
	after := wantErr(t, s, model.Op{What: write, At: 210, Data: row(64)}, api.OK)
	if len(after.Now) != 164 {
		t.Errorf("P11.2: %d extents; want 164", len(after.Now))
	}
	wantErr(t, s, model.Op{What: write, At: 3, Data: row(64)}, api.OK)
}

// P11.2, P11.3: where nothing is free, reads, lists and snapshots are not
// refused, nor is what makes room.
func TestOpsWithoutRoom(t *testing.T) {
	s := made(6, 6, at(0, 0, 4), volume.Snap{ID: 1, Name: "a", Size: 6, List: at(0, 3, 3)})
	wantErr(t, s, model.Op{What: write, Data: row(1)}, api.ErrSpace)
	for _, x := range []model.Op{
		{What: read, N: 6}, {What: list}, {What: snapshot, Name: "b"}, {What: discard, N: 2}, {What: remove, ID: 1},
		{What: revert, ID: 1}, {What: resize, N: 1}, {What: resize, N: 65536},
	} {
		after := wantErr(t, s, x, api.OK)
		wantRead(t, after, 0, 0, 0, nil, api.OK)
	}
	after := wantErr(t, s, model.Op{What: discard, At: 1, N: 1}, api.OK)
	after = wantErr(t, after, model.Op{What: write, At: 5, Data: row(1)}, api.OK)
	wantErr(t, after, model.Op{What: write, At: 5, Data: row(1)}, api.ErrSpace)
}

// P11.2: a map of too many extents: the write or discard is not done.
func TestTooManyExtents(t *testing.T) {
	for count := 1021; count <= 1024; count++ {
		s := made(3*count+70, 4*count+70, striped(count, 3, 0))
		for name, c := range map[string]struct {
			x    model.Op
			more int
		}{
			"a write into a hole":           {model.Op{What: write, At: 3, Data: row(1)}, 1},
			"a write behind all":            {model.Op{What: write, At: 4 * count, Data: row(64)}, 1},
			"a write within":                {model.Op{What: write, At: 1, Data: row(1)}, 2},
			"a write at an extent's end":    {model.Op{What: write, At: 2, Data: row(2)}, 1},
			"a write over one":              {model.Op{What: write, At: 4, Data: row(3)}, 0},
			"a write over three":            {model.Op{What: write, At: 3, Data: row(12)}, -2},
			"a write behind the last":       {model.Op{What: write, At: 4*count - 1, Data: row(1)}, 0},
			"a discard within":              {model.Op{What: discard, At: 5, N: 1}, 1},
			"a discard at an extent's end":  {model.Op{What: discard, At: 6, N: 1}, 0},
			"a discard of one":              {model.Op{What: discard, At: 3, N: 4}, -1},
			"a discard of none":             {model.Op{What: discard, At: 5}, 0},
			"a resize that cuts one":        {model.Op{What: resize, N: 4*count - 2}, 0},
			"a snapshot":                    {model.Op{What: snapshot, Name: "a"}, 0},
			"a read, not refused for space": {model.Op{What: read, N: 64}, 0},
		} {
			want := api.OK
			if count+c.more > 1024 {
				want = api.ErrSpace
			}
			after := wantErr(t, s, c.x, want)
			if want == api.OK && len(after.Now) != count+c.more {
				t.Errorf("P11.2: %s: %d extents; want %d", name, len(after.Now), count+c.more)
			}
		}
	}
}

// P11.2: the map is put anew piece by piece: one piece with too many extents
// is enough, even if the next one would make one of two.
func TestTooManyExtentsOnTheWay(t *testing.T) {
	for more := 1018; more <= 1021; more++ {
		// Just 3 and 5 are free: sector 2 goes to 5, and is one with sector 3.
		now := at(0, 0, 3, 3, 6, 1, 5, 4, 1)
		for i := range more {
			now = append(now, api.Extent{Virt: 10 + 2*i, Phys: 7 + i, Len: 1})
		}
		s := made(7+more, 4096, now)
		want := api.OK
		if 5+more > 1024 {
			want = api.ErrSpace
		}
		after := wantErr(t, s, model.Op{What: write, At: 1, Data: row(2)}, want)
		if want == api.OK && len(after.Now) != 4+more {
			t.Errorf("P11.2: %d extents; want %d", len(after.Now), 4+more)
		}
	}
}

// fenced has so many free spans of two sectors, with three used ones behind
// each; in the midst of the first, a few are the disk's alone (sectors 0 to
// 5), or snapshot 3's alone (two), and one three whole ones are the disk's
// (sectors 6 to 8).
func fenced(count int) volume.State {
	p := plain{next: 4, disks: []plainDisk{
		{at: make([]int, 9)}, {id: 1, name: "a", at: make([]int, 4*count)}, {id: 2, name: "b", at: make([]int, 4*count)}, {id: 3, name: "c", at: make([]int, 3)},
	}}
	for _, d := range p.disks {
		for i := range d.at {
			d.at[i] = -1
		}
	}
	for i := range count {
		for k := range 3 {
			phys := 5*i + 2 + k
			switch {
			case i == 8:
				p.disks[0].at[6+k] = phys
			case i < 6 && k == 1:
				p.disks[0].at[i] = phys
			case i < 8 && k == 1:
				p.disks[3].at[2*(i-6)] = phys
			default:
				p.disks[1+i%2].at[4*i+k] = phys
			}
		}
	}
	for place := range 5 * count {
		p.data = append(p.data, sector(place))
	}
	return p.state()
}

// P11.2: too many free spans: whatever makes them is not done. They are
// counted when all is done, since neighbours become one.
func TestTooManyFreeSpans(t *testing.T) {
	for count := 1018; count <= 1024; count++ {
		s := fenced(count)
		if len(s.Free.Spans) != count {
			t.Fatalf("the test's own state has %d free spans; want %d", len(s.Free.Spans), count)
		}
		for name, c := range map[string]struct {
			x    model.Op
			more int
		}{
			"a discard of one":               {model.Op{What: discard, At: 3, N: 1}, 1},
			"a discard of six":               {model.Op{What: discard, N: 6}, 6},
			"a discard of one, and of three": {model.Op{What: discard, At: 5, N: 4}, 0},
			"a discard of three":             {model.Op{What: discard, At: 6, N: 3}, -1},
			"a discard of all":               {model.Op{What: discard, N: 9}, 5},
			"a write over one":               {model.Op{What: write, At: 2, Data: row(1)}, 1},
			"a write over two":               {model.Op{What: write, At: 2, Data: row(2)}, 1},
			"a write over three":             {model.Op{What: write, At: 2, Data: row(3)}, 2},
			"a write over six":               {model.Op{What: write, Data: row(6)}, 3},
			"a delete":                       {model.Op{What: remove, ID: 3}, 2},
			"a revert":                       {model.Op{What: revert, ID: 3}, 5},
			"a revert to another":            {model.Op{What: revert, ID: 1}, 5},
			"a resize to 4":                  {model.Op{What: resize, N: 4}, 1},
			"a resize to 6":                  {model.Op{What: resize, N: 6}, -1},
			"a resize to more":               {model.Op{What: resize, N: 100}, 0},
			"a snapshot":                     {model.Op{What: snapshot, Name: "d"}, 0},
			"a read, not refused for space":  {model.Op{What: read, N: 9}, 0},
			"a list":                         {model.Op{What: list}, 0},
		} {
			want := api.OK
			if count+c.more > 1024 {
				want = api.ErrSpace
			}
			after := wantErr(t, s, c.x, want)
			if want == api.OK && len(after.Free.Spans) != count+c.more {
				t.Errorf("P11.2: %s: %d free spans; want %d", name, len(after.Free.Spans), count+c.more)
			}
		}
	}
}

// P11.2, P11.3: where 1024 spans are free and one more is used, all goes on.
func TestAsManySpansAsMayBe(t *testing.T) {
	s := made(2049, 4096, striped(1024, 1, 1), volume.Snap{ID: 1, Name: "a", Size: 1, List: at(0, 2048, 1)})
	if len(s.Free.Spans) != 1024 {
		t.Fatal("the test's own state:", len(s.Free.Spans))
	}
	for _, x := range []model.Op{
		{What: read, N: 64}, {What: list}, {What: snapshot, Name: "b"}, {What: discard, N: 1}, {What: discard, At: 64, N: 64}, {What: resize, N: 100},
		{What: remove, ID: 1}, {What: revert, ID: 1}, {What: write, Data: row(1)},
		{What: write, At: 1, Data: row(1)}, // one with both beside it
	} {
		wantErr(t, s, x, api.OK)
	}
	wantErr(t, s, model.Op{What: write, At: 3000, Data: row(1)}, api.ErrSpace)
	wantErr(t, s, model.Op{What: write, At: 64, Data: row(64)}, api.ErrSpace)
}
