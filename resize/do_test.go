package resize_test

import (
	"maps"
	"math"
	"slices"
	"testing"

	"flagstone/api"
	"flagstone/model"
	"flagstone/volume"
)

// P13.2: a write with most below Need, at Need, above it, and below the data's
// own size.
func TestDoAWriteWithMost(t *testing.T) {
	for name, c := range map[string]struct {
		s       volume.State
		x       model.Op
		need    int
		refused api.Errno // where most is not below it
	}{
		"all is new":             {made(8, 0, nil), writing(0, 8), 8, api.OK},
		"one is new":             {made(8, 7, at(0, 0, 2)), writing(2, 6), 8, api.OK},
		"as many as are free":    {made(8, 7, at(0, 0, 2)), writing(2, 5), 7, api.OK},
		"fewer than are free":    {made(8, 7, at(0, 0, 2)), writing(2, 4), 7, api.OK},
		"none is free":           {made(8, 7, at(0, 0, 7)), writing(0, 1), 8, api.OK},
		"over itself":            {made(8, 8, at(0, 0, 8)), writing(0, 8), 16, api.OK},
		"free ones here, there":  {ordinary(), writing(0, 8), 18, api.OK},
		"free ones of most":      {fenced(20, 0), writing(0, 30), 50, api.OK},
		"of zeros":               {made(8, 0, nil), model.Op{What: write, Data: make([]byte, 128)}, 2, api.OK},
		"to the last one":        {made(65536, 65530, at(0, 0, 65530)), writing(60000, 6), 65536, api.OK},
		"to one more":            {made(65536, 65530, at(0, 0, 65530)), writing(60000, 7), 65537, api.ErrSpace},
		"where all are in use":   {made(65536, 65536, at(0, 0, 65536)), writing(65535, 1), 65537, api.ErrSpace},
		"where just one is free": {made(65536, 65536, at(0, 1, 65535)), writing(65535, 1), 65536, api.OK},
		"that may not be":        {made(8, 3, at(0, 0, 3)), writing(8, 1), 3, api.ErrRange},
		"of half a sector":       {made(8, 3, at(0, 0, 3)), model.Op{What: write, Data: make([]byte, 96)}, 3, api.ErrArg},
	} {
		t.Run(name, func(t *testing.T) {
			room := len(c.s.Data)
			wantNeed(t, c.s, c.x, c.need)
			for _, most := range []int{math.MinInt, -1, 0, room - 1, room, room + 1, c.need - 1, c.need, c.need + 1, math.MaxInt} {
				if most < c.need {
					wantDo(t, c.s, c.x, most, api.ErrSpace, room)
				} else if c.refused != api.OK {
					wantDo(t, c.s, c.x, most, c.refused, room)
				} else {
					wantDo(t, c.s, c.x, most, api.OK, c.need)
				}
			}
		})
	}
}

// P13.2: Need of the other ops is as many as there are: so most is above it or
// at it, or there is no space for them either, ahead of any other error.
func TestDoOthersWithMost(t *testing.T) {
	for _, x := range append(otherOps(), slices.Collect(maps.Values(refusedWrites()))...) {
		for _, s := range []volume.State{ordinary(), made(8, 3, at(0, 0, 3)), made(8, 0, nil)} {
			room := len(s.Data)
			m, _ := volume.Model(s)
			_, reply := model.Do(m, x)
			for _, most := range []int{math.MinInt, -1, 0, 1, room - 1, room, room + 1, 65536, 65537, math.MaxInt} {
				if most < room {
					wantDo(t, s, x, most, api.ErrSpace, room)
				} else {
					wantDo(t, s, x, most, reply.Err, room)
				}
			}
		}
	}
}

// P13.2: free sectors are used first, the best fit ahead; what is behind has
// been grown.
func TestDoFillsWhatIsFreeFirst(t *testing.T) {
	s := made(8, 6, at(0, 4, 1, 1, 2, 1))
	got := wantDo(t, s, writing(2, 6), 8, api.OK, 8)
	// 0 to 1 and 3 were free, and 5; 5 to 7 are the longest then.
	if want := at(0, 4, 1, 1, 2, 1, 2, 5, 3, 5, 0, 2, 7, 3, 1); !slices.Equal(got.Now, want) || len(got.Free.Spans) != 0 {
		t.Errorf("P13.2: %s; want now %v, and nothing free", told(got), want)
	}
}

// P13.2: data never become fewer by an op, however many are free behind it.
func TestDoKeepsFreeSectors(t *testing.T) {
	s := made(8, 20, at(0, 4, 8))
	for _, x := range []model.Op{
		{What: discard, N: 8}, {What: resizing}, {What: write, Data: octets(1)}, {What: read, N: 8}, {What: list}, {What: snapshot, Name: "a"},
	} {
		wantDo(t, s, x, 20, api.OK, 20)
		wantDo(t, s, x, 21, api.OK, 20)
	}
}

// P13.2: an op with an error changes nothing: what was grown for it is not
// there.
func TestDoRefusedBehindGrowth(t *testing.T) {
	for count := 1022; count <= 1024; count++ {
		// A write into the midst of the first extent makes two more.
		now := append(at(0, 0, 4), striped(count-1, 10, 4, 1)...)
		s := made(2100, count+3, now)
		wantNeed(t, s, writing(1, 2), count+5)
		if count == 1022 {
			after := wantDo(t, s, writing(1, 2), 65536, api.OK, count+5)
			if len(after.Now) != 1024 {
				t.Errorf("P13.2: %d extents; want 1024", len(after.Now))
			}
		} else {
			wantDo(t, s, writing(1, 2), 65536, api.ErrSpace, count+3)
		}
	}
}

// P13.2: likewise where too many spans would be free.
func TestDoRefusedForSpans(t *testing.T) {
	for count := 1021; count <= 1024; count++ {
		// 0 to 2 are the disk's alone, and each second one behind is free.
		s := made(2100, 3+2*count, at(0, 0, 3),
			volume.Snap{ID: 1, Name: "a", Size: 2100, List: striped(10, 0, 3, 2)},
			volume.Snap{ID: 2, Name: "b", Size: 2100, List: striped(count-10, 0, 23, 2)})
		if len(s.Free.Spans) != count {
			t.Fatal("the test's own state:", told(s))
		}
		// What is written takes three of the spans, and makes one.
		wantDo(t, s, writing(0, 3), 65536, api.OK, len(s.Data))
		wantDo(t, s, model.Op{What: discard, At: 1, N: 1}, 65536, okOrSpace(count < 1024), len(s.Data))
	}
}

func okOrSpace(fits bool) api.Errno {
	if fits {
		return api.OK
	}
	return api.ErrSpace
}

// P13.2, P13.3: what a snapshot has is not written over by what is grown for,
// and is read again behind a revert.
func TestDoBesideSnapshots(t *testing.T) {
	s := made(4, 0, nil)
	s = wantDo(t, s, writing(0, 4), 4, api.OK, 4)
	s = wantDo(t, s, model.Op{What: snapshot, Name: "a"}, 4, api.OK, 4)
	wantDo(t, s, writing(1, 2), 5, api.ErrSpace, 4)
	s = wantDo(t, s, writing(1, 2), 6, api.OK, 6)
	s = wantDo(t, s, model.Op{What: revert, ID: 1}, 6, api.OK, 6)
	s = wantTruncate(t, s, 2)
	got, err := volume.Read(s, 0, 0, 4)
	if string(got) != string(writing(0, 4).Data) || err != api.OK {
		t.Errorf("P13.3: not what was written, %d", err)
	}
	s = wantDo(t, s, model.Op{What: remove, ID: 1}, 4, api.OK, 4)
	s = wantDo(t, s, model.Op{What: discard, N: 4}, 4, api.OK, 4)
	wantTruncate(t, s, 4)
}
