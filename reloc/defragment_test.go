package reloc_test

import (
	"slices"
	"testing"

	"flagstone/api"
	"flagstone/volume"
)

// P12.2: two that are neighbours in Virt become one, in the place that fits
// best, and all that refers to their sectors goes along.
func TestDefragmentInFull(t *testing.T) {
	s := made(24, at(0, 10, 1, 5, 21, 1, 6, 12, 2, 9, 14, 1), snapped(1, at(0, 20, 2)), snapped(2, at(0, 0, 1, 3, 6, 2, 8, 11, 3, 12, 15, 1)))
	if !slices.Equal(s.Free.Spans, spans(1, 5, 8, 2, 16, 4, 22, 2)) {
		t.Fatal("the test's own state:", s.Free.Spans)
	}
	want := s
	want.Now = at(0, 10, 1, 5, 16, 3, 9, 14, 1)
	want.Snaps = slices.Clone(s.Snaps)
	want.Snaps[0].List = at(0, 20, 1, 1, 16, 1)
	want.Snaps[1].List = at(0, 0, 1, 3, 6, 2, 8, 11, 1, 9, 17, 2, 12, 15, 1)
	want.Free.Spans = spans(1, 5, 8, 2, 12, 2, 19, 1, 21, 3)
	want.Data = slices.Clone(s.Data)
	want.Data[16], want.Data[17], want.Data[18] = sector(21), sector(12), sector(13)
	wantPieces(t, s, 4)
	got, did, err := wantDefragment(t, s)
	if !same(got, want) || !did || err != api.OK {
		t.Errorf("P12.2: Defragment: %s, %t, %d; want %s", told(got), did, err, told(want))
	}
	wantPieces(t, got, 3)
	if got, did, err = wantDefragment(t, got); did || err != api.OK || !same(got, volume.State{}) {
		t.Errorf("P12.2: Defragment, nothing left: %s, %t, %d", told(got), did, err)
	}
}

// P12.2: which two it is, and where they go; beside false there is nothing.
func TestDefragment(t *testing.T) {
	none := []api.Extent(nil)
	for name, c := range map[string]struct {
		room int
		now  []api.Extent
		want []api.Extent
	}{
		"no extents":                         {9, nil, none},
		"one extent":                         {9, at(3, 2, 4), none},
		"one of five":                        {19, at(3, 2, 5), none},
		"two of together 2":                  {9, at(0, 5, 1, 1, 4, 1), at(0, 6, 2)},
		"two of together 4":                  {20, at(0, 8, 2, 2, 11, 2), at(0, 13, 4)},
		"1 and 3":                            {20, at(0, 8, 1, 1, 11, 3), at(0, 14, 4)},
		"3 and 1":                            {20, at(0, 8, 3, 3, 12, 1), at(0, 13, 4)},
		"two of together 5":                  {20, at(0, 8, 2, 2, 11, 3), none},
		"4 and 1":                            {20, at(0, 8, 4, 4, 13, 1), none},
		"1 and 4":                            {20, at(0, 8, 1, 1, 13, 4), none},
		"together 5, then together 4":        {20, at(0, 8, 4, 4, 13, 1, 5, 16, 3), at(0, 8, 4, 4, 0, 4)},
		"a hole between":                     {20, at(0, 8, 1, 2, 12, 1), none},
		"a hole between, where they touch":   {20, at(0, 8, 1, 2, 9, 1), none},
		"a hole, then neighbours":            {20, at(0, 8, 1, 2, 12, 1, 3, 15, 2), at(0, 8, 1, 2, 9, 3)},
		"the first of two pairs":             {20, at(0, 8, 1, 1, 12, 1, 7, 15, 1, 8, 18, 1), at(0, 13, 2, 7, 15, 1, 8, 18, 1)},
		"three in a row: the first two":      {20, at(0, 8, 1, 1, 12, 1, 2, 16, 1), at(0, 9, 2, 2, 16, 1)},
		"the second goes ahead of the first": {20, at(0, 4, 2, 2, 2, 2), at(0, 6, 4)},
		"the same, but no place":             {7, at(0, 2, 2, 2, 0, 2), none},
		"just so much room":                  {8, at(0, 2, 2, 2, 0, 2), at(0, 4, 4)},
		"no place for any of two pairs":      {8, at(0, 0, 2, 2, 5, 2, 7, 2, 1, 8, 4, 1), none},
		"no place for 4, but for the next 2": {12, at(0, 2, 2, 2, 7, 2, 5, 10, 1, 6, 5, 1), at(0, 2, 2, 2, 7, 2, 5, 0, 2)},
		"no place for 3, but for the next 2": {10, at(0, 1, 2, 2, 5, 1, 3, 9, 1, 9, 6, 1), at(0, 1, 4, 9, 6, 1)},
		"the shortest place":                 {20, at(0, 5, 1, 1, 0, 1, 7, 8, 1, 9, 14, 1), at(0, 6, 2, 7, 8, 1, 9, 14, 1)},
		"the lowest of like places":          {12, at(0, 5, 1, 1, 3, 1, 7, 0, 1, 9, 8, 1, 11, 11, 1), at(0, 1, 2, 7, 0, 1, 9, 8, 1, 11, 11, 1)},
		"the last place of all":              {14, at(0, 11, 1, 1, 1, 1, 7, 2, 9), at(0, 12, 2, 7, 2, 9)},
	} {
		t.Run(name, func(t *testing.T) {
			s := made(c.room, c.now)
			before := len(c.now)
			wantPieces(t, s, before)
			got, did, err := wantDefragment(t, s)
			if !slices.Equal(got.Now, c.want) || did != (c.want != nil) || err != api.OK {
				t.Errorf("P12.2: Defragment(%s): %s, %t, %d; want %v", told(s), told(got), did, err, c.want)
			}
			if did {
				wantPieces(t, got, len(c.want))
			}
		})
	}
}

// P12.2: only Now's pieces count, not a snapshot's.
func TestDefragmentLooksAtNow(t *testing.T) {
	s := made(20, at(0, 3, 1), snapped(1, at(0, 8, 1, 1, 6, 1)))
	wantPieces(t, s, 1)
	if _, did, err := wantDefragment(t, s); did || err != api.OK {
		t.Errorf("P12.2: Defragment: %t, %d", did, err)
	}
}

// P12.2: what became one may become one with its neighbours, step by step, up
// to four sectors.
func TestDefragmentAsOftenAsItGoes(t *testing.T) {
	now := at(0, 40, 1, 1, 38, 1, 2, 36, 1, 3, 34, 1, 4, 32, 1, 5, 30, 1, 6, 28, 1)
	s := made(60, now)
	for pieces := 7; pieces > 2; pieces-- {
		wantPieces(t, s, pieces)
		after, did, err := wantDefragment(t, s)
		if !did || err != api.OK {
			t.Fatalf("P12.2: Defragment(%s): %t, %d", told(s), did, err)
		}
		s = after
	}
	wantPieces(t, s, 2)
	if _, did, err := wantDefragment(t, s); did || err != api.OK || s.Now[0].Len != 4 || s.Now[1].Len != 3 {
		t.Errorf("P12.2: Defragment(%s): %t, %d", told(s), did, err)
	}
}

// P12.2, P12.3: all small disks, with a snapshot beside.
func TestDefragmentSmallDisks(t *testing.T) {
	times := 0
	for i, d := range smallDisks(4, 8) {
		snaps := [][]api.Extent{nil, at(0, 1, 1), at(0, 2, 3), at(0, 4, 1, 1, 2, 2), at(1, 3, 2)}
		s := made(8, extents(d), snapped(1, snaps[i%5]))
		wantPieces(t, s, len(extents(d)))
		_, did, _ := wantDefragment(t, s)
		if did {
			times++
		}
		if t.Failed() {
			return
		}
	}
	if times < 1000 {
		t.Errorf("the test's own disks: only %d were to be defragmented", times)
	}
}
