package reloc_test

import (
	"slices"
	"strings"
	"testing"

	"flagstone/api"
	"flagstone/free"
	"flagstone/reloc"
	"flagstone/volume"
)

// P12.1, P12.2: the chapter's example: a sector at 9, 0 free: it goes to 0.
func TestExample(t *testing.T) {
	s := made(10, at(0, 9, 1))
	wantVictim(t, s, span(9, 1), 0, true)
	got, did, err := wantCompact(t, s)
	want := made(10, at(0, 0, 1))
	want.Data[0] = sector(9)
	if !same(got, want) || !did || err != api.OK {
		t.Errorf("P12.2: Compact: %s, %t, %d", told(got), did, err)
	}
	wantVictim(t, got, api.Span{}, 0, false)
	if got, did, err = wantCompact(t, got); !same(got, volume.State{}) || did || err != api.OK {
		t.Errorf("P12.2: Compact of what is compact: %s, %t, %d", told(got), did, err)
	}
}

// P12.1: the victim of each.
func TestVictim(t *testing.T) {
	for name, c := range map[string]struct {
		letters string
		x       api.Span
		to      int
		is      bool
	}{
		"no data":                         {"", span(0, 0), 0, false},
		"none in use":                     {"......", span(0, 0), 0, false},
		"all in use":                      {"xxxxxx", span(0, 0), 0, false},
		"all stand at the beginning":      {"xxxxx...", span(0, 0), 0, false},
		"one does":                        {"x....", span(0, 0), 0, false},
		"a row of 1":                      {"......x", span(6, 1), 0, true},
		"a row of 2":                      {"......xx", span(6, 2), 0, true},
		"a row of 3":                      {"......xxx", span(6, 3), 0, true},
		"a row of 4":                      {"......xxxx", span(6, 4), 0, true},
		"a row of 5":                      {"......xxxxx", span(7, 4), 0, true},
		"a row of 9, ahead of the end":    {"....xxxxxxxxx...", span(9, 4), 0, true},
		"a row of 2, ahead of the end":    {"x.....xx.......", span(6, 2), 1, true},
		"just as many are free":           {"x....xxxx", span(5, 4), 1, true},
		"one fewer is free":               {"x...xxxx", span(5, 3), 1, true},
		"two fewer are free":              {"x..xxxx", span(5, 2), 1, true},
		"one is free":                     {"x.xxxx", span(5, 1), 1, true},
		"cut off by one":                  {"......xxxx.x", span(11, 1), 0, true},
		"cut off behind two":              {"......xx.xx.", span(9, 2), 0, true},
		"cut off behind three":            {"....x.xxx", span(6, 3), 0, true},
		"cut off, the cut is the place":   {"xx.xxx", span(5, 1), 2, true},
		"cut off, no place for two":       {"xx.xx.xx", span(7, 1), 2, true},
		"all places too short":            {"x.x.x.xxxx", span(9, 1), 1, true},
		"places too short for four":       {"..x...x...xxxx", span(11, 3), 3, true},
		"the lowest, not the shortest":    {"x.....x..xx", span(9, 2), 1, true},
		"the lowest that is long enough":  {"x.x..x...x....xxx", span(14, 3), 6, true},
		"the lowest of like ones":         {"x..x..x..xx", span(9, 2), 1, true},
		"four are free only above":        {"xx.xxxx....", span(6, 1), 2, true},
		"one below, one above":            {"x.xx.", span(3, 1), 1, true},
		"none below, all above":           {"xxxx.....", span(0, 0), 0, false},
		"two in use, four in a row asked": {"....xx", span(4, 2), 0, true},
		"two at the beginning, one away":  {"xx.x", span(3, 1), 2, true},
	} {
		t.Run(name, func(t *testing.T) { wantVictim(t, inUse(c.letters), c.x, c.to, c.is) })
	}
}

// P12.1, P12.2: whoever it is that uses the last sectors.
func TestVictimOfAnyOwner(t *testing.T) {
	for _, s := range []volume.State{
		made(12, at(0, 5, 2), snapped(1, at(0, 7, 2))),
		made(12, at(0, 5, 2, 2, 8, 1), snapped(1, at(0, 6, 1)), snapped(2, at(3, 7, 1))),
		made(12, nil, snapped(1, nil), snapped(2, at(0, 4, 5))),
		made(12, at(0, 8, 1, 1, 7, 1, 2, 6, 1, 3, 5, 1)),
		made(12, at(0, 5, 4, 4, 7, 2), snapped(1, at(0, 5, 4))),
	} {
		wantVictim(t, s, span(5, 4), 0, true)
		got, did, err := wantCompact(t, s)
		if !did || err != api.OK || got.Free.Spans[len(got.Free.Spans)-1].At > 5 {
			t.Errorf("P12.2: Compact(%s): %s, %t, %d", told(s), told(got), did, err)
		}
	}
}

// rows has all rows of so many data sectors, in use or not.
func rows(n int) []string {
	out := []string{""}
	for range n {
		var more []string
		for _, letters := range out {
			more = append(more, letters+".", letters+"x")
		}
		out = more
	}
	return out
}

// compacted is s compacted as often as it goes.
func compacted(t *testing.T, s volume.State) volume.State {
	t.Helper()
	// Each step takes one sector down at least, and none up.
	for range len(s.Data)*len(s.Data) + 1 {
		after, did, err := wantCompact(t, s)
		if err != api.OK || t.Failed() {
			t.Fatalf("P12.4: Compact(%s): %d", told(s), err)
		}
		if !did {
			return s
		}
		s = after
	}
	t.Fatalf("P12.4: Compact(%s) goes on and on", told(s))
	return s
}

// wantAtTheBeginning asks that all that before used stands at after's
// beginning, as many in use, and in all.
func wantAtTheBeginning(t *testing.T, before, after volume.State) {
	t.Helper()
	unused, _, _ := free.Room(before.Free)
	used := before.Free.Size - unused
	var want []api.Span
	if unused > 0 {
		want = spans(used, unused)
	}
	if !slices.Equal(after.Free.Spans, want) || after.Free.Size != before.Free.Size || len(after.Data) != len(before.Data) {
		t.Errorf("P12.4: %s, compacted: %s; want %v free", told(before), told(after), want)
	}
	wantShown(t, "compacted", before, after)
}

// P12.1 to P12.4: all rows of up to 10 data sectors, in use or not.
func TestCompactSmallRows(t *testing.T) {
	for n := range 11 {
		for _, letters := range rows(n) {
			s := inUse(letters)
			x, to, is := plainVictim(s)
			wantVictim(t, s, x, to, is)
			wantAtTheBeginning(t, s, compacted(t, s))
			if t.Failed() {
				t.Fatal("of", letters)
			}
		}
	}
}

// P12.4: with sectors that are shared, and that a map has twice.
func TestCompactSharedSectors(t *testing.T) {
	for _, s := range []volume.State{
		ordinary(),
		made(40, at(0, 30, 9, 9, 10, 3, 20, 33, 2), snapped(1, at(3, 28, 8)), snapped(2, at(0, 39, 1, 2, 8, 3)), snapped(8, at(5, 33, 4))),
		made(40, nil, snapped(1, nil)),
		made(40, at(0, 0, 40)),
		made(0, nil),
	} {
		wantAtTheBeginning(t, s, compacted(t, s))
	}
}

// P12.4: the greatest volume, with little in use.
func TestCompactTheGreatest(t *testing.T) {
	s := made(65536, at(0, 65534, 2, 9, 65530, 2), snapped(1, at(7, 40000, 3)))
	after := s
	for _, to := range []int{0, 2, 4} {
		x, at, is, err := reloc.Victim(after)
		if at != to || !is || err != api.OK {
			t.Fatalf("P12.1: Victim: %v, %d, %t, %d; want to %d", x, at, is, err, to)
		}
		after, _, _ = reloc.Compact(after)
	}
	wantAtTheBeginning(t, s, after)
	if _, did, err := reloc.Compact(after); did || err != api.OK {
		t.Error("P12.2: Compact:", did, err)
	}
}

// P12.2: all of a step's sectors keep their order, and what stood in between
// of other owners goes along.
func TestCompactKeepsOrder(t *testing.T) {
	s := made(9, at(0, 5, 4), snapped(1, at(0, 6, 2)))
	got, _, _ := wantCompact(t, s)
	if !slices.Equal(got.Now, at(0, 0, 4)) || !slices.Equal(got.Snaps[0].List, at(0, 1, 2)) {
		t.Errorf("P12.2: Compact: %s", told(got))
	}
	// By steps: four of eight, and then the others.
	s = inUse(strings.Repeat(".", 20) + strings.Repeat("x", 8))
	got, _, _ = wantCompact(t, s)
	if !slices.Equal(got.Free.Spans, spans(4, 16, 24, 4)) {
		t.Errorf("P12.2: Compact: %s", told(got))
	}
}
