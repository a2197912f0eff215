package resize_test

import (
	"testing"

	"flagstone/api"
	"flagstone/volume"
)

// someStates has small and great ones, with free sectors at the end and
// without.
func someStates() map[string]volume.State {
	great := made(65536, 65535, at(0, 0, 1, 7, 65530, 2))
	return map[string]volume.State{
		"ordinary":       ordinary(),
		"no data":        made(4, 0, nil),
		"no disk":        made(0, 3, nil),
		"nothing":        made(0, 0, nil),
		"all is free":    made(4, 16, nil),
		"all is used":    made(4, 16, at(0, 2, 4), volume.Snap{ID: 1, Name: "a", Size: 20, List: at(1, 6, 10, 12, 0, 2)}),
		"the last alone": made(4, 16, at(3, 15, 1)),
		"a snapshot's":   made(4, 16, at(3, 2, 1), volume.Snap{ID: 7, Name: "a", Size: 20, List: at(1, 11, 2)}),
		"shared":         made(4, 16, at(3, 2, 1), volume.Snap{ID: 7, Name: "a", Size: 20, List: at(1, 2, 1)}),
		"great":          great,
		"greatest":       made(65536, 65536, nil),
		"full":           made(65536, 65536, at(0, 0, 65536)),
	}
}

// P13.1, P1: to any number of data sectors.
func TestGrowToAnySize(t *testing.T) {
	for _, s := range someStates() {
		for _, room := range append(anySize(), len(s.Data)-1, len(s.Data), len(s.Data)+1) {
			if room < len(s.Data) || room > 65536 {
				wantGrow(t, s, room, api.ErrRange)
			} else {
				wantGrow(t, s, room, api.OK)
			}
		}
	}
}

// P13.1: new sectors are zeros, free, and one span with those that are free
// ahead of them; the others keep their octets, be they free or not.
func TestGrowth(t *testing.T) {
	s := made(4, 6, at(0, 1, 2))
	got := wantGrow(t, s, 9, api.OK)
	want := s
	want.Data = append(want.Data, make([]byte, 64), make([]byte, 64), make([]byte, 64))
	want.Free.Size, want.Free.Spans = 9, spans(0, 1, 3, 6)
	if !same(got, want) {
		t.Errorf("P13.1: %s; want %s", told(got), told(want))
	}
	got = wantGrow(t, made(4, 3, at(0, 1, 2)), 4, api.OK)
	want = made(4, 4, at(0, 1, 2))
	want.Data[3] = make([]byte, 64)
	want.Free.Spans = spans(0, 1, 3, 1)
	if !same(got, want) {
		t.Errorf("P13.1: %s; want %s", told(got), told(want))
	}
}

// P13.1: one free span too many, where the last sector is in use and there
// are as many as there may be.
func TestGrowWithTooManySpans(t *testing.T) {
	for count := 1022; count <= 1024; count++ {
		for behind := range 3 {
			s := fenced(count, behind)
			if behind > 0 {
				s = fenced(count-1, behind)
			}
			if len(s.Free.Spans) != count || volume.Check(s) != api.OK {
				t.Fatal("the test's own state:", told(s))
			}
			wantGrow(t, s, len(s.Data), api.OK)
			for _, room := range []int{len(s.Data) + 1, len(s.Data) + 2, 65536} {
				if count == 1024 && behind == 0 {
					wantGrow(t, s, room, api.ErrSpace)
				} else {
					wantGrow(t, s, room, api.OK)
				}
			}
		}
	}
}

// P13.1, P4: the number is looked at ahead of the free spans.
func TestGrowOrderOfErrors(t *testing.T) {
	s := fenced(1024, 0)
	for _, room := range []int{-1, 0, len(s.Data) - 1, 65537} {
		wantGrow(t, s, room, api.ErrRange)
	}
	wantGrow(t, s, 65536, api.ErrSpace)
}

// P13.1, P13.3: how many go, with free sectors at the end and without; then
// none, for all behind the last in use are gone.
func TestTruncate(t *testing.T) {
	for name, gone := range map[string]int{
		"ordinary": 3, "no data": 0, "no disk": 3, "nothing": 0, "all is free": 16, "all is used": 0, "the last alone": 0,
		"a snapshot's": 3, "shared": 13, "great": 65535 - 65532, "greatest": 65536, "full": 0,
	} {
		t.Run(name, func(t *testing.T) {
			s := wantTruncate(t, someStates()[name], gone)
			s = wantTruncate(t, s, 0)
			wantTruncate(t, s, 0)
		})
	}
}

// P13.1: free spans that are as many as may be, the last one at the end or
// not.
func TestTruncateOfMostSpans(t *testing.T) {
	wantTruncate(t, fenced(1024, 0), 0)
	s := wantTruncate(t, fenced(1023, 5), 5)
	if len(s.Free.Spans) != 1023 {
		t.Errorf("P13.1: %d free spans; want 1023", len(s.Free.Spans))
	}
	// What went may come back, and one span with it.
	wantGrow(t, s, len(s.Data)+5, api.OK)
}

// P13.1: what was cut off is zeros when it is there again.
func TestGrowBehindTruncate(t *testing.T) {
	for name, s := range someStates() {
		cut, gone := cutOff(t, s)
		got := wantGrow(t, cut, len(s.Data), api.OK)
		want := again(s)
		for i := range gone {
			want.Data[len(want.Data)-1-i] = make([]byte, 64)
		}
		if !same(got, want) {
			t.Errorf("P13.1: %s, cut and grown: %s; want %s", name, told(got), told(want))
		}
	}
}

// cutOff is s without what is free at its end, and how much that is.
func cutOff(t *testing.T, s volume.State) (volume.State, int) {
	t.Helper()
	_, gone := plainTruncate(s)
	return wantTruncate(t, s, gone), gone
}

// P13.1 to P13.3: all of 10 data sectors that may be in use, cut off and
// grown.
func TestAllSmallVolumes(t *testing.T) {
	for room := range 11 {
		for bits := range 1 << room {
			s := inUse(room, bits)
			cut, _ := cutOff(t, s)
			wantTruncate(t, cut, 0)
			for more := range 3 {
				wantGrow(t, s, room+more, api.OK)
				wantGrow(t, cut, len(cut.Data)+more, api.OK)
			}
		}
	}
}

// inUse is a volume of room data sectors of which those are in use whose bits
// are set: by Now, or by a snapshot, or by both, by turns.
func inUse(room, bits int) volume.State {
	var now, kept []api.Extent
	for place := range room {
		if bits>>place&1 == 0 {
			continue
		}
		// Two apart in Virt, so that no two could be one.
		x := api.Extent{Virt: 2 * place, Phys: place, Len: 1}
		if place%3 != 1 {
			now = append(now, x)
		}
		if place%3 != 2 {
			kept = append(kept, x)
		}
	}
	return made(22, room, now, volume.Snap{ID: 1, Name: "a", Size: 22, List: kept})
}
