package reloc_test

import (
	"testing"

	"flagstone/api"
	"flagstone/free"
	"flagstone/reloc"
	"flagstone/volume"
)

// badStates has states that may not be, each for one reason.
func badStates() map[string]volume.State {
	out := map[string]volume.State{"a state without Next": {}}
	for name, change := range map[string]func(s *volume.State){
		"Next 256":                func(s *volume.State) { s.Next = 256 },
		"an ID as Next":           func(s *volume.State) { s.Next = 9 },
		"names alike":             func(s *volume.State) { s.Snaps[3].Name = "none" },
		"a name of none":          func(s *volume.State) { s.Snaps[2].Name = "" },
		"a size of -1":            func(s *volume.State) { s.Snaps[1].Size = -1 },
		"a map beyond its size":   func(s *volume.State) { s.Size = 7 },
		"a snapshot's beyond":     func(s *volume.State) { s.Snaps[2].Size = 19 },
		"an extent of none":       func(s *volume.State) { s.Now[1].Len = 0 },
		"extents that fall":       func(s *volume.State) { s.Now[1], s.Now[2] = s.Now[2], s.Now[1] },
		"extents that could be 1": func(s *volume.State) { s.Snaps[0].List = at(0, 2, 1, 1, 3, 2) },
		"a Phys below 0":          func(s *volume.State) { s.Snaps[2].List[0].Phys = -1 },
		"a Phys behind the data":  func(s *volume.State) { s.Snaps[3].List[0].Phys = 16 },
		"free and referred to":    func(s *volume.State) { s.Free.Spans[0].Len = 2 },
		"neither":                 func(s *volume.State) { s.Free.Spans = s.Free.Spans[1:] },
		"free spans that touch":   func(s *volume.State) { s.Free.Spans = spans(1, 1, 7, 1, 9, 1, 12, 1, 13, 2) },
		"1025 free spans":         func(s *volume.State) { *s = fenced(1025) },
		"1025 extents":            func(s *volume.State) { *s = made(1100, crowded(1025)) },
		"a free size of -1":       func(s *volume.State) { *s = made(0, nil); s.Free = free.State{Size: -1} },
		"a data sector less":      func(s *volume.State) { s.Data = s.Data[:15] },
		"a data sector more":      func(s *volume.State) { s.Data = append(s.Data, sector(16)) },
		"a free sector of none":   func(s *volume.State) { s.Data[1] = nil },
		"a sector of 63":          func(s *volume.State) { s.Data[2] = s.Data[2][:63] },
		"a sector of 65":          func(s *volume.State) { s.Data[11] = append(s.Data[11], 1) },
	} {
		s := ordinary()
		change(&s)
		out[name] = s
	}
	return out
}

// P12.1, P12.2: each call first tells volume.Check's error, whatever else it
// is given, and nothing beside it.
func TestCallsOfStatesThatMayNotBe(t *testing.T) {
	for name, s := range badStates() {
		if volume.Check(s) != api.ErrState {
			t.Errorf("the test's own state may be: %s", name)
		}
		for _, n := range []int{-1, 0, 1, 4, 5} {
			for _, from := range []int{-1, 2, 7, 16} {
				for _, to := range []int{-1, 2, 12, 16} {
					if got, err := reloc.Move(s, span(from, n), to); !same(got, volume.State{}) || err != api.ErrState {
						t.Errorf("P12.1: %s: Move: %s, %d", name, told(got), err)
					}
				}
			}
		}
		if x, to, is, err := reloc.Victim(s); x != (api.Span{}) || to != 0 || is || err != api.ErrState {
			t.Errorf("P12.1: %s: Victim: %v, %d, %t, %d", name, x, to, is, err)
		}
		for what, do := range map[string]step{"Compact": reloc.Compact, "Defragment": reloc.Defragment} {
			if got, did, err := do(s); !same(got, volume.State{}) || did || err != api.ErrState {
				t.Errorf("P12.2: %s: %s: %s, %t, %d", name, what, told(got), did, err)
			}
		}
		if n, err := reloc.Pieces(s); n != 0 || err != api.ErrState {
			t.Errorf("P12.2: %s: Pieces: %d, %d", name, n, err)
		}
	}
}

// P12.2: as many pieces as a map may have.
func TestPieces(t *testing.T) {
	for _, n := range []int{0, 1, 2, 1023, 1024} {
		wantPieces(t, made(1100, striped(n, 0, 5, 1), snapped(1, at(0, 3, 1, 1, 0, 2))), n)
	}
	wantPieces(t, ordinary(), 4)
}
