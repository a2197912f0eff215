package resize_test

import (
	"testing"

	"flagstone/api"
	"flagstone/free"
	"flagstone/model"
	"flagstone/resize"
	"flagstone/volume"
)

// badStates has states that may not be, each for one reason.
func badStates() map[string]volume.State {
	out := map[string]volume.State{"a state without Next": {}}
	for name, change := range map[string]func(s *volume.State){
		"Next 256":                func(s *volume.State) { s.Next = 256 },
		"an ID as Next":           func(s *volume.State) { s.Next = 9 },
		"names alike":             func(s *volume.State) { s.Snaps[3].Name = "none" },
		"a name of none":          func(s *volume.State) { s.Snaps[2].Name = "" },
		"a size of -1":            func(s *volume.State) { s.Snaps[1].Size = -1 },
		"a disk of 2^16 and 1":    func(s *volume.State) { s.Size = 65537 },
		"a map beyond its size":   func(s *volume.State) { s.Size = 7 },
		"a snapshot's beyond":     func(s *volume.State) { s.Snaps[2].Size = 19 },
		"an extent of none":       func(s *volume.State) { s.Now[1].Len = 0 },
		"extents that fall":       func(s *volume.State) { s.Now[1], s.Now[2] = s.Now[2], s.Now[1] },
		"extents that could be 1": func(s *volume.State) { s.Snaps[0].List = at(0, 2, 1, 1, 3, 2) },
		"a Phys below 0":          func(s *volume.State) { s.Snaps[2].List[0].Phys = -1 },
		"a Phys behind the data":  func(s *volume.State) { s.Snaps[3].List[0].Phys = 16 },
		"free and referred to":    func(s *volume.State) { s.Free.Spans[0].Len = 2 },
		"neither":                 func(s *volume.State) { s.Free.Spans = s.Free.Spans[1:] },
		"neither, at the end":     func(s *volume.State) { s.Free.Spans = s.Free.Spans[:3] },
		"free behind the end":     func(s *volume.State) { s.Free.Spans[3].Len++ },
		"free spans that touch":   func(s *volume.State) { s.Free.Spans = spans(1, 1, 7, 1, 9, 1, 13, 1, 14, 2) },
		"1025 free spans":         func(s *volume.State) { *s = manySpans(1025) },
		"1025 extents":            func(s *volume.State) { *s = made(2100, 1100, striped(1025, 0, 0, 1)) },
		"a free size of -1":       func(s *volume.State) { *s = made(0, 0, nil); s.Free = free.State{Size: -1} },
		"a free size of 2^16 + 1": func(s *volume.State) { *s = made(0, 65537, nil) },
		"a data sector less":      func(s *volume.State) { s.Data = s.Data[:15] },
		"a data sector more":      func(s *volume.State) { s.Data = append(s.Data, sector(16)) },
		"a free sector of none":   func(s *volume.State) { s.Data[1] = nil },
		"the last one of none":    func(s *volume.State) { s.Data[15] = nil },
		"a sector of 63":          func(s *volume.State) { s.Data[2] = s.Data[2][:63] },
		"a sector of 65":          func(s *volume.State) { s.Data[11] = append(s.Data[11], 1) },
	} {
		s := ordinary()
		change(&s)
		out[name] = s
	}
	return out
}

// manySpans has so many free spans: more than one map could part.
func manySpans(count int) volume.State {
	half := count / 2
	kept := volume.Snap{ID: 1, Name: "a", Size: 2100, List: striped(half, 0, 1, 2)}
	return made(2100, 2*count, striped(count-half, 0, 2*half+1, 2), kept)
}

// P13.1, P13.2: each call first tells volume.Check's error, whatever else it
// is given, and nothing beside it.
func TestCallsOfStatesThatMayNotBe(t *testing.T) {
	ops := append(otherOps(), writing(0, 1), writing(0, 8), writing(-1, 1), model.Op{What: write})
	for name, s := range badStates() {
		if volume.Check(s) != api.ErrState {
			t.Errorf("the test's own state may be: %s", name)
		}
		for _, n := range anySize() {
			if got, err := resize.Grow(s, n); !same(got, volume.State{}) || err != api.ErrState {
				t.Errorf("P13.1: %s: Grow to %d: %s, %d", name, n, told(got), err)
			}
		}
		if got, gone, err := resize.Truncate(s); !same(got, volume.State{}) || gone != 0 || err != api.ErrState {
			t.Errorf("P13.1: %s: Truncate: %s, %d, %d", name, told(got), gone, err)
		}
		for _, x := range ops {
			if n, err := resize.Need(s, x); n != 0 || err != api.ErrState {
				t.Errorf("P13.1: %s: Need(%s): %d, %d", name, toldOp(x), n, err)
			}
			for _, most := range []int{-1, 0, 15, 16, 17, 65536, 65537} {
				got, reply := resize.Do(s, x, most)
				if !same(got, volume.State{}) || !sameReply(reply, model.Reply{Err: api.ErrState}) {
					t.Errorf("P13.2: %s: Do(%s, %d): %s, %s", name, toldOp(x), most, told(got), toldReply(reply))
				}
			}
		}
	}
}
