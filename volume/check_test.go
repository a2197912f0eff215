package volume_test

import (
	"strings"
	"testing"

	"flagstone/api"
	"flagstone/free"
	"flagstone/model"
	"flagstone/volume"
)

// P11.1: all is a hole, and all room is free.
func TestNew(t *testing.T) {
	for _, size := range anySize() {
		for _, room := range anySize() {
			s, err := volume.New(size, room)
			if size < 0 || size > 65536 || room < 0 || room > 65536 {
				if err != api.ErrRange || !same(s, volume.State{}) {
					t.Errorf("P11.1: New(%d, %d): %s, %d; want ErrRange", size, room, told(s), err)
				}
				continue
			}
			want := volume.State{Size: size, Next: 1, Free: free.State{Size: room}, Data: make([][]byte, room)}
			for i := range want.Data {
				want.Data[i] = make([]byte, 64)
			}
			if room > 0 {
				want.Free.Spans = spans(0, room)
			}
			if err != api.OK || !same(s, want) {
				t.Errorf("P11.1: New(%d, %d): %s, %d", size, room, told(s), err)
			}
		}
	}
}

// P11.1: a new volume may be, and shows what a new model is.
func TestNewMayBe(t *testing.T) {
	for _, size := range []int{0, 1, 65535, 65536} {
		for _, room := range []int{0, 1, 65535, 65536} {
			s, _ := volume.New(size, room)
			wantCheck(t, s, api.OK)
			m, _ := model.New(size)
			wantModel(t, s, m)
			wantRead(t, s, 0, 0, size, make([]byte, 64*size), api.OK)
		}
	}
}

// striped has n extents of so many sectors, with a hole of one behind each,
// and so many data sectors that are free.
func striped(n, long, gap int) []api.Extent {
	var out []api.Extent
	for i := range n {
		out = append(out, api.Extent{Virt: i * (long + 1), Phys: i * (long + gap), Len: long})
	}
	return out
}

// P11.1: states that may be, at the edges of what the chapter names.
func TestCheckOfStatesThatMayBe(t *testing.T) {
	great := at(0, 0, 65536)
	last := volume.Snap{ID: 1, Name: "a", Size: 1, List: at(0, 2048, 1)}
	for name, s := range map[string]volume.State{
		"nothing":              {Next: 1},
		"empty lists":          {Now: at(), Snaps: []volume.Snap{}, Next: 1, Free: free.State{Spans: spans()}, Data: [][]byte{}},
		"Next 255":             {Next: 255},
		"2^16 sectors":         made(65536, 65536, great),
		"2^16 in a snapshot":   made(65536, 0, nil, volume.Snap{ID: 1, Name: "a", Size: 65536, List: great}),
		"a size, and no data":  made(0, 65536, nil),
		"data, and no size":    made(65536, 0, nil),
		"just the map's size":  made(5, 4, at(1, 2, 3)),
		"the last data sector": made(5, 4, at(3, 4, 1)),
		"all is used":          made(3, 9, at(4, 0, 3)),
		"all of it twice":      made(3, 9, at(0, 0, 3, 3, 0, 3)),
		"shared":               made(4, 4, at(0, 1, 2), volume.Snap{ID: 1, Name: "a", Size: 2, List: at(0, 1, 2)}),
		"a sector of zeros":    {Size: 1, Now: at(0, 0, 1), Next: 1, Free: free.State{Size: 1}, Data: [][]byte{make([]byte, 64)}},
		"8 snapshots":          made(9, 1, at(0, 8, 1), snapped(8)...),
		"the last ID":          made(1, 0, nil, volume.Snap{ID: 254, Name: "a"}),
		"a name of any octet":  made(1, 0, nil, volume.Snap{ID: 1, Name: "\xff\x00"}),
		"1024 extents":         made(3072, 4096, striped(1024, 3, 0)),
		"1024 free spans":      made(2048, 4096, striped(1024, 1, 1)),
		"1025 used spans":      made(2049, 4096, striped(1024, 1, 1), last),
		"ordinary":             ordinary(),
	} {
		t.Run(name, func(t *testing.T) {
			wantCheck(t, s, api.OK)
			if !plainCheck(s) {
				t.Error("the test's own plain way has something against it")
			}
		})
	}
}

// snapped has n snapshots, of which each has one data sector of its own.
func snapped(n int) []volume.Snap {
	var out []volume.Snap
	for i := range n {
		out = append(out, volume.Snap{ID: i + 1, Name: string(rune('a' + i)), Size: 1, List: at(0, i, 1)})
	}
	return out
}

// changed is an ordinary state with one thing made another.
func changed(change func(s *volume.State)) volume.State {
	s := ordinary()
	change(&s)
	return s
}

// badStates has states that may not be, each for one reason.
func badStates() map[string]volume.State {
	out := map[string]volume.State{"a state without Next": {}}
	for name, change := range map[string]func(s *volume.State){
		"Next 0":                   func(s *volume.State) { *s = made(1, 1, nil); s.Next = 0 },
		"Next -1":                  func(s *volume.State) { *s = made(1, 1, nil); s.Next = -1 },
		"Next 256":                 func(s *volume.State) { s.Next = 256 },
		"an ID as Next":            func(s *volume.State) { s.Next = 9 },
		"an ID above Next":         func(s *volume.State) { s.Next = 8 },
		"an ID 0":                  func(s *volume.State) { s.Snaps[0].ID = 0 },
		"an ID -1":                 func(s *volume.State) { s.Snaps[0].ID = -1 },
		"an ID 255, Next 256":      func(s *volume.State) { s.Snaps[3].ID, s.Next = 255, 256 },
		"IDs alike":                func(s *volume.State) { s.Snaps[0].ID = 2 },
		"IDs that fall":            func(s *volume.State) { s.Snaps[1], s.Snaps[2] = s.Snaps[2], s.Snaps[1] },
		"a name of none":           func(s *volume.State) { s.Snaps[2].Name = "" },
		"a name of 17":             func(s *volume.State) { s.Snaps[2].Name = strings.Repeat("x", 17) },
		"names alike":              func(s *volume.State) { s.Snaps[3].Name = "less" },
		"9 snapshots":              func(s *volume.State) { *s = made(9, 0, nil, snapped(9)...) },
		"a size of -1":             func(s *volume.State) { *s = made(1, 0, nil); s.Size = -1 },
		"a size of 2^16 and 1":     func(s *volume.State) { s.Size = 65537 },
		"a snapshot's of -1":       func(s *volume.State) { s.Snaps[1].Size = -1 },
		"a snapshot's of 2^16 + 1": func(s *volume.State) { s.Snaps[1].Size = 65537 },
		"a map beyond its size":    func(s *volume.State) { s.Size = 7 },
		"a snapshot's beyond":      func(s *volume.State) { s.Snaps[0].Size = 2 },
		"a snapshot's far beyond":  func(s *volume.State) { s.Snaps[2].Size = 0 },
		"an extent of none":        func(s *volume.State) { s.Now[1].Len = 0 },
		"extents that could be 1":  func(s *volume.State) { s.Snaps[0].List = at(0, 2, 1, 1, 3, 2) },
		"extents that fall":        func(s *volume.State) { s.Snaps[2].List = at(5, 8, 1, 0, 0, 1, 19, 6, 1) },
		"extents that overlap":     func(s *volume.State) { s.Snaps[0].List = at(0, 2, 2, 1, 4, 1) },
		"a Virt below 0":           func(s *volume.State) { s.Now[0].Virt = -1 },
		"a Phys below 0":           func(s *volume.State) { s.Snaps[2].List[0].Phys = -1 },
		"1025 extents":             func(s *volume.State) { *s = made(1025, 4096, striped(1025, 1, 0)) },
		"1025 of a snapshot": func(s *volume.State) {
			*s = made(1025, 0, nil, volume.Snap{ID: 1, Name: "a", Size: 4096, List: striped(1025, 1, 0)})
		},
		"1025 free spans": func(s *volume.State) {
			*s = made(2050, 4096, striped(1024, 1, 1), volume.Snap{ID: 1, Name: "a", Size: 1, List: at(0, 2048, 1)})
		},
		"free and referred to":       func(s *volume.State) { s.Free.Spans[0] = api.Span{At: 0, Len: 2} },
		"free, and a snapshot's":     func(s *volume.State) { *s = made(3, 0, nil, snapped(2)...); s.Free.Spans = spans(1, 2) },
		"neither":                    func(s *volume.State) { s.Free.Spans = s.Free.Spans[1:] },
		"neither, the last":          func(s *volume.State) { s.Free.Spans = s.Free.Spans[:len(s.Free.Spans)-1] },
		"nothing is free":            func(s *volume.State) { s.Free.Spans = nil },
		"free spans that touch":      func(s *volume.State) { *s = made(4, 1, nil); s.Free.Spans = spans(0, 2, 2, 2) },
		"free spans that fall":       func(s *volume.State) { s.Free.Spans[0], s.Free.Spans[1] = s.Free.Spans[1], s.Free.Spans[0] },
		"a free span of none":        func(s *volume.State) { s.Free.Spans = append(s.Free.Spans, api.Span{At: 12}) },
		"free behind the end":        func(s *volume.State) { s.Free.Spans[len(s.Free.Spans)-1].Len++ },
		"a free size of -1":          func(s *volume.State) { *s = made(0, 1, nil); s.Free.Size = -1 },
		"a free size of 2^16 and 1":  func(s *volume.State) { *s = made(65537, 1, nil) },
		"referred to behind the end": func(s *volume.State) { s.Snaps[1] = volume.Snap{ID: 2, Name: "x", Size: 1, List: at(0, 12, 1)} },
		"partly behind the end":      func(s *volume.State) { *s = made(3, 3, nil); s.Now, s.Free.Spans = at(0, 2, 2), spans(0, 2) },
		"wholly behind the end":      func(s *volume.State) { *s = made(3, 3, nil); s.Now = at(0, 3, 1) },
		"a data sector less":         func(s *volume.State) { s.Data = s.Data[:11] },
		"a data sector more":         func(s *volume.State) { s.Data = append(s.Data, sector(12)) },
		"no data":                    func(s *volume.State) { s.Data = nil },
		"data, and no room":          func(s *volume.State) { *s = made(0, 1, nil); s.Data = [][]byte{sector(0)} },
		"a free sector of 0":         func(s *volume.State) { s.Data[1] = nil },
		"a free sector of 63":        func(s *volume.State) { s.Data[11] = s.Data[11][:63] },
		"a sector of 65":             func(s *volume.State) { s.Data[2] = append(s.Data[2], 1) },
		"a sector of 63":             func(s *volume.State) { s.Data[9] = s.Data[9][:63] },
	} {
		out[name] = changed(change)
	}
	return out
}

// P11.1: states that may not be.
func TestCheckOfStatesThatMayNotBe(t *testing.T) {
	for name, s := range badStates() {
		t.Run(name, func(t *testing.T) { wantCheck(t, s, api.ErrState) })
	}
}

// P11.1, P11.2: each other call first tells Check's error, whatever else it is
// given, and nothing beside it.
func TestCallsOfStatesThatMayNotBe(t *testing.T) {
	for name, s := range badStates() {
		if m, err := volume.Maps(s); len(m) != 0 || err != api.ErrState {
			t.Errorf("P11.1: %s: Maps: %v, %d", name, m, err)
		}
		if m, err := volume.Model(s); !sameModel(m, model.State{}) || err != api.ErrState {
			t.Errorf("P11.1: %s: Model: %s, %d", name, toldModel(m), err)
		}
		for _, owner := range []int{0, 1, 7, -1} {
			for _, place := range []int{0, -1, 65536} {
				wantRead(t, s, owner, place, 0, nil, api.ErrState)
				wantRead(t, s, owner, place, 1, nil, api.ErrState)
			}
		}
		for what := range 10 {
			x := model.Op{What: what, N: 1, ID: 1, Name: "new", Data: octets(1)}
			wantDo(t, s, x, volume.State{}, model.Reply{Err: api.ErrState})
		}
	}
}

// P11.1: names, IDs, Next and sizes that are of any size.
func TestCheckOfAnySize(t *testing.T) {
	for _, n := range anySize() {
		hold := func(holds bool) api.Errno {
			if holds {
				return api.OK
			}
			return api.ErrState
		}
		wantCheck(t, volume.State{Next: n}, hold(n >= 1 && n <= 255))
		wantCheck(t, volume.State{Size: n, Next: 1}, hold(n >= 0 && n <= 65536))
		wantCheck(t, volume.State{Snaps: []volume.Snap{{ID: 1, Name: "a", Size: n}}, Next: 2}, hold(n >= 0 && n <= 65536))
		wantCheck(t, volume.State{Snaps: []volume.Snap{{ID: n, Name: "a"}}, Next: 255}, hold(n >= 1 && n <= 254))
		wantCheck(t, volume.State{Next: 1, Free: free.State{Size: n}}, hold(n == 0))
		for _, k := range anySize() {
			// Two that are of any size, and what their sums go round to.
			for _, x := range []api.Extent{{Virt: n, Phys: 0, Len: k}, {Virt: 0, Phys: n, Len: k}, {Virt: n, Phys: k, Len: 1}} {
				s := made(2, 2, nil)
				s.Now, s.Free.Spans = []api.Extent{x}, spans(1, 1)
				wantCheck(t, s, hold(plainCheck(s)))
				s = made(2, 2, nil)
				s.Snaps, s.Next, s.Free.Spans = []volume.Snap{{ID: 1, Name: "a", Size: 2, List: []api.Extent{x}}}, 2, nil
				wantCheck(t, s, hold(plainCheck(s)))
			}
		}
	}
}

// smallExtents has all extents of three sectors, and such as may not be.
func smallExtents() []api.Extent {
	var out []api.Extent
	for virt := -1; virt <= 3; virt++ {
		for phys := -1; phys <= 3; phys++ {
			for n := range 4 {
				out = append(out, api.Extent{Virt: virt, Phys: phys, Len: n})
			}
		}
	}
	return out
}

// P11.1: all maps of at most two small extents, as the disk's, as a
// snapshot's, and one for each, over all that may be free of three sectors.
func TestCheckOfSmallStates(t *testing.T) {
	maps := [][]api.Extent{nil}
	for _, x := range smallExtents() {
		maps = append(maps, []api.Extent{x})
		for _, y := range smallExtents() {
			maps = append(maps, []api.Extent{x, y})
		}
	}
	s := made(3, 0, nil, volume.Snap{ID: 1, Name: "a"})
	mayBe := 0
	want := func() {
		t.Helper()
		if plainCheck(s) {
			mayBe++
			wantCheck(t, s, api.OK)
		} else {
			wantCheck(t, s, api.ErrState)
		}
	}
	for some := range 8 {
		s.Free.Spans = runs([]bool{some&1 != 0, some&2 != 0, some&4 != 0})
		for size := range 4 {
			for _, l := range maps {
				s.Size, s.Now, s.Snaps[0] = size, l, volume.Snap{ID: 1, Name: "a"}
				want()
				s.Size, s.Now, s.Snaps[0] = 0, nil, volume.Snap{ID: 1, Name: "a", Size: size, List: l}
				want()
				if len(l) == 2 {
					s.Size, s.Now, s.Snaps[0] = size, l[:1], volume.Snap{ID: 1, Name: "a", Size: 3 - size, List: l[1:]}
					want()
				}
			}
		}
	}
	if mayBe < 100 {
		t.Errorf("the test's own states: only %d may be", mayBe)
	}
}
