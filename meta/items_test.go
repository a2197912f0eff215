package meta_test

import (
	"strings"
	"testing"

	"flagstone/api"
	"flagstone/free"
	"flagstone/meta"
	"flagstone/model"
	"flagstone/volume"
)

// The chapter's example: a new volume is one item.
func TestExample(t *testing.T) {
	for _, room := range []int{0, 1, 9} {
		s, _ := volume.New(7, room)
		wantItems(t, s, []api.Item{item("04 000000 00000000", "00000007 00000001")})
		wantWhole(t, s)
	}
}

// P14.1: each kind of item, with its key and its value, of several owners and
// shared sectors, told digit by digit.
func TestItemsOfAnOrdinaryVolume(t *testing.T) {
	wantItems(t, ordinary(), []api.Item{
		item("01 000000 00000000", "00000002 00000002"),
		item("01 000000 00000003", "00000004 00000001"),
		item("01 000000 00000006", "0000000a 00000002"),
		item("01 000001 00000000", "00000002 00000003"),
		item("01 000004 00000000", "00000000 00000001"),
		item("01 000004 00000005", "00000008 00000001"),
		item("01 000004 00000007", "00000008 00000001"),
		item("01 000004 00000012", "00000005 00000002"),
		item("01 000009 00000001", "0000000c 00000001"),
		item("02 000000 004 00000", "01"),
		item("02 000002 000 00000", "02"),
		item("02 000002 001 00000", "03"),
		item("02 000004 000 00003", "01"),
		item("02 000005 004 00012", "02"),
		item("02 000008 004 00005", "01"),
		item("02 000008 004 00007", "01"),
		item("02 00000a 000 00006", "02"),
		item("02 00000c 009 00001", "01"),
		item("03 000000000001 00", "00000000 7373656c"),
		item("03 000000000001 01", "0"),
		item("03 000000000001 02", "0000000003 04"),
		item("03 000000000002 00", "00000000 656e6f6e"),
		item("03 000000000002 01", "0"),
		item("03 000000000002 02", "0000000000 04"),
		item("03 000000000004 00", "37363534 33323130"),
		item("03 000000000004 01", "66656463 62613938"),
		item("03 000000000004 02", "0000000014 10"),
		item("03 000000000009 00", "0"),
		item("03 000000000009 01", "0"),
		item("03 000000000009 02", "0000000008 01"),
		item("04 000000 00000000", "00000008 0000000a"),
	})
	wantWhole(t, ordinary())
}

// P14.1: numbers that are as great as they may be.
func TestItemsOfTheGreatest(t *testing.T) {
	s := made(65536, 65536, at(0, 1, 65535), volume.Snap{ID: 254, Name: "\xff\xfe", Size: 65536, List: at(65535, 65535, 1)})
	wantItems(t, s, []api.Item{
		item("01 000000 00000000", "00000001 0000ffff"),
		item("01 0000fe 0000ffff", "0000ffff 00000001"),
		item("02 000001 000 00000", "ffff"),
		item("02 00ffff 0fe 0ffff", "01"),
		item("03 0000000000fe 00", "feff"),
		item("03 0000000000fe 01", "0"),
		item("03 0000000000fe 02", "0000010000 02"),
		item("04 000000 00000000", "00010000 000000ff"),
	})
	wantWhole(t, s)
	wantWhole(t, made(65536, 65536, at(0, 0, 65536)))
}

// P14.1, P14.3: names of each length, with octets of any kind and zeros at
// their ends.
func TestNames(t *testing.T) {
	for _, x := range []struct{ name, first, next, count string }{
		{"a", "0000000000000061", "0", "01"},
		{"abcdefg", "0067666564636261", "0", "07"},
		{"abcdefgh", "6867666564636261", "0", "08"},
		{"abcdefghi", "6867666564636261", "0000000000000069", "09"},
		{"abcdefghijklmnop", "6867666564636261", "706f6e6d6c6b6a69", "10"},
		{"\x00\x00", "0", "0", "02"},
		{"\x00a\x00", "6100", "0", "03"},
		{strings.Repeat("\x00", 8), "0", "0", "08"},
		{strings.Repeat("\x00", 16), "0", "0", "10"},
		{strings.Repeat("\xff", 16), "ffffffffffffffff", "ffffffffffffffff", "10"},
		{"\xff", "ff", "0", "01"},
		{"ünïcode", "646f 63af c36e bcc3", "65", "09"}, // octets, whatever they spell
	} {
		s := made(3, 0, nil, volume.Snap{ID: 7, Name: x.name, Size: 1})
		wantItems(t, s, []api.Item{
			item("03 000000000007 00", x.first), item("03 000000000007 01", x.next), item("03 000000000007 02", "0000000001"+x.count),
			item("04 000000 00000000", "00000003 00000008"),
		})
		wantWhole(t, s)
	}
	for n := 1; n <= 16; n++ {
		wantWhole(t, made(3, 0, nil, volume.Snap{ID: 1, Name: strings.Repeat("\x00", n)}, volume.Snap{ID: 2, Name: "\x80123456789abcdef"[:n]}))
	}
}

// volumesThatMayBe has such at the edges of what may be.
func volumesThatMayBe() map[string]volume.State {
	eight := made(9, 8, at(0, 0, 8))
	for id := range 8 {
		list := at(0, id, 8-id)
		eight.Snaps = append(eight.Snaps, volume.Snap{ID: 3*id + 2, Name: string(rune('a' + id)), Size: 8, List: list})
	}
	eight.Next = 255
	allOfIt := made(2100, 1024, striped(1024, 0, 0, 1))
	for id := range 8 {
		list := striped(1024, 1, 0, 1)
		allOfIt.Snaps = append(allOfIt.Snaps, volume.Snap{ID: id + 1, Name: string(rune('a' + id)), Size: 2100, List: list})
	}
	allOfIt.Next = 9
	return map[string]volume.State{
		"nothing":           {Next: 1},
		"nothing, Next 255": {Next: 255},
		"empty lists":       {Now: at(), Snaps: []volume.Snap{}, Next: 1, Free: free.State{Spans: spans()}, Data: [][]byte{}},
		"a size, no data":   made(65536, 0, nil),
		"data, no size":     made(0, 300, nil),
		"a sector":          made(1, 1, at(0, 0, 1)),
		"all of it twice":   made(6, 3, at(0, 0, 3, 3, 0, 3)),
		"eight snapshots":   eight,
		"1024 extents each": allOfIt,
		"1024 free spans":   fenced(1024),
		"1023 free spans":   fenced(1023),
		"ordinary":          ordinary(),
	}
}

// P14.1, P14.3.
func TestVolumesThatMayBe(t *testing.T) {
	for name, s := range volumesThatMayBe() {
		t.Run(name, func(t *testing.T) { wantWhole(t, s) })
	}
}

// P14.1, P14.3: an op's data sectors, snapshot and hole, by volume.Do.
func TestItemsBehindOps(t *testing.T) {
	s, _ := volume.New(4, 8)
	for _, x := range []model.Op{
		{What: 1, At: 1, Data: octets(1, 2)}, {What: 4, Name: "one"}, {What: 1, At: 2, Data: octets(3)}, {What: 3, At: 1, N: 1},
	} {
		var reply model.Reply
		if s, reply = volume.Do(s, x); reply.Err != api.OK {
			t.Fatal(reply.Err)
		}
	}
	wantItems(t, s, []api.Item{
		item("01 000000 00000002", "00000002 00000001"),
		item("01 000001 00000001", "00000000 00000002"),
		item("02 000000 001 00001", "02"),
		item("02 000002 000 00002", "01"),
		item("03 000000000001 00", "656e6f"),
		item("03 000000000001 01", "0"),
		item("03 000000000001 02", "0000000004 03"),
		item("04 000000 00000000", "00000004 00000002"),
	})
	wantWhole(t, s)
}

// badStates has states that may not be, each for one reason.
func badStates() map[string]volume.State {
	out := map[string]volume.State{"a state without Next": {}}
	for name, change := range map[string]func(s *volume.State){
		"Next 0":         func(s *volume.State) { *s = made(1, 1, nil); s.Next = 0 },
		"Next -1":        func(s *volume.State) { *s = made(1, 1, nil); s.Next = -1 },
		"Next 256":       func(s *volume.State) { s.Next = 256 },
		"an ID as Next":  func(s *volume.State) { s.Next = 9 },
		"an ID 0":        func(s *volume.State) { s.Snaps[0].ID = 0 },
		"IDs alike":      func(s *volume.State) { s.Snaps[0].ID = 2 },
		"IDs that fall":  func(s *volume.State) { s.Snaps[1], s.Snaps[2] = s.Snaps[2], s.Snaps[1] },
		"names alike":    func(s *volume.State) { s.Snaps[3].Name = "none" },
		"a name of none": func(s *volume.State) { s.Snaps[2].Name = "" },
		"a name of 17":   func(s *volume.State) { s.Snaps[2].Name += "x" },
		"9 snapshots": func(s *volume.State) {
			*s = volumesThatMayBe()["eight snapshots"]
			s.Snaps = append(s.Snaps, volume.Snap{ID: 254, Name: "x"})
		},
		"a size of -1":            func(s *volume.State) { s.Snaps[1].Size = -1 },
		"a disk of -1":            func(s *volume.State) { *s = made(1, 0, nil); s.Size = -1 },
		"a disk of 2^16 and 1":    func(s *volume.State) { s.Size = 65537 },
		"a map beyond its size":   func(s *volume.State) { s.Size = 7 },
		"a snapshot's beyond":     func(s *volume.State) { s.Snaps[2].Size = 19 },
		"an extent of none":       func(s *volume.State) { s.Now[1].Len = 0 },
		"extents that fall":       func(s *volume.State) { s.Now[1], s.Now[2] = s.Now[2], s.Now[1] },
		"extents that could be 1": func(s *volume.State) { s.Snaps[0].List = at(0, 2, 1, 1, 3, 2) },
		"a Virt below 0":          func(s *volume.State) { s.Now[0].Virt = -1 },
		"a Phys below 0":          func(s *volume.State) { s.Snaps[2].List[0].Phys = -1 },
		"a Phys behind the data":  func(s *volume.State) { s.Snaps[3].List[0].Phys = 16 },
		"1025 extents":            func(s *volume.State) { *s = made(2100, 1100, striped(1025, 0, 0, 1)) },
		"1025 free spans":         func(s *volume.State) { *s = fenced(1025) },
		"free and referred to":    func(s *volume.State) { s.Free.Spans[0].Len = 2 },
		"neither":                 func(s *volume.State) { s.Free.Spans = s.Free.Spans[1:] },
		"neither, at the end":     func(s *volume.State) { s.Free.Spans = s.Free.Spans[:3] },
		"free behind the end":     func(s *volume.State) { s.Free.Spans[3].Len++ },
		"free spans that touch":   func(s *volume.State) { s.Free.Spans = spans(1, 1, 7, 1, 9, 1, 13, 1, 14, 2) },
		"a free size of -1":       func(s *volume.State) { *s = made(0, 0, nil); s.Free = free.State{Size: -1} },
		"a free size of 2^16 + 1": func(s *volume.State) { *s = made(0, 65537, nil) },
		"a data sector less":      func(s *volume.State) { s.Data = s.Data[:15] },
		"a data sector more":      func(s *volume.State) { s.Data = append(s.Data, sector(16)) },
		"a free sector of none":   func(s *volume.State) { s.Data[1] = nil },
		"a sector of 63":          func(s *volume.State) { s.Data[2] = s.Data[2][:63] },
		"a sector of 65":          func(s *volume.State) { s.Data[11] = append(s.Data[11], 1) },
	} {
		s := ordinary()
		change(&s)
		out[name] = s
	}
	return out
}

// P14.1: volume.Check's error, and nothing beside it.
func TestItemsOfStatesThatMayNotBe(t *testing.T) {
	for name, s := range badStates() {
		if volume.Check(s) != api.ErrState {
			t.Errorf("the test's own state may be: %s", name)
		}
		if l, err := meta.Items(s); len(l) != 0 || err != api.ErrState {
			t.Errorf("P14.1: %s: Items: %s, %d; want ErrState", name, toldItems(l), err)
		}
	}
}
