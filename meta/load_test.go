package meta_test

import (
	"bytes"
	"slices"
	"testing"

	"flagstone/api"
	"flagstone/meta"
	"flagstone/volume"
)

// P14.1: keys that do not rise are ErrOrder, ahead of all else.
func TestLoadOutOfOrder(t *testing.T) {
	whole := itemsOf(ordinary())
	for i := range len(whole) - 1 {
		alike := slices.Clone(whole)
		alike[i+1].Key = alike[i].Key
		wantLoad(t, "two alike", alike, ordinary().Data, api.ErrOrder)
		turned := slices.Clone(whole)
		turned[i], turned[i+1] = turned[i+1], turned[i]
		wantLoad(t, "one below another", turned, ordinary().Data, api.ErrOrder)
		twice := slices.Insert(slices.Clone(whole), i, whole[i])
		wantLoad(t, "the same twice", twice, ordinary().Data, api.ErrOrder)
	}
	for _, l := range [][]api.Item{
		{{Key: 0}, {Key: 0}}, {{Key: 1}, {Key: 0}}, {{Key: most}, {Key: most}}, {{Key: most}, {Key: 0}}, {{Key: 1 << 63}, {Key: 1<<63 - 1}},
		{{Key: 5 << 56}, {Key: 4 << 56}}, {{Key: 4 << 56, Value: 1}, {Key: 4 << 56, Value: 1}}, {{Key: 1}, {Key: 2}, {Key: 3}, {Key: 3}},
	} {
		for _, data := range [][][]byte{nil, {nil}, {octets(1)}, make([][]byte, 65537)} {
			wantLoad(t, "small lists", l, data, api.ErrOrder)
		}
	}
}

// itemsOf is the plain way's items, in memory of their own.
func itemsOf(s volume.State) []api.Item {
	return slices.Clone(plainItems(s))
}

// P14.1: no items, and items that are no volume's.
func TestLoadOfNoVolume(t *testing.T) {
	for name, l := range map[string][]api.Item{
		"none":              nil,
		"none, a list":      {},
		"a key 0":           {{}},
		"a kind 0":          {{Key: 1}, item("04 000000 00000000", "00000008 00000001")},
		"a kind 5":          {item("04 000000 00000000", "00000008 00000001"), {Key: 5 << 56}},
		"the last kind":     {item("04 000000 00000000", "00000008 00000001"), {Key: most}},
		"the volume twice":  {item("04 000000 00000000", "00000008 00000001"), item("04 000000 00000001", "00000008 00000001")},
		"a volume's key":    {item("04 000000 00000001", "00000008 00000001")},
		"a volume's owner":  {item("04 000001 00000000", "00000008 00000001")},
		"Next 0":            {item("04 000000 00000000", "00000008 00000000")},
		"Next 256":          {item("04 000000 00000000", "00000008 00000100")},
		"a great Next":      {item("04 000000 00000000", "00000008 ffffffff")},
		"a great size":      {item("04 000000 00000000", "00010001 00000001")},
		"the greatest size": {item("04 000000 00000000", "ffffffff 00000001")},
	} {
		wantLoad(t, name, l, nil, api.ErrCorrupt)
		wantLoad(t, name, l, [][]byte{octets(1)}, api.ErrCorrupt)
	}
}

// kept is an ordinary volume's items but for what change makes of them.
func kept(change func(m map[uint64]uint64)) []api.Item {
	m := map[uint64]uint64{}
	for _, x := range itemsOf(ordinary()) {
		m[x.Key] = x.Value
	}
	change(m)
	var out []api.Item
	for key, value := range m {
		out = append(out, api.Item{Key: key, Value: value})
	}
	slices.SortFunc(out, byKey)
	return out
}

// P14.1: numbers that are too great for what they stand for, and such that
// are none.
func TestLoadOfNumbersThatMayNotBe(t *testing.T) {
	put := func(key, value string) func(m map[uint64]uint64) {
		return func(m map[uint64]uint64) {
			x := item(key, value)
			m[x.Key] = x.Value
		}
	}
	for name, change := range map[string]func(m map[uint64]uint64){
		"a Virt behind the disk":        put("01 000000 00000008", "00000001 00000001"),
		"the greatest Virt":             put("01 000000 ffffffff", "00000001 00000001"),
		"an owner that is none":         put("01 000003 00000000", "00000001 00000001"),
		"an owner as Next":              put("01 00000a 00000000", "00000001 00000001"),
		"an owner 256":                  put("01 000100 00000000", "00000001 00000001"),
		"the greatest owner":            put("01 ffffff 00000000", "00000001 00000001"),
		"a Phys behind the data":        put("01 000009 00000001", "00000010 00000001"),
		"a Phys of 2^16":                put("01 000009 00000001", "00010000 00000001"),
		"the greatest Phys":             put("01 000009 00000001", "ffffffff 00000001"),
		"a Len of none":                 put("01 000009 00000001", "0000000c 00000000"),
		"a Len behind the disk":         put("01 000009 00000001", "0000000c 00000008"),
		"the greatest Len":              put("01 000009 00000001", "0000000c ffffffff"),
		"the greatest numbers":          put("01 ffffff ffffffff", "ffffffff ffffffff"),
		"a reference too many":          put("02 000001 000 00000", "01"),
		"a reference's Phys":            put("02 ffffff 000 00000", "01"),
		"a reference's owner":           put("02 00000c 00a 00001", "01"),
		"a reference's greatest":        put("02 ffffff fff fffff", "ffffffff ffffffff"),
		"a reference of another Len":    put("02 00000c 009 00001", "02"),
		"a reference of no Len":         put("02 00000c 009 00001", "00"),
		"a reference of a great Len":    put("02 00000c 009 00001", "1 00000001"),
		"a snapshot of ID 0":            put("03 000000000000 02", "0000000000 01"),
		"a snapshot's fourth part":      put("03 000000000001 03", "00"),
		"a snapshot's last part":        put("03 000000000001 ff", "00"),
		"a snapshot of ID 256":          put("03 000000000100 00", "61"),
		"a snapshot of ID 257":          put("03 000000000101 02", "0000000003 04"),
		"the greatest ID":               put("03 ffffffffffff 02", "0000000003 04"),
		"a name of no octets":           put("03 000000000001 02", "0000000003 00"),
		"a name of fewer octets":        put("03 000000000001 02", "0000000003 03"),
		"a name of 17 octets":           put("03 000000000004 02", "0000000014 11"),
		"a name of 32 octets":           put("03 000000000004 02", "0000000014 20"),
		"a name of 255 octets":          put("03 000000000004 02", "0000000014 ff"),
		"a name as another's":           put("03 000000000001 00", "656e6f6e"),
		"octets behind a name":          put("03 000000000001 00", "ff000000 7373656c"),
		"octets far behind a name":      put("03 000000000001 01", "1"),
		"a snapshot's size of 2^16 + 1": put("03 000000000004 02", "0000010001 10"),
		"a snapshot's size too small":   put("03 000000000004 02", "0000000013 10"),
		"a snapshot's size of 2^32":     put("03 000000000002 02", "0100000000 04"),
		"a snapshot's greatest size":    put("03 000000000002 02", "ffffffffffffff 04"),
		"Next as an ID":                 put("04 000000 00000000", "00000008 00000009"),
		"a Next of 256":                 put("04 000000 00000000", "00000008 00000100"),
		"a Next of 2^32 less":           put("04 000000 00000000", "00000009 00000000"),
		"a size too small":              put("04 000000 00000000", "00000007 0000000a"),
		"a size of 2^16 + 1":            put("04 000000 00000000", "00010001 0000000a"),
		"the greatest size":             put("04 000000 00000000", "ffffffff 0000000a"),
		"a volume more":                 put("04 000000 00000001", "00000008 0000000a"),
		"a volume more, ahead":          put("03 ffffffffffff ff", "00000008 0000000a"),
		"a kind 0":                      put("00 000000 00000000", "0"),
		"a kind 5":                      put("05 000000 00000000", "0"),
		"the greatest key":              put("ffffffffffffffff", "ffffffffffffffff"),
		"extents that could be one": func(m map[uint64]uint64) {
			put("01 000000 00000000", "00000002 00000001")(m)
			put("01 000000 00000001", "00000003 00000001")(m)
		},
		"extents that overlap": func(m map[uint64]uint64) {
			put("01 000009 00000002", "0000000c 00000001")(m)
			put("01 000009 00000001", "0000000a 00000002")(m)
		},
		"an ID with all that hangs on it": func(m map[uint64]uint64) {
			put("03 0000000000ff 00", "7a")(m)
			put("03 0000000000ff 01", "0")(m)
			put("03 0000000000ff 02", "0000000000 01")(m)
			put("04 000000 00000000", "00000008 00000100")(m)
		},
	} {
		wantLoad(t, name, kept(change), ordinary().Data, api.ErrCorrupt)
	}
}

// P14.1: items that are a volume's again, though another one's.
func TestLoadOfOtherVolumes(t *testing.T) {
	for name, l := range map[string][]api.Item{
		"as it was":          kept(func(m map[uint64]uint64) {}),
		"a greater Next":     kept(func(m map[uint64]uint64) { m[hex("0400000000000000")]++ }),
		"the greatest Next":  kept(func(m map[uint64]uint64) { m[hex("0400000000000000")] = hex("00000008000000ff") }),
		"a greater disk":     kept(func(m map[uint64]uint64) { m[hex("0400000000000000")] = hex("000100000000000a") }),
		"another name":       kept(func(m map[uint64]uint64) { m[hex("0300000000000100")]++ }),
		"a name of zeros":    kept(func(m map[uint64]uint64) { m[hex("0300000000000200")] = 0 }),
		"a longer name":      kept(func(m map[uint64]uint64) { m[hex("0300000000000902")]++ }),
		"a greater snapshot": kept(func(m map[uint64]uint64) { m[hex("0300000000000902")] += 256 }),
		"a hole less": kept(func(m map[uint64]uint64) {
			m[hex("0100000900000001")]++
			m[hex("0200000c00900001")]++
		}),
		"a snapshot less": kept(func(m map[uint64]uint64) {
			for _, key := range []string{"0100000900000001", "0200000c00900001", "0300000000000900", "0300000000000901", "0300000000000902"} {
				delete(m, hex(key))
			}
		}),
	} {
		wantLoad(t, name, l, ordinary().Data, api.OK)
	}
}

// P14.1: each item left out, each changed in its key or its value by each bit,
// and one more ahead of and behind each.
func TestLoadOfItemsThatAreOthers(t *testing.T) {
	for _, s := range []volume.State{ordinary(), made(3, 1, at(1, 0, 1)), made(2, 0, nil)} {
		whole := itemsOf(s)
		taken := 0
		try := func(what string, l []api.Item) {
			t.Helper()
			_, err := plainLoad(l, s.Data)
			wantLoad(t, what, l, s.Data, err)
			if err == api.OK {
				taken++
			}
		}
		for i := range whole {
			without := slices.Delete(slices.Clone(whole), i, i+1)
			wantLoad(t, "an item left out", without, s.Data, api.ErrCorrupt)
			for bit := range 64 {
				other := slices.Clone(whole)
				other[i].Value ^= 1 << bit
				try("another value", other)
				other[i] = whole[i]
				other[i].Key ^= 1 << bit
				try("another key", other)
				for _, value := range []uint64{whole[i].Value, 0, 1} {
					more := append(slices.Clone(whole), api.Item{Key: whole[i].Key ^ 1<<bit, Value: value})
					slices.SortFunc(more, byKey)
					try("an item more", more)
				}
			}
		}
		if taken == 0 {
			t.Error("the test's own items are none of them another volume's")
		}
	}
}

// P14.1: data that are fewer, more, none, and of other lengths.
func TestLoadOfOtherData(t *testing.T) {
	s := ordinary()
	l := itemsOf(s)
	for n := range 17 {
		want := api.OK
		if n < 13 {
			want = api.ErrCorrupt // the last one that is referred to is 12
		}
		wantLoad(t, "fewer sectors", l, s.Data[:n], want)
	}
	wantLoad(t, "no sectors", l, nil, api.ErrCorrupt)
	for _, n := range []int{17, 64, 1000, 65535, 65536} {
		wantLoad(t, "more sectors", l, made(0, n, nil).Data, api.OK)
	}
	for _, n := range []int{65537, 65600, 1 << 17} {
		wantLoad(t, "too many sectors", l, made(0, n, nil).Data, api.ErrCorrupt)
	}
	for place := range s.Data {
		for _, b := range [][]byte{nil, {}, {1}, make([]byte, 63), make([]byte, 65), make([]byte, 128)} {
			data := slices.Clone(s.Data)
			data[place] = b
			wantLoad(t, "a sector of another length", l, data, api.ErrCorrupt)
		}
		data := slices.Clone(s.Data)
		data[place] = octets(7)
		wantLoad(t, "other octets", l, data, api.OK)
	}
	none := itemsOf(made(5, 0, nil))
	wantLoad(t, "no data", none, nil, api.OK)
	wantLoad(t, "no data, a list", none, [][]byte{}, api.OK)
	wantLoad(t, "a sector of none", none, [][]byte{nil}, api.ErrCorrupt)
	wantLoad(t, "too many sectors", none, make([][]byte, 65537), api.ErrCorrupt)
}

// P14.1: free spans, as many as may be, and one more where there is a data
// sector more.
func TestLoadOfManyFreeSpans(t *testing.T) {
	for _, count := range []int{2, 3, 1022, 1023, 1024} {
		s := fenced(count)
		l := wantWhole(t, s)
		want := api.OK
		if count == 1024 {
			want = api.ErrCorrupt
		}
		wantLoad(t, "a free sector more", l, append(s.Data, octets(1)), want)
		wantLoad(t, "free sectors more", l, append(s.Data, octets(1), octets(2)), want)
		wantLoad(t, "the last one less", l, s.Data[:len(s.Data)-1], api.ErrCorrupt)
	}
	wantLoad(t, "1025 free spans", plainItems(fenced(1025)), fenced(1025).Data, api.ErrCorrupt)
	wantLoad(t, "1500 free spans", plainItems(fenced(1500)), fenced(1500).Data, api.ErrCorrupt)
}

// P14.1: maps of as many extents as may be, of one more, and of many more.
func TestLoadOfManyExtents(t *testing.T) {
	for count, want := range map[int]api.Errno{1023: api.OK, 1024: api.OK, 1025: api.ErrCorrupt, 20000: api.ErrCorrupt} {
		s := made(2*count, count, striped(count, 0, 0, 1))
		wantLoad(t, "the disk's", plainItems(s), s.Data, want)
		s = made(1, count, nil, volume.Snap{ID: 3, Name: "a", Size: 2 * count, List: striped(count, 0, 0, 1)})
		wantLoad(t, "a snapshot's", plainItems(s), s.Data, want)
	}
}

// P14.1: snapshots, as many as may be, one more, and one of each ID.
func TestLoadOfManySnapshots(t *testing.T) {
	for count, want := range map[int]api.Errno{7: api.OK, 8: api.OK, 9: api.ErrCorrupt, 254: api.ErrCorrupt} {
		s := made(1, 1, at(0, 0, 1))
		for id := range count {
			s.Snaps = append(s.Snaps, volume.Snap{ID: id + 1, Name: string([]byte{1, byte(id)}), Size: 1, List: at(0, 0, 1)})
		}
		s.Next = 255
		wantLoad(t, "snapshots", plainItems(s), s.Data, want)
	}
}

// P14.3: each volume that may be, of up to two sectors over up to two data
// sectors, with up to one snapshot, is another list of items; and of these
// lists, with items of others among them, just they are taken.
func TestEverySmallVolume(t *testing.T) {
	all := map[string]volume.State{}
	known := map[api.Item]int{}
	for s := range smallVolumes() {
		if volume.Check(s) != api.OK {
			continue
		}
		l := wantWhole(t, s)
		key := toldItems(l)
		if _, twice := all[key]; twice {
			t.Errorf("P14.3: two volumes have the items %s", key)
		}
		all[key] = s
		for _, x := range l {
			known[x]++
		}
	}
	if len(all) < 200 || len(known) < 20 {
		t.Fatalf("the test's own volumes: %d, of %d items", len(all), len(known))
	}
	data := [][]byte{octets(1), octets(2)}
	taken := 0
	for _, s := range all {
		l := plainItems(s)
		for x := range known {
			for i := range l {
				other := slices.Clone(l)
				other[i] = x
				for _, try := range [][]api.Item{other, slices.Insert(slices.Clone(l), i, x)} {
					slices.SortFunc(try, byKey)
					if alike(try) {
						continue
					}
					got, err := meta.Load(try, data)
					want, is := all[toldItems(try)]
					want.Data = data
					if is != (err == api.OK) || is && !same(got, want) || !is && (err != api.ErrCorrupt || !same(got, volume.State{})) {
						t.Fatalf("P14.1: Load(%s): %s, %d; want one: %v, %s", toldItems(try), told(got), err, is, told(want))
					}
					if is {
						taken++
					}
				}
			}
		}
	}
	if taken == 0 {
		t.Error("the test's own lists are none of them another volume's")
	}
}

func alike(l []api.Item) bool {
	for i := range l {
		if i > 0 && l[i].Key == l[i-1].Key {
			return true
		}
	}
	return false
}

// smallVolumes has all of two data sectors, such among them that may not be.
func smallVolumes() func(yield func(s volume.State) bool) {
	maps := [][]api.Extent{nil}
	for virt := range 2 {
		for phys := range 2 {
			for n := 1; n <= 2; n++ {
				maps = append(maps, at(virt, phys, n))
			}
			maps = append(maps, at(0, phys, 1, 1, virt, 1))
		}
	}
	snaps := [][]volume.Snap{nil}
	for _, list := range maps {
		for id := 1; id <= 2; id++ {
			snaps = append(snaps, []volume.Snap{{ID: id, Name: "ab"[:id], Size: 2, List: list}})
		}
	}
	return func(yield func(s volume.State) bool) {
		for numbers := range 3 * 3 * len(maps) * len(snaps) {
			size, next := numbers%3, numbers/3%3+1
			s := made(size, 2, maps[numbers/9%len(maps)], snaps[numbers/9/len(maps)]...)
			s.Next, s.Data = next, [][]byte{octets(1), octets(2)}
			if !yield(s) {
				return
			}
		}
	}
}

// P14.3: Load hands back the very octets, in their places.
func TestLoadHasTheData(t *testing.T) {
	s := ordinary()
	got, err := meta.Load(itemsOf(s), s.Data)
	if err != api.OK || len(got.Data) != 16 {
		t.Fatalf("P14.3: Load: %s, %d", told(got), err)
	}
	for place, b := range got.Data {
		if !bytes.Equal(b, sector(place)) {
			t.Errorf("P14.3: sector %d is % x", place, b)
		}
	}
}
