package model_test

import (
	"strings"
	"testing"

	"flagstone/api"
	"flagstone/model"
)

// P10.1: a disk of so many sectors that are none, no snapshots, and Next 1.
func TestNew(t *testing.T) {
	for _, size := range anySize() {
		s, err := model.New(size)
		if size < 0 || size > 65536 {
			if err != api.ErrRange || !same(s, model.State{}) {
				t.Errorf("P10.1: New(%d): %s, %d; want ErrRange", size, told(s), err)
			}
			continue
		}
		if err != api.OK || !same(s, model.State{Now: zeros(size), Next: 1}) {
			t.Errorf("P10.1: New(%d): %s, %d", size, told(s), err)
		}
		wantCheck(t, s, api.OK)
	}
}

// P10.1, P10.3: what is read of a new disk is zeros.
func TestNewReadsAsZeros(t *testing.T) {
	s, _ := model.New(65536)
	wantDo(t, s, model.Op{What: read, At: 65472, N: 64}, s, model.Reply{Data: make([]byte, 4096), Size: 65536})
}

// P10.1: states that may be, at the edges of what the chapter names.
func TestCheckOfStatesThatMayBe(t *testing.T) {
	great := zeros(65536)
	great[0], great[65535] = one(0), one(63)
	for name, s := range map[string]model.State{
		"no sectors":         {Next: 1},
		"empty lists":        {Now: [][]byte{}, Snaps: []model.Snap{}, Next: 1},
		"Next 255":           {Next: 255},
		"Next 254":           {Next: 254},
		"none and empty":     {Now: [][]byte{nil, {}, nil}, Next: 1},
		"64 octets":          {Now: disk(1, 255), Next: 1},
		"the first is not 0": {Now: [][]byte{one(0)}, Next: 1},
		"the last is not 0":  {Now: [][]byte{one(63)}, Next: 1},
		"2^16 sectors":       {Now: great, Next: 1},
		"2^16 in a snapshot": {Snaps: []model.Snap{{ID: 1, Name: "a", Disk: great}}, Next: 2},
		"8 snapshots":        {Snaps: snapped(8, disk(1, 0)), Next: 9},
		"7 snapshots":        {Snaps: snapped(7, nil), Next: 8},
		"the first ID":       {Snaps: []model.Snap{{ID: 1, Name: "a"}}, Next: 255},
		"the last ID":        {Snaps: []model.Snap{{ID: 254, Name: "a"}}, Next: 255},
		"IDs left out":       {Snaps: []model.Snap{{ID: 3, Name: "a"}, {ID: 200, Name: "b"}}, Next: 220},
		"names of 1 and 16":  {Snaps: []model.Snap{{ID: 1, Name: "a"}, {ID: 2, Name: strings.Repeat("a", 16)}}, Next: 3},
		"names of any octet": {Snaps: []model.Snap{{ID: 1, Name: "\x00"}, {ID: 2, Name: "\xff\xfe"}, {ID: 3, Name: "\n"}}, Next: 4},
		"names nearly alike": {Snaps: []model.Snap{{ID: 1, Name: "a"}, {ID: 2, Name: "A"}, {ID: 3, Name: "a "}}, Next: 4},
		"one disk twice":     {Now: disk(5), Snaps: snapped(2, disk(5)), Next: 3},
		"ordinary":           ordinary(),
	} {
		t.Run(name, func(t *testing.T) { wantCheck(t, s, api.OK) })
	}
}

// badDisks has disks that may not be, each for one reason.
func badDisks() map[string][][]byte {
	last := zeros(65536)
	last[65535] = make([]byte, 64)
	return map[string][][]byte{
		"2^16 and 1 sectors":  zeros(65537),
		"2^17 sectors":        zeros(131072),
		"1 octet":             {full(1, 1)},
		"63 octets":           {full(63, 1)},
		"65 octets":           {full(65, 1)},
		"128 octets":          {full(128, 1)},
		"64 zeros":            {make([]byte, 64)},
		"1 zero":              {make([]byte, 1)},
		"one behind others":   {full(64, 1), nil, full(63, 1)},
		"one ahead of others": {full(65, 1), nil, full(64, 1)},
		"zeros among others":  {full(64, 1), make([]byte, 64), full(64, 1)},
		"zeros at the end":    last,
	}
}

// P10.1: a disk that may not be, as the disk or as a snapshot's.
func TestCheckOfDisksThatMayNotBe(t *testing.T) {
	for name, bad := range badDisks() {
		t.Run(name, func(t *testing.T) {
			wantCheck(t, model.State{Now: bad, Next: 1}, api.ErrState)
			for i := range 8 {
				s := model.State{Now: disk(1), Snaps: snapped(8, disk(1, 0)), Next: 9}
				s.Snaps[i].Disk = bad
				wantCheck(t, s, api.ErrState)
			}
		})
	}
}

// statesThatMayNotBe has states of which each has one fault alone.
func statesThatMayNotBe() map[string]model.State {
	a, b := model.Snap{ID: 1, Name: "a"}, model.Snap{ID: 2, Name: "b"}
	return map[string]model.State{
		"nothing":                {},
		"Next 0":                 {Now: disk(1)},
		"Next -1":                {Now: disk(1), Next: -1},
		"Next 256":               {Now: disk(1), Next: 256},
		"9 snapshots":            {Snaps: snapped(9, nil), Next: 255},
		"a name of 0":            {Snaps: []model.Snap{{ID: 1}}, Next: 2},
		"a name of 17":           {Snaps: []model.Snap{a, {ID: 2, Name: strings.Repeat("b", 17)}}, Next: 3},
		"runes, not octets":      {Snaps: []model.Snap{{ID: 1, Name: strings.Repeat("\u00e9", 9)}}, Next: 2},
		"two names alike":        {Snaps: []model.Snap{a, {ID: 2, Name: "a"}}, Next: 3},
		"two alike, one between": {Snaps: []model.Snap{a, b, {ID: 3, Name: "a"}}, Next: 4},
		"IDs that are equal":     {Snaps: []model.Snap{a, {ID: 1, Name: "b"}}, Next: 3},
		"IDs that fall":          {Snaps: []model.Snap{b, a}, Next: 3},
		"IDs that fall at last":  {Snaps: []model.Snap{a, {ID: 3, Name: "c"}, b}, Next: 4},
		"an ID 0":                {Snaps: []model.Snap{{ID: 0, Name: "a"}, b}, Next: 3},
		"an ID -1":               {Snaps: []model.Snap{{ID: -1, Name: "a"}}, Next: 3},
		"an ID as Next":          {Snaps: []model.Snap{a, b}, Next: 2},
		"an ID above Next":       {Snaps: []model.Snap{a, {ID: 9, Name: "b"}}, Next: 8},
		"an ID 255":              {Snaps: []model.Snap{{ID: 255, Name: "a"}}, Next: 255},
		"an ID 255, Next 256":    {Snaps: []model.Snap{{ID: 255, Name: "a"}}, Next: 256},
	}
}

// P10.1: states that may not be for another reason than a disk.
func TestCheckOfStatesThatMayNotBe(t *testing.T) {
	for name, s := range statesThatMayNotBe() {
		t.Run(name, func(t *testing.T) { wantCheck(t, s, api.ErrState) })
	}
}

// P10.1, P1: Next and IDs of any size.
func TestCheckOfAnySize(t *testing.T) {
	for _, next := range anySize() {
		want := api.ErrState
		if next >= 1 && next <= 255 {
			want = api.OK
		}
		wantCheck(t, model.State{Next: next}, want)
		for _, id := range anySize() {
			s := model.State{Snaps: []model.Snap{{ID: id, Name: "a"}}, Next: next}
			if want == api.OK && id >= 1 && id < next {
				wantCheck(t, s, api.OK)
			} else {
				wantCheck(t, s, api.ErrState)
			}
		}
	}
}

// P10.1: of two IDs and Next, all that are small.
func TestCheckOfSmallIDs(t *testing.T) {
	for next := range 7 {
		for i := range 7 {
			for k := range 7 {
				s := model.State{Snaps: []model.Snap{{ID: i, Name: "a"}, {ID: k, Name: "b"}}, Next: next}
				if i >= 1 && i < k && k < next {
					wantCheck(t, s, api.OK)
				} else {
					wantCheck(t, s, api.ErrState)
				}
			}
		}
	}
}

// P10.1: names of any length, and how many snapshots there are.
func TestCheckOfNamesAndCounts(t *testing.T) {
	for n := range 40 {
		want := api.ErrState
		if n >= 1 && n <= 16 {
			want = api.OK
		}
		wantCheck(t, model.State{Snaps: []model.Snap{{ID: 1, Name: strings.Repeat("x", n)}}, Next: 2}, want)
		want = api.ErrState
		if n <= 8 {
			want = api.OK
		}
		wantCheck(t, model.State{Snaps: snapped(n, nil), Next: 100}, want)
	}
}
