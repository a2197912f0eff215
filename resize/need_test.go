package resize_test

import (
	"math"
	"testing"

	"flagstone/api"
	"flagstone/model"
	"flagstone/resize"
	"flagstone/volume"
)

// P13.1, P13.2: the chapter's example: no data, a write of 2: Need 2.
func TestExample(t *testing.T) {
	s, err := volume.New(4, 0)
	if err != api.OK {
		t.Fatal("P11.1: New:", err)
	}
	x := writing(0, 2)
	wantNeed(t, s, x, 2)
	wantDo(t, s, x, 1, api.ErrSpace, 0)
	s = wantDo(t, s, x, 2, api.OK, 2)
	wantNeed(t, s, x, 4)
}

// P13.1: as many as are written, less those that are free, more than there
// are; but as many as there are, if as many or more are free.
func TestNeedOfAWrite(t *testing.T) {
	for n := 1; n <= 64; n++ {
		for unused := range 67 {
			for used := range 3 {
				// What is free stands ahead of what is in use, and behind it.
				s := made(70, unused+used, at(0, unused/2, used)[:min(used, 1)])
				if unused+used != len(s.Data) || len(s.Now) != min(used, 1) {
					t.Fatal("the test's own state:", told(s))
				}
				wantNeed(t, s, writing(70-n, n), max(used+n, used+unused))
			}
		}
	}
}

// P13.1: those that are free count wherever they are, however short their
// spans; those that the write itself makes free do not.
func TestNeedOfAWriteOverItself(t *testing.T) {
	s := ordinary()
	for n := 1; n <= 8; n++ {
		wantNeed(t, s, writing(8-n, n), max(16, 10+n))
	}
	wantNeed(t, made(4, 4, at(0, 0, 4)), writing(0, 4), 8)
	wantNeed(t, fenced(60, 0), writing(0, 60), 120)
	wantNeed(t, fenced(60, 0), writing(0, 61), 121)
	wantNeed(t, fenced(60, 1), writing(0, 61), 121)
	wantNeed(t, fenced(60, 1), writing(0, 64), 124)
}

// P13.1: more than there may be is needed all the same.
func TestNeedOfMoreThanThereMayBe(t *testing.T) {
	for _, unused := range []int{0, 1, 2, 62, 63, 64, 65, 66} {
		used := 65536 - unused
		s := made(65536, 65536, at(0, 0, used))
		wantNeed(t, s, writing(0, 64), max(65536, used+64))
		s = wantTruncate(t, s, unused)
		wantNeed(t, s, writing(0, 64), used+64)
		wantNeed(t, s, writing(65535, 1), used+1)
	}
}

// refusedWrites has writes that model.May refuses on a disk of 8.
func refusedWrites() map[string]model.Op {
	return map[string]model.Op{
		"of nothing":         {What: write},
		"of 63 octets":       {What: write, Data: make([]byte, 63)},
		"of 65 octets":       {What: write, Data: make([]byte, 65)},
		"of 8 and a half":    {What: write, Data: make([]byte, 8*64+32)},
		"of 65":              writing(0, 65),
		"ahead":              writing(-1, 1),
		"far ahead":          writing(math.MinInt, 8),
		"behind":             writing(8, 1),
		"partly behind":      writing(7, 2),
		"of more than it is": writing(0, 9),
		"far behind":         writing(math.MaxInt, 1),
		"far partly behind":  writing(math.MaxInt-7, 8),
	}
}

// otherOps has one of each other kind that ordinary takes, and such as it does
// not; all bear data too.
func otherOps() []model.Op {
	data := writing(0, 8).Data
	var out []model.Op
	for what := -1; what <= 10; what++ {
		if what != write {
			out = append(out, model.Op{What: what, N: 4, ID: 4, Name: "new", Data: data}, model.Op{What: what, At: -1, N: -1, ID: 3, Data: data})
		}
	}
	return append(out,
		model.Op{What: resizing, N: 65536}, model.Op{What: resizing, N: 65537}, model.Op{What: math.MaxInt}, model.Op{What: math.MinInt},
		model.Op{What: snapshot, Name: "less"}, model.Op{What: write | 1<<32, Data: data}, model.Op{What: write | 256, Data: data},
	)
}

// P13.1: as many as there are, of all other ops, and of a write that model.May
// refuses, even where nothing is free.
func TestNeedOfOthers(t *testing.T) {
	full := made(8, 3, at(0, 0, 3), volume.Snap{ID: 4, Name: "less", Size: 1})
	for _, x := range otherOps() {
		wantNeed(t, ordinary(), x, 16)
		wantNeed(t, full, x, 3)
		wantNeed(t, made(8, 0, nil), x, 0)
	}
	for _, x := range refusedWrites() {
		wantNeed(t, ordinary(), x, 16)
		wantNeed(t, full, x, 3)
		wantNeed(t, made(8, 0, nil), x, 0)
	}
	wantNeed(t, full, writing(0, 8), 11)
	wantNeed(t, made(0, 3, nil), writing(0, 1), 3)
}

// P13.1: fields that a write does not use say nothing.
func TestNeedOfAWriteWithOtherFields(t *testing.T) {
	x := writing(0, 8)
	x.N, x.ID, x.Name = -1, 77, "less"
	wantNeed(t, made(8, 0, nil), x, 8)
}

// P13.1, P1: Need of writes at any place.
func TestNeedAtAnyPlace(t *testing.T) {
	s := made(5, 2, at(1, 0, 1))
	for _, place := range anySize() {
		want := 2
		if place >= 0 && place <= 5-3 {
			want = 4
		}
		wantNeed(t, s, writing(place, 3), want)
		if _, err := resize.Need(s, model.Op{What: place, N: place, ID: place, Data: octets(1, 2, 3)}); err != api.OK {
			t.Errorf("P13.1: Need of a kind %d: %d", place, err)
		}
	}
}
