package super_test

import (
	"math"
	"testing"

	"flagstone/api"
	"flagstone/super"
)

// field is a superblock's field, and its place in the sector.
type field struct {
	name        string
	of          func(s *super.Super) *int
	least, most int
	at, size    int
}

// fields has all but Root, whose greatest number is that of Pages.
func fields() []field {
	return []field{
		{"Epoch", func(s *super.Super) *int { return &s.Epoch }, 0, 1 << 40, 4, 8},
		{"Virtual", func(s *super.Super) *int { return &s.Virtual }, 0, 1 << 16, 12, 4},
		{"Journal", func(s *super.Super) *int { return &s.Journal }, 1, 1024, 16, 4},
		{"Pages", func(s *super.Super) *int { return &s.Pages }, 1, 2048, 20, 4},
		{"Data", func(s *super.Super) *int { return &s.Data }, 0, 1 << 16, 24, 4},
		{"Seq", func(s *super.Super) *int { return &s.Seq }, 0, 1 << 40, 28, 8},
	}
}

// rootField is Root, beside so many pages.
func rootField(pages int) field {
	return field{"Root", func(s *super.Super) *int { return &s.Root }, 0, pages, 36, 4}
}

// mixed has a superblock for each choice of one number a field out of those
// that pick takes.
func mixed(pick func(f field) []int) []super.Super {
	all := []super.Super{{}}
	add := func(fieldOf func(s super.Super) field) {
		var next []super.Super
		for _, s := range all {
			f := fieldOf(s)
			for _, n := range pick(f) {
				*f.of(&s) = n
				next = append(next, s)
			}
		}
		all = next
	}
	for _, f := range fields() {
		add(func(super.Super) field { return f })
	}
	add(func(s super.Super) field { return rootField(s.Pages) })
	return all
}

// mayBe has the edges of each field beside those of each other, and a number
// between them.
func mayBe() []super.Super {
	return mixed(func(f field) []int { return []int{f.least, f.least + (f.most-f.least+1)/2, f.most} })
}

// ordinary is a superblock of which no two fields are the same, and whose
// numbers have octets that differ.
func ordinary() super.Super {
	return super.Super{Epoch: 0x0102030405, Virtual: 0x0607, Journal: 0x0308, Pages: 0x0709, Data: 0x0a0b, Seq: 0x0c0d0e0f10, Root: 0x0511}
}

// outside has numbers that are not from f's least to its most, of any size;
// some of them would fit if their upper octets were lost.
func outside(f field) []int {
	numbers := []int{
		f.least - 1, f.most + 1, -1, -f.most - 1, f.most + 1<<16,
		1<<40 + 1, 1<<41 + f.least, 1<<48 + f.most, 1<<62 + f.least, -1<<41 + f.least, -1<<48 + f.most,
		math.MaxInt, math.MaxInt - 1, math.MinInt, math.MinInt + 1, math.MinInt + f.least, math.MinInt + f.most,
	}
	if f.size == 4 {
		numbers = append(numbers, 1<<32, 1<<32+f.least, 1<<32+f.most, -1<<32+f.least, -1<<32+f.most)
	}
	return numbers
}

// mayNotBe has superblocks of which one field alone is out of its range.
func mayNotBe() []super.Super {
	var all []super.Super
	for _, base := range []super.Super{ordinary(), {Journal: 1, Pages: 1}, {Epoch: 1 << 40, Virtual: 1 << 16, Journal: 1024, Pages: 2048, Data: 1 << 16, Seq: 1 << 40}} {
		for _, f := range append(fields(), rootField(base.Pages)) {
			for _, n := range outside(f) {
				s := base
				*f.of(&s) = n
				all = append(all, s)
			}
		}
	}
	return all
}

// P4.1.
func TestCheckTakes(t *testing.T) {
	for _, s := range append(mayBe(), ordinary()) {
		if err := super.Check(s); err != api.OK {
			t.Errorf("P4.1: Check(%+v): %d", s, err)
		}
	}
}

// P4.1: ErrRange, whichever field it is.
func TestCheckRefuses(t *testing.T) {
	if err := super.Check(super.Super{}); err != api.ErrRange {
		t.Errorf("P4.1: Check of an empty one: %d; want ErrRange", err)
	}
	for _, s := range mayNotBe() {
		if err := super.Check(s); err != api.ErrRange {
			t.Errorf("P4.1: Check(%+v): %d; want ErrRange", s, err)
		}
	}
}

// P4.1: each field just within its range or just out of it, beside each
// other so: one field that is out is enough.
func TestCheckAtAllEdges(t *testing.T) {
	edges := func(f field) []int { return []int{f.least - 1, f.least, f.most, f.most + 1} }
	for _, s := range mixed(edges) {
		want := api.OK
		for _, f := range append(fields(), rootField(s.Pages)) {
			if n := *f.of(&s); n < f.least || n > f.most {
				want = api.ErrRange
			}
		}
		if err := super.Check(s); err != want {
			t.Fatalf("P4.1: Check(%+v): %d; want %d", s, err, want)
		}
	}
}

// P4.1: the root is held against the pages there are, not against the most.
func TestCheckHoldsRootAgainstPages(t *testing.T) {
	for _, pages := range []int{1, 2, 3, 255, 256, 257, 2047, 2048} {
		for root := -2; root <= 2050; root++ {
			want := api.ErrRange
			if root >= 0 && root <= pages {
				want = api.OK
			}
			if err := super.Check(super.Super{Journal: 1, Pages: pages, Root: root}); err != want {
				t.Errorf("P4.1: Check of %d pages and root %d: %d; want %d", pages, root, err, want)
			}
		}
	}
}

// P4.1, P4: Check's error, and nothing beside it.
func TestEncodeRefuses(t *testing.T) {
	for _, s := range append(mayNotBe(), super.Super{}) {
		if b, err := super.Encode(s); err != api.ErrRange || len(b) != 0 {
			t.Errorf("P4.1: Encode(%+v): % x, %d; want ErrRange", s, b, err)
		}
	}
}

func wantPlaces(t *testing.T, s super.Super, want [4]int) {
	t.Helper()
	journal, pages, data, all := super.Places(s)
	if got := [4]int{journal, pages, data, all}; got != want {
		t.Errorf("P4.1: Places(%+v): %v; want %v", s, got, want)
	}
}

// P4.1: the chapter's example, ordinary ones, and edges; the other fields
// count for nothing.
func TestPlaces(t *testing.T) {
	wantPlaces(t, super.Super{Journal: 4, Pages: 8, Data: 10}, [4]int{2, 6, 14, 24})
	wantPlaces(t, super.Super{Epoch: 9, Virtual: 70, Journal: 4, Pages: 8, Data: 10, Seq: 99, Root: 8}, [4]int{2, 6, 14, 24})
	wantPlaces(t, super.Super{Journal: 1, Pages: 1}, [4]int{2, 3, 4, 4})
	wantPlaces(t, super.Super{Journal: 1024, Pages: 2048, Data: 1 << 16}, [4]int{2, 1026, 3074, 3074 + 1<<16})
	for _, s := range mayBe() {
		wantPlaces(t, s, [4]int{2, 2 + s.Journal, 2 + s.Journal + s.Pages, 2 + s.Journal + s.Pages + s.Data})
	}
}

// P4.1, P1: Places names no error: what may not be is added up as it is, and
// goes round where it is too great.
func TestPlacesOfWhatMayNotBe(t *testing.T) {
	wantPlaces(t, super.Super{}, [4]int{2, 2, 2, 2})
	wantPlaces(t, super.Super{Journal: -5, Pages: -6, Data: -7}, [4]int{2, -3, -9, -16})
	wantPlaces(t, super.Super{Journal: 1 << 20, Pages: 1 << 30, Data: 1 << 40}, [4]int{2, 2 + 1<<20, 2 + 1<<20 + 1<<30, 2 + 1<<20 + 1<<30 + 1<<40})
	wantPlaces(t, super.Super{Journal: math.MaxInt}, [4]int{2, math.MinInt + 1, math.MinInt + 1, math.MinInt + 1})
	for _, s := range mayNotBe() {
		wantPlaces(t, s, [4]int{2, 2 + s.Journal, 2 + s.Journal + s.Pages, 2 + s.Journal + s.Pages + s.Data})
	}
}
