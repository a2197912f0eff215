package extent_test

import (
	"slices"
	"testing"

	"flagstone/api"
	"flagstone/extent"
)

// roomy has memory behind its end, in which a call might write.
func roomy(l []api.Extent) []api.Extent {
	out := append(make([]api.Extent, 0, len(l)+8), l...)
	return append(out, api.Extent{Virt: 1, Phys: 2, Len: 3}, api.Extent{Virt: 4, Phys: 5, Len: 6})[:len(l)]
}

// whole is l with the memory behind its end.
func whole[T any](l []T) []T {
	return l[:cap(l)]
}

// change is a call that answers a map, or spans as one.
type change struct {
	name string
	of   func(l []api.Extent) []api.Extent
}

// changes has calls that answer all of the map, a part of it, or more.
func changes() []change {
	return []change{
		{"Look at all", func(l []api.Extent) []api.Extent { out, _ := extent.Look(l, 0, 65536); return out }},
		{"Look at one extent", func(l []api.Extent) []api.Extent { out, _ := extent.Look(l, 2, 4); return out }},
		{"Look at nothing", func(l []api.Extent) []api.Extent { out, _ := extent.Look(l, 3, 0); return out }},
		{"Cut nothing", func(l []api.Extent) []api.Extent { out, _ := extent.Cut(l, 3, 0); return out }},
		{"Cut a hole", func(l []api.Extent) []api.Extent { out, _ := extent.Cut(l, 12, 3); return out }},
		{"Cut a part", func(l []api.Extent) []api.Extent { out, _ := extent.Cut(l, 3, 1); return out }},
		{"Cut the last", func(l []api.Extent) []api.Extent { out, _ := extent.Cut(l, 65530, 6); return out }},
		{"Cut all", func(l []api.Extent) []api.Extent { out, _ := extent.Cut(l, 0, 65536); return out }},
		{"Put what is there", func(l []api.Extent) []api.Extent {
			out, _ := extent.Put(l, api.Extent{Virt: 2, Phys: 100, Len: 4})
			return out
		}},
		{"Put within", func(l []api.Extent) []api.Extent {
			out, _ := extent.Put(l, api.Extent{Virt: 3, Phys: 9, Len: 1})
			return out
		}},
		{"Put beside", func(l []api.Extent) []api.Extent {
			out, _ := extent.Put(l, api.Extent{Virt: 12, Phys: 55, Len: 1})
			return out
		}},
		{"Put over all", func(l []api.Extent) []api.Extent { out, _ := extent.Put(l, api.Extent{Len: 65536}); return out }},
		{"Move onto itself", func(l []api.Extent) []api.Extent {
			out, _ := extent.Move(l, api.Span{At: 50, Len: 3}, 50)
			return out
		}},
		{"Move nothing", func(l []api.Extent) []api.Extent {
			out, _ := extent.Move(l, api.Span{At: 900, Len: 3}, 50)
			return out
		}},
		{"Move parts", func(l []api.Extent) []api.Extent {
			out, _ := extent.Move(l, api.Span{At: 52, Len: 51}, 900)
			return out
		}},
		{"Used", func(l []api.Extent) []api.Extent {
			spans, _ := extent.Used(l)
			var out []api.Extent
			for _, x := range spans {
				out = append(out, api.Extent{Phys: x.At, Len: x.Len})
			}
			return out
		}},
	}
}

// P5.4, P2: neither what is handed in nor the memory behind it is changed,
// be it taken or refused.
func TestArgumentsStay(t *testing.T) {
	all := []map[string][]api.Extent{mapsThatMayBe(), mapsThatMayNotBe()}
	for _, some := range all {
		for name, from := range some {
			l := roomy(from)
			before := slices.Clone(whole(l))
			for _, c := range changes() {
				c.of(l)
			}
			extent.Check(l)
			extent.Find(l, 3)
			if !slices.Equal(whole(l), before) {
				t.Errorf("P5.4: an argument changed, %s: %s; want %s", name, told(whole(l)), told(before))
			}
		}
	}
}

// P5.4, P2: what becomes of the map later is not seen in an answer, nor what
// becomes of an answer in the map.
func TestAnswersShareNoArgument(t *testing.T) {
	for _, c := range changes() {
		want := c.of(ordinary())
		l := roomy(ordinary())
		before := slices.Clone(whole(l))
		got := c.of(l)
		spoil(whole(got))
		if !slices.Equal(whole(l), before) {
			t.Errorf("P5.4: %s: the answer is the argument's memory", c.name)
		}
		got = c.of(l)
		spoil(whole(l))
		if !slices.Equal(got, want) {
			t.Errorf("P5.4: %s: the answer is the argument's memory: %v; want %v", c.name, got, want)
		}
	}
}

func spoil(l []api.Extent) {
	for i := range l {
		l[i] = api.Extent{Virt: -7, Phys: -7, Len: -7}
	}
}

// P5.4, P2, P3: two answers share nothing, and hang on the arguments alone.
func TestAnswersShareNothing(t *testing.T) {
	for _, c := range changes() {
		first, second := c.of(ordinary()), c.of(ordinary())
		want := slices.Clone(second)
		spoil(whole(first))
		for _, other := range changes() {
			other.of(row(1024, 3, 2))
		}
		third := c.of(ordinary())
		if !slices.Equal(second, want) || !slices.Equal(third, want) {
			t.Errorf("P5.4: %s: %v, then %v; want %v", c.name, second, third, want)
		}
	}
}

// P5.4, P2: the spans of one answer are not those of another.
func TestUsedSharesNothing(t *testing.T) {
	l := ordinary()
	first, _ := extent.Used(l)
	second, _ := extent.Used(l)
	want := slices.Clone(second)
	clear(whole(first))
	if !slices.Equal(second, want) || !slices.Equal(l, ordinary()) {
		t.Errorf("P5.4: Used: %v; want %v", second, want)
	}
}
