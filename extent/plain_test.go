package extent_test

import (
	"maps"
	"math"
	"slices"
	"testing"

	"flagstone/api"
	"flagstone/extent"
)

// list is extents, and pairs spans, whose numbers stand in their fields' order.
type (
	list  [][3]int
	pairs [][2]int
)

func mapOf(l list) []api.Extent {
	var out []api.Extent
	for _, x := range l {
		out = append(out, api.Extent{Virt: x[0], Phys: x[1], Len: x[2]})
	}
	return out
}

func spansOf(l pairs) []api.Span {
	var out []api.Span
	for _, x := range l {
		out = append(out, api.Span{At: x[0], Len: x[1]})
	}
	return out
}

// plain is a map the plain way: where each sector stands that stands somewhere.
type plain map[int]int

func plainOf(l []api.Extent) plain {
	p := plain{}
	for _, x := range l {
		for k := range x.Len {
			p[x.Virt+k] = x.Phys + k
		}
	}
	return p
}

// at is where that sector stands, or -1.
func (p plain) at(virt int) int {
	if phys, ok := p[virt]; ok {
		return phys
	}
	return -1
}

// extents is as few as can be, without holes.
func (p plain) extents() []api.Extent {
	var out []api.Extent
	for _, virt := range slices.Sorted(maps.Keys(p)) {
		last := len(out) - 1
		if last >= 0 && out[last].Virt+out[last].Len == virt && out[last].Phys+out[last].Len == p[virt] {
			out[last].Len++
		} else {
			out = append(out, api.Extent{Virt: virt, Phys: p[virt], Len: 1})
		}
	}
	return out
}

// look is as few as can be, with holes.
func (p plain) look(virt, n int) []api.Extent {
	var out []api.Extent
	for v := virt; v < virt+n; v++ {
		last := len(out) - 1
		goesOn := false
		if last >= 0 && out[last].Phys == -1 {
			goesOn = p.at(v) == -1
		} else if last >= 0 {
			goesOn = p.at(v) == out[last].Phys+out[last].Len
		}
		if goesOn {
			out[last].Len++
		} else {
			out = append(out, api.Extent{Virt: v, Phys: p.at(v), Len: 1})
		}
	}
	return out
}

func (p plain) cut(virt, n int) plain {
	out := maps.Clone(p)
	for k := range n {
		delete(out, virt+k)
	}
	return out
}

func (p plain) put(x api.Extent) plain {
	out := maps.Clone(p)
	for k := range x.Len {
		out[x.Virt+k] = x.Phys + k
	}
	return out
}

func (p plain) move(x api.Span, to int) plain {
	out := plain{}
	for virt, phys := range p {
		if phys >= x.At && phys < x.At+x.Len {
			phys += to - x.At
		}
		out[virt] = phys
	}
	return out
}

func (p plain) used() []api.Span {
	var out []api.Span
	for _, phys := range slices.Compact(slices.Sorted(maps.Values(p))) {
		last := len(out) - 1
		if last >= 0 && out[last].At+out[last].Len == phys {
			out[last].Len++
		} else {
			out = append(out, api.Span{At: phys, Len: 1})
		}
	}
	return out
}

// refusal is ErrSpace of a map that has become too long, and otherwise none.
func refusal(l []api.Extent) ([]api.Extent, api.Errno) {
	if len(l) > 1024 {
		return nil, api.ErrSpace
	}
	return l, api.OK
}

func wantFind(t *testing.T, l []api.Extent, virt int, want int, wantErr api.Errno) {
	t.Helper()
	if got, err := extent.Find(l, virt); got != want || err != wantErr {
		t.Fatalf("P5.1: Find(%s, %d): %d, %d; want %d, %d", told(l), virt, got, err, want, wantErr)
	}
}

func wantLook(t *testing.T, l []api.Extent, virt, n int, want []api.Extent, wantErr api.Errno) {
	t.Helper()
	if got, err := extent.Look(l, virt, n); !slices.Equal(got, want) || err != wantErr {
		t.Fatalf("P5.1: Look(%s, %d, %d): %s, %d; want %s, %d", told(l), virt, n, told(got), err, told(want), wantErr)
	}
}

func wantCut(t *testing.T, l []api.Extent, virt, n int, want []api.Extent, wantErr api.Errno) {
	t.Helper()
	if got, err := extent.Cut(l, virt, n); !slices.Equal(got, want) || err != wantErr {
		t.Fatalf("P5.1: Cut(%s, %d, %d): %s, %d; want %s, %d", told(l), virt, n, told(got), err, told(want), wantErr)
	}
}

func wantPut(t *testing.T, l []api.Extent, x api.Extent, want []api.Extent, wantErr api.Errno) {
	t.Helper()
	if got, err := extent.Put(l, x); !slices.Equal(got, want) || err != wantErr {
		t.Fatalf("P5.1: Put(%s, %v): %s, %d; want %s, %d", told(l), x, told(got), err, told(want), wantErr)
	}
}

func wantMove(t *testing.T, l []api.Extent, x api.Span, to int, want []api.Extent, wantErr api.Errno) {
	t.Helper()
	if got, err := extent.Move(l, x, to); !slices.Equal(got, want) || err != wantErr {
		t.Fatalf("P5.2: Move(%s, %v, %d): %s, %d; want %s, %d", told(l), x, to, told(got), err, told(want), wantErr)
	}
}

func wantUsed(t *testing.T, l []api.Extent, want []api.Span, wantErr api.Errno) {
	t.Helper()
	if got, err := extent.Used(l); !slices.Equal(got, want) || err != wantErr {
		t.Fatalf("P5.2: Used(%s): %v, %d; want %v, %d", told(l), got, err, want, wantErr)
	}
}

// anySize has numbers at the edges of all that a call may be given, and of
// any size; sums of two of them go round, even to what would fit.
func anySize() []int {
	return []int{
		math.MinInt, math.MinInt + 1, math.MinInt + 65536, -1 << 62, -1 << 32, -65537, -65536, -65535, -2, -1, 0, 1, 2, 9,
		65534, 65535, 65536, 65537, 131072, 1 << 31, 1<<32 - 1, 1 << 32, 1<<32 + 1, 1 << 48, 1 << 62, 1<<62 + 1, math.MaxInt - 65536, math.MaxInt - 1, math.MaxInt,
	}
}

// isIn tells whether n sectors from at on are sectors of 65536; it adds
// nothing that could go round.
func isIn(at, n int) bool {
	return at >= 0 && at <= 65536 && n >= 0 && n <= 65536 && at+n <= 65536
}
