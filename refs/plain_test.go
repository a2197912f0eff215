package refs_test

import (
	"fmt"
	"math"
	"slices"
	"testing"

	"flagstone/api"
	"flagstone/refs"
)

// The numbers of each of these stand in its fields' order.
type (
	extents [][3]int // Virt, Phys, Len
	spans   [][2]int // At, Len
	quads   [][4]int // Phys, Len, Owner, Virt
	triples [][3]int // At, Len, N
)

func listOf(l extents) []api.Extent {
	var out []api.Extent
	for _, x := range l {
		out = append(out, api.Extent{Virt: x[0], Phys: x[1], Len: x[2]})
	}
	return out
}

func mapOf(owner int, l extents) refs.Map {
	return refs.Map{Owner: owner, List: listOf(l)}
}

func spansOf(l spans) []api.Span {
	var out []api.Span
	for _, x := range l {
		out = append(out, span(x[0], x[1]))
	}
	return out
}

func span(at, n int) api.Span {
	return api.Span{At: at, Len: n}
}

func refsOf(l quads) []refs.Ref {
	var out []refs.Ref
	for _, x := range l {
		out = append(out, refs.Ref{Phys: x[0], Len: x[1], Owner: x[2], Virt: x[3]})
	}
	return out
}

func countsOf(l triples) []refs.Count {
	var out []refs.Count
	for _, x := range l {
		out = append(out, refs.Count{At: x[0], Len: x[1], N: x[2]})
	}
	return out
}

// anySize has numbers at the edges of all that a call may be given, and of
// any size; sums of two of them go round, even to what would fit.
func anySize() []int {
	return []int{
		math.MinInt, math.MinInt + 1, math.MinInt + 65536, -1 << 62, -1 << 32, -65537, -65536, -65535, -2, -1, 0, 1, 2, 9,
		254, 255, 256, 65534, 65535, 65536, 65537, 131072, 1 << 31, 1<<32 - 1, 1 << 32, 1<<32 + 1, 1 << 48, 1 << 62, 1<<62 + 1,
		math.MaxInt - 65536, math.MaxInt - 1, math.MaxInt,
	}
}

// isIn tells whether n sectors from at on, one at least, are sectors of
// 65536; it adds nothing that could go round.
func isIn(at, n int) bool {
	return at >= 0 && at <= 65536 && n >= 1 && n <= 65536 && at+n <= 65536
}

// has tells whether x has that sector.
func has(x api.Span, sector int) bool {
	return sector >= x.At && sector-x.At < x.Len
}

// plainWho is the references into x the plain way: sector by sector cut, and
// each laid ahead of the first that goes behind it.
func plainWho(m []refs.Map, x api.Span) []refs.Ref {
	var out []refs.Ref
	for _, owned := range m {
		for _, e := range owned.List {
			r := refs.Ref{Owner: owned.Owner}
			for k := range e.Len {
				if !has(x, e.Phys+k) {
					continue
				}
				if r.Len == 0 {
					r.Phys, r.Virt = e.Phys+k, e.Virt+k
				}
				r.Len++
			}
			if r.Len > 0 {
				at := 0
				for at < len(out) && goesAhead(out[at], r) {
					at++
				}
				out = slices.Insert(out, at, r)
			}
		}
	}
	return out
}

func goesAhead(a, b refs.Ref) bool {
	if a.Phys != b.Phys {
		return a.Phys < b.Phys
	}
	if a.Owner != b.Owner {
		return a.Owner < b.Owner
	}
	return a.Virt < b.Virt
}

// everywhere has all sectors.
func everywhere() api.Span {
	return span(0, 65536)
}

// plainNumbers is how often each sector of x is referred to.
func plainNumbers(m []refs.Map, x api.Span) map[int]int {
	n := map[int]int{}
	for _, owned := range m {
		for _, e := range owned.List {
			for k := range e.Len {
				if has(x, e.Phys+k) {
					n[e.Phys+k]++
				}
			}
		}
	}
	return n
}

func risingKeys(n map[int]int) []int {
	var out []int
	for at := range n {
		out = append(out, at)
	}
	slices.Sort(out)
	return out
}

func plainCounts(m []refs.Map) []refs.Count {
	n := plainNumbers(m, everywhere())
	var out []refs.Count
	for _, at := range risingKeys(n) {
		last := len(out) - 1
		if last >= 0 && out[last].At+out[last].Len == at && out[last].N == n[at] {
			out[last].Len++
		} else {
			out = append(out, refs.Count{At: at, Len: 1, N: n[at]})
		}
	}
	return out
}

func plainUsed(m []refs.Map) []api.Span {
	var out []api.Span
	for _, at := range risingKeys(plainNumbers(m, everywhere())) {
		last := len(out) - 1
		if last >= 0 && out[last].At+out[last].Len == at {
			out[last].Len++
		} else {
			out = append(out, span(at, 1))
		}
	}
	return out
}

func plainShared(m []refs.Map, x api.Span) bool {
	for _, n := range plainNumbers(m, x) {
		if n > 1 {
			return true
		}
	}
	return false
}

// plainBack is where each sector of each owner stands, the plain way; of no
// more references than make 1024 extents.
func plainBack(l []refs.Ref) ([]refs.Map, api.Errno) {
	for _, r := range l {
		if r.Owner < 0 || r.Owner > 255 || !isIn(r.Virt, r.Len) || !isIn(r.Phys, r.Len) {
			return nil, api.ErrRange
		}
	}
	disks := map[int]map[int]int{}
	for _, r := range l {
		if disks[r.Owner] == nil {
			disks[r.Owner] = map[int]int{}
		}
		for k := range r.Len {
			if _, again := disks[r.Owner][r.Virt+k]; again {
				return nil, api.ErrTwice
			}
			disks[r.Owner][r.Virt+k] = r.Phys + k
		}
	}
	if len(disks) > 9 {
		return nil, api.ErrCount
	}
	var out []refs.Map
	for owner := range 256 {
		if disk := disks[owner]; disk != nil {
			out = append(out, refs.Map{Owner: owner, List: fewest(disk)})
		}
	}
	return out, api.OK
}

// fewest is a disk's sectors as few extents as can be.
func fewest(disk map[int]int) []api.Extent {
	var out []api.Extent
	for _, virt := range risingKeys(disk) {
		last := len(out) - 1
		if last >= 0 && out[last].Virt+out[last].Len == virt && out[last].Phys+out[last].Len == disk[virt] {
			out[last].Len++
		} else {
			out = append(out, api.Extent{Virt: virt, Phys: disk[virt], Len: 1})
		}
	}
	return out
}

// told is l, or its beginning if it is long.
func told[T any](l []T) string {
	if len(l) > 12 {
		return fmt.Sprint(len(l), ", the first of them ", l[:12])
	}
	return fmt.Sprint(l)
}

// toldMaps is m, each list of it as told.
func toldMaps(m []refs.Map) string {
	out := ""
	for _, x := range m {
		out += fmt.Sprint(" owner ", x.Owner, ": ", told(x.List), ";")
	}
	return "[" + out + "]"
}

// same takes a nil list and an empty one for one.
func same(a, b []refs.Map) bool {
	return slices.EqualFunc(a, b, func(x, y refs.Map) bool {
		return x.Owner == y.Owner && slices.Equal(x.List, y.List)
	})
}

func wantCheck(t *testing.T, m []refs.Map, want api.Errno) {
	t.Helper()
	if err := refs.Check(m); err != want {
		t.Fatalf("P9.1: Check(%s): %d; want %d", toldMaps(m), err, want)
	}
}

func wantCounts(t *testing.T, m []refs.Map, want []refs.Count, wantErr api.Errno) {
	t.Helper()
	if got, err := refs.Counts(m); !slices.Equal(got, want) || err != wantErr {
		t.Fatalf("P9.1: Counts(%s): %s, %d; want %s, %d", toldMaps(m), told(got), err, told(want), wantErr)
	}
}

func wantRefs(t *testing.T, m []refs.Map, want []refs.Ref, wantErr api.Errno) {
	t.Helper()
	if got, err := refs.Refs(m); !slices.Equal(got, want) || err != wantErr {
		t.Fatalf("P9.1: Refs(%s): %s, %d; want %s, %d", toldMaps(m), told(got), err, told(want), wantErr)
	}
}

func wantWho(t *testing.T, m []refs.Map, x api.Span, want []refs.Ref, wantErr api.Errno) {
	t.Helper()
	if got, err := refs.Who(m, x); !slices.Equal(got, want) || err != wantErr {
		t.Fatalf("P9.1: Who(%s, %v): %s, %d; want %s, %d", toldMaps(m), x, told(got), err, told(want), wantErr)
	}
}

func wantUsed(t *testing.T, m []refs.Map, want []api.Span, wantErr api.Errno) {
	t.Helper()
	if got, err := refs.Used(m); !slices.Equal(got, want) || err != wantErr {
		t.Fatalf("P9.1: Used(%s): %s, %d; want %s, %d", toldMaps(m), told(got), err, told(want), wantErr)
	}
}

func wantShared(t *testing.T, m []refs.Map, x api.Span, want bool, wantErr api.Errno) {
	t.Helper()
	if got, err := refs.Shared(m, x); got != want || err != wantErr {
		t.Fatalf("P9.1: Shared(%s, %v): %t, %d; want %t, %d", toldMaps(m), x, got, err, want, wantErr)
	}
}

func wantBack(t *testing.T, l []refs.Ref, want []refs.Map, wantErr api.Errno) {
	t.Helper()
	if got, err := refs.Back(l); !same(got, want) || err != wantErr {
		t.Fatalf("P9.2: Back(%s): %s, %d; want %s, %d", told(l), toldMaps(got), err, toldMaps(want), wantErr)
	}
}
