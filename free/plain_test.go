package free_test

import (
	"fmt"
	"math"
	"slices"
	"testing"

	"flagstone/api"
	"flagstone/free"
)

// pairs is spans whose numbers stand in their fields' order.
type pairs [][2]int

func spansOf(l pairs) []api.Span {
	var out []api.Span
	for _, x := range l {
		out = append(out, api.Span{At: x[0], Len: x[1]})
	}
	return out
}

func stateOf(size int, l pairs) free.State {
	return free.State{Size: size, Spans: spansOf(l)}
}

func span(at, n int) api.Span {
	return api.Span{At: at, Len: n}
}

// plain is a state the plain way: of each sector, whether it is free.
type plain []bool

func plainOf(s free.State) plain {
	return make(plain, s.Size).with(s.Spans, true)
}

// state is as few spans as can be.
func (p plain) state() free.State {
	out := free.State{Size: len(p)}
	for at := 0; at < len(p); at++ {
		n := p.run(at, len(p))
		if n > 0 {
			out.Spans = append(out.Spans, span(at, n))
		}
		at += n
	}
	return out
}

// run is how many sectors from at on, below line, are free without a gap.
func (p plain) run(at, line int) int {
	n := 0
	for at+n < len(p) && at+n < line && p[at+n] {
		n++
	}
	return n
}

func (p plain) with(l []api.Span, isFree bool) plain {
	out := slices.Clone(p)
	for _, x := range l {
		for k := range x.Len {
			out[x.At+k] = isFree
		}
	}
	return out
}

// count is how many sectors of x are free.
func (p plain) count(x api.Span) int {
	n := 0
	for k := range x.Len {
		if p[x.At+k] {
			n++
		}
	}
	return n
}

// best goes sector by sector; only where a free span begins, and with all
// that it has below line.
func (p plain) best(n, line int) (int, api.Errno) {
	place, shortest := 0, math.MaxInt
	for at := range p {
		if at > 0 && p[at-1] {
			continue
		}
		if length := p.run(at, line); length >= n && length < shortest {
			place, shortest = at, length
		}
	}
	if shortest == math.MaxInt {
		return 0, api.ErrSpace
	}
	return place, api.OK
}

func (p plain) highest() int {
	for at := len(p); at > 0; at-- {
		if !p[at-1] {
			return at
		}
	}
	return 0
}

func (p plain) room() (int, int) {
	longest := 0
	for at := range p {
		longest = max(longest, p.run(at, len(p)))
	}
	return p.count(span(0, len(p))), longest
}

func (p plain) resized(size int) plain {
	out := make(plain, size)
	for at := range out {
		out[at] = at >= len(p) || p[at]
	}
	return out
}

// orSpace is ErrSpace of a state with too many spans, and otherwise none.
func orSpace(s free.State) (free.State, api.Errno) {
	if len(s.Spans) > 1024 {
		return free.State{}, api.ErrSpace
	}
	return s, api.OK
}

// same takes no spans, be they nil or empty, as one.
func same(a, b free.State) bool {
	return a.Size == b.Size && slices.Equal(a.Spans, b.Spans)
}

// told is s, or its beginning if it is long.
func told(s free.State) string {
	if len(s.Spans) > 12 {
		return fmt.Sprint("{", s.Size, " ", len(s.Spans), " spans, the first of them ", s.Spans[:12], "}")
	}
	return fmt.Sprint(s)
}

// row has count free spans of so many sectors, a gap ahead of each of them
// and one behind the last.
func row(count, length, gap int) free.State {
	s := free.State{Size: count*(length+gap) + gap}
	for i := range count {
		s.Spans = append(s.Spans, span(gap+i*(length+gap), length))
	}
	return s
}

// anySize has numbers at the edges of all that a call may be given, and of
// any size; sums of two of them go round, even to what would fit.
func anySize() []int {
	return []int{
		math.MinInt, math.MinInt + 1, math.MinInt + 65536, -1 << 62, -1 << 32, -65537, -65536, -65535, -2, -1, 0, 1, 2, 9,
		65534, 65535, 65536, 65537, 131072, 1 << 31, 1<<32 - 1, 1 << 32, 1<<32 + 1, 1 << 48, 1 << 62, 1<<62 + 1, math.MaxInt - 65536, math.MaxInt - 1, math.MaxInt,
	}
}

// isIn tells whether x is one sector or more of so many; it adds nothing
// that could go round.
func isIn(x api.Span, size int) bool {
	return x.At >= 0 && x.At <= size && x.Len >= 1 && x.Len <= size && x.At+x.Len <= size
}

func wantState(t *testing.T, call string, got free.State, err api.Errno, want free.State, wantErr api.Errno) {
	t.Helper()
	if !same(got, want) || err != wantErr {
		t.Fatalf("%s: %s, %d; want %s, %d", call, told(got), err, told(want), wantErr)
	}
}

func wantNew(t *testing.T, size int, want free.State, wantErr api.Errno) {
	t.Helper()
	got, err := free.New(size)
	wantState(t, fmt.Sprintf("P6.1: New(%d)", size), got, err, want, wantErr)
}

func wantCheck(t *testing.T, s free.State, want api.Errno) {
	t.Helper()
	if err := free.Check(s); err != want {
		t.Fatalf("P6.1: Check(%s): %d; want %d", told(s), err, want)
	}
}

func wantBest(t *testing.T, s free.State, n, line, want int, wantErr api.Errno) {
	t.Helper()
	if got, err := free.Best(s, n, line); got != want || err != wantErr {
		t.Fatalf("P6.1: Best(%s, %d, %d): %d, %d; want %d, %d", told(s), n, line, got, err, want, wantErr)
	}
}

func wantAlloc(t *testing.T, s free.State, n, line int, want free.State, wantAt int, wantErr api.Errno) {
	t.Helper()
	if got, at, err := free.Alloc(s, n, line); !same(got, want) || at != wantAt || err != wantErr {
		t.Fatalf("P6.1: Alloc(%s, %d, %d): %s, %d, %d; want %s, %d, %d", told(s), n, line, told(got), at, err, told(want), wantAt, wantErr)
	}
}

func wantTake(t *testing.T, s free.State, x api.Span, want free.State, wantErr api.Errno) {
	t.Helper()
	got, err := free.Take(s, x)
	wantState(t, fmt.Sprintf("P6.1: Take(%s, %v)", told(s), x), got, err, want, wantErr)
}

func wantFree(t *testing.T, s free.State, x api.Span, want free.State, wantErr api.Errno) {
	t.Helper()
	got, err := free.Free(s, x)
	wantState(t, fmt.Sprintf("P6.1: Free(%s, %v)", told(s), x), got, err, want, wantErr)
}

func wantHighest(t *testing.T, s free.State, want int, wantErr api.Errno) {
	t.Helper()
	if got, err := free.Highest(s); got != want || err != wantErr {
		t.Fatalf("P6.2: Highest(%s): %d, %d; want %d, %d", told(s), got, err, want, wantErr)
	}
}

func wantRoom(t *testing.T, s free.State, wantAll, wantLongest int, wantErr api.Errno) {
	t.Helper()
	if all, longest, err := free.Room(s); all != wantAll || longest != wantLongest || err != wantErr {
		t.Fatalf("P6.2: Room(%s): %d, %d, %d; want %d, %d, %d", told(s), all, longest, err, wantAll, wantLongest, wantErr)
	}
}

func wantResize(t *testing.T, s free.State, size int, want free.State, wantErr api.Errno) {
	t.Helper()
	got, err := free.Resize(s, size)
	wantState(t, fmt.Sprintf("P6.2: Resize(%s, %d)", told(s), size), got, err, want, wantErr)
}

func wantWithout(t *testing.T, size int, used []api.Span, want free.State, wantErr api.Errno) {
	t.Helper()
	got, err := free.Without(size, used)
	call := fmt.Sprintf("P6.2: Without(%d, %v)", size, used)
	if len(used) > 12 {
		call = fmt.Sprintf("P6.2: Without(%d, %d spans, the first of them %v)", size, len(used), used[:12])
	}
	wantState(t, call, got, err, want, wantErr)
}
