package free_test

import (
	"testing"

	"flagstone/api"
	"flagstone/free"
)

// smallStates has all states of so many sectors, of which just the last few
// may be free.
func smallStates(size, few int) []plain {
	all := []plain{make(plain, size)}
	for at := size - few; at < size; at++ {
		for _, p := range all {
			all = append(all, p.with([]api.Span{span(at, 1)}, true))
		}
	}
	return all
}

// smallSpans has all spans of the last few of so many sectors.
func smallSpans(size, few int) []api.Span {
	var out []api.Span
	for at := size - few; at < size; at++ {
		for n := 1; n <= size-at; n++ {
			out = append(out, span(at, n))
		}
	}
	return out
}

// P6.1 to P6.3: all small states, and all that may be done with them.
func TestEverySmallState(t *testing.T) {
	for size := range 9 {
		for _, p := range smallStates(size, size) {
			smallState(t, p, size)
		}
	}
}

// P6.1 to P6.3: likewise at the end of the greatest state.
func TestEverySmallStateAtTheEnd(t *testing.T) {
	for _, p := range smallStates(65536, 4) {
		smallState(t, p, 4)
	}
}

// smallState does with p all that goes within its last few sectors.
func smallState(t *testing.T, p plain, few int) {
	t.Helper()
	s, size := p.state(), len(p)
	wantCheck(t, s, api.OK)
	wantHighest(t, s, p.highest(), api.OK)
	all, longest := p.room()
	wantRoom(t, s, all, longest, api.OK)
	for n := 1; n <= few+1; n++ {
		for line := size - few; line <= size+1; line++ {
			smallAlloc(t, s, p, n, line)
		}
	}
	for _, x := range smallSpans(size, few) {
		takeAndFree(t, s, x)
	}
	for to := size - few; to <= size+2 && to <= 65536; to++ {
		if to < p.highest() {
			wantResize(t, s, to, free.State{}, api.ErrBusy)
		} else {
			wantResize(t, s, to, p.resized(to).state(), api.OK)
		}
	}
}

func smallAlloc(t *testing.T, s free.State, p plain, n, line int) {
	t.Helper()
	at, err := p.best(n, line)
	wantBest(t, s, n, line, at, err)
	want := free.State{}
	if err == api.OK {
		want = p.with([]api.Span{span(at, n)}, false).state()
		wantFree(t, want, span(at, n), s, api.OK)
	}
	wantAlloc(t, s, n, line, want, at, err)
}

// P6.2: all small sizes, with all two and three spans that are used.
func TestWithoutEveryFew(t *testing.T) {
	for size := range 6 {
		all := smallSpans(size, size)
		none := plain{}.resized(size)
		for _, a := range all {
			for _, b := range all {
				wantWithout(t, size, []api.Span{a, b}, none.with([]api.Span{a, b}, false).state(), api.OK)
				for _, c := range all {
					wantWithout(t, size, []api.Span{a, b, c}, none.with([]api.Span{a, b, c}, false).state(), api.OK)
				}
			}
		}
	}
}

// P6.1 to P6.3: many changes of one state, each held against the plain way.
// The numbers follow from one another, so that each run is the same.
func TestManyChanges(t *testing.T) {
	seed := uint32(6)
	below := func(n int) int {
		seed = seed*1664525 + 1013904223
		return int(seed>>8) % n
	}
	p := plain{}.resized(300)
	for range 6000 {
		s := p.state()
		x := span(below(len(p)), 1+below(9))
		if !isIn(x, len(p)) {
			continue
		}
		takeAndFree(t, s, x)
		line := below(len(p) + 20)
		smallAlloc(t, s, p, x.Len, line)
		wantHighest(t, s, p.highest(), api.OK)
		all, longest := p.room()
		wantRoom(t, s, all, longest, api.OK)
		switch below(5) {
		case 0:
			p = p.with([]api.Span{x}, true)
		case 1:
			p = p.with([]api.Span{x}, false)
		case 2:
			to := p.highest() + below(1+350-p.highest())
			wantResize(t, s, to, p.resized(to).state(), api.OK)
			p = p.resized(max(to, 50))
		default:
			if at, err := p.best(x.Len, line); err == api.OK {
				p = p.with([]api.Span{span(at, x.Len)}, false)
			}
		}
	}
}
