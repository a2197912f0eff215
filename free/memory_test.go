package free_test

import (
	"slices"
	"testing"

	"flagstone/api"
	"flagstone/free"
)

// roomy has memory behind its end, in which a call might write.
func roomy(l []api.Span) []api.Span {
	out := append(make([]api.Span, 0, len(l)+8), l...)
	return append(out, span(1, 2), span(3, 4))[:len(l)]
}

// whole is l with the memory behind its end.
func whole(l []api.Span) []api.Span {
	return l[:cap(l)]
}

func spoil(l []api.Span) {
	for i := range l {
		l[i] = span(-7, -7)
	}
}

// change is a call that takes spans, and answers such.
type change struct {
	name string
	of   func(l []api.Span) []api.Span
}

// changes has calls that answer all of the state's spans, some of them, or
// more; those of ordinary are free, or, for Without, used.
func changes() []change {
	size := ordinary().Size
	onState := func(name string, call func(s free.State) (free.State, api.Errno)) change {
		return change{name, func(l []api.Span) []api.Span {
			out, _ := call(free.State{Size: size, Spans: l})
			return out.Spans
		}}
	}
	return []change{
		onState("Alloc the front", func(s free.State) (free.State, api.Errno) { out, _, err := free.Alloc(s, 4, 100); return out, err }),
		onState("Alloc a span", func(s free.State) (free.State, api.Errno) { out, _, err := free.Alloc(s, 1, 100); return out, err }),
		onState("Alloc the last", func(s free.State) (free.State, api.Errno) { out, _, err := free.Alloc(s, 7, 97); return out, err }),
		onState("Take the first", func(s free.State) (free.State, api.Errno) { return free.Take(s, span(0, 2)) }),
		onState("Take the last", func(s free.State) (free.State, api.Errno) { return free.Take(s, span(90, 10)) }),
		onState("Take the end", func(s free.State) (free.State, api.Errno) { return free.Take(s, span(99, 1)) }),
		onState("Take the middle", func(s free.State) (free.State, api.Errno) { return free.Take(s, span(95, 1)) }),
		onState("Free beside", func(s free.State) (free.State, api.Errno) { return free.Free(s, span(53, 2)) }),
		onState("Free between", func(s free.State) (free.State, api.Errno) { return free.Free(s, span(53, 37)) }),
		onState("Free apart", func(s free.State) (free.State, api.Errno) { return free.Free(s, span(60, 2)) }),
		onState("Resize to the same", func(s free.State) (free.State, api.Errno) { return free.Resize(s, 100) }),
		onState("Resize to less", func(s free.State) (free.State, api.Errno) { return free.Resize(s, 95) }),
		onState("Resize to the highest", func(s free.State) (free.State, api.Errno) { return free.Resize(s, 90) }),
		onState("Resize to more", func(s free.State) (free.State, api.Errno) { return free.Resize(s, 105) }),
		{"Without", func(l []api.Span) []api.Span { out, _ := free.Without(size, l); return out.Spans }},
		{"New", func(l []api.Span) []api.Span { out, _ := free.New(size); return out.Spans }},
	}
}

// askAll does the calls that answer no spans.
func askAll(s free.State) {
	free.Check(s)
	free.Best(s, 3, 100)
	free.Highest(s)
	free.Room(s)
}

// unordered is spans that Without takes, but that no state may have.
func unordered() []api.Span {
	return spansOf(pairs{{50, 3}, {5, 6}, {9, 4}, {90, 1}, {0, 2}, {5, 6}})
}

// P6.4, P2: neither what is handed in nor the memory behind it is changed,
// be it taken or refused.
func TestArgumentsStay(t *testing.T) {
	lists := [][]api.Span{unordered(), nil}
	for _, some := range []map[string]free.State{statesThatMayBe(), statesThatMayNotBe()} {
		for _, s := range some {
			lists = append(lists, s.Spans)
		}
	}
	for _, from := range lists {
		l := roomy(from)
		before := slices.Clone(whole(l))
		for _, c := range changes() {
			c.of(l)
			if !slices.Equal(whole(l), before) {
				t.Fatalf("P6.4: %s changed its argument: %v; want %v", c.name, whole(l), before)
			}
		}
		for _, size := range []int{100, 65536} {
			askAll(free.State{Size: size, Spans: l})
			free.Alloc(free.State{Size: size, Spans: l}, 1, size)
			free.Free(free.State{Size: size, Spans: l}, span(0, 1))
			free.Resize(free.State{Size: size, Spans: l}, 65536)
			free.Without(size, l)
		}
		if !slices.Equal(whole(l), before) {
			t.Fatalf("P6.4: an argument changed: %v; want %v", whole(l), before)
		}
	}
}

// P6.4, P2: what becomes of the state later is not seen in an answer, nor
// what becomes of an answer in the state.
func TestAnswersShareNoArgument(t *testing.T) {
	for _, c := range changes() {
		want := c.of(ordinary().Spans)
		if len(want) == 0 {
			t.Errorf("the test's own %s answers nothing", c.name)
		}
		l := roomy(ordinary().Spans)
		before := slices.Clone(whole(l))
		spoil(whole(c.of(l)))
		if !slices.Equal(whole(l), before) {
			t.Errorf("P6.4: %s: the answer is the argument's memory", c.name)
		}
		got := c.of(l)
		spoil(whole(l))
		if !slices.Equal(got, want) {
			t.Errorf("P6.4: %s: the answer is the argument's memory: %v; want %v", c.name, got, want)
		}
	}
}

// P6.4, P2, P3: two answers share nothing, and hang on the arguments alone.
func TestAnswersShareNothing(t *testing.T) {
	for _, c := range changes() {
		first, second := c.of(ordinary().Spans), c.of(ordinary().Spans)
		want := slices.Clone(second)
		spoil(whole(first))
		for _, other := range changes() {
			other.of(row(1024, 3, 2).Spans)
			other.of(unordered())
		}
		third := c.of(ordinary().Spans)
		if !slices.Equal(second, want) || !slices.Equal(third, want) {
			t.Errorf("P6.4: %s: %v, then %v; want %v", c.name, second, third, want)
		}
	}
}
