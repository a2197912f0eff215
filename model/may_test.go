package model_test

import (
	"strings"
	"testing"

	"flagstone/api"
	"flagstone/model"
)

// P10.1: a What that is none, of any size, whatever else the op has.
func TestMayOfAKindThatIsNone(t *testing.T) {
	for _, what := range append(anySize(), 9, 10) {
		if what >= 1 && what <= 8 {
			continue
		}
		wantMay(t, 9, nil, 1, model.Op{What: what}, api.ErrKind)
		wantMay(t, 9, named("a"), 2, model.Op{What: what, At: 1, N: 1, ID: 1, Name: "b", Data: octets(1)}, api.ErrKind)
		wantMay(t, -1, nil, 256, model.Op{What: what, At: -1, N: -1, Data: full(3, 1)}, api.ErrKind)
	}
}

// P10.1: writes at their bounds and beyond, and the order of their errors.
func TestMayOfWrites(t *testing.T) {
	for _, c := range []struct {
		size, at, octets int
		want             api.Errno
	}{
		{100, 0, 64, api.OK},
		{100, 0, 4096, api.OK},
		{100, 36, 4096, api.OK},
		{100, 37, 4096, api.ErrRange},
		{100, 99, 64, api.OK},
		{100, 100, 64, api.ErrRange},
		{100, -1, 64, api.ErrRange},
		{64, 0, 4096, api.OK},
		{63, 0, 4096, api.ErrRange},
		{65536, 65535, 64, api.OK},
		{65536, 65536, 64, api.ErrRange},
		{65536, 65472, 4096, api.OK},
		{65536, 65473, 4096, api.ErrRange},
		{0, 0, 64, api.ErrRange},
		{100, 0, 0, api.ErrArg},
		{100, 0, 1, api.ErrArg},
		{100, 0, 63, api.ErrArg},
		{100, 0, 65, api.ErrArg},
		{100, 0, 127, api.ErrArg},
		{100, 0, 4095, api.ErrArg},
		{100, 0, 4097, api.ErrArg},
		{100, 0, 4160, api.ErrArg},
		{100, 0, 65536, api.ErrArg},
		{100, -1, 0, api.ErrArg},
		{100, 100, 0, api.ErrArg},
		{100, 101, 63, api.ErrArg},
		{64, 0, 4160, api.ErrArg},
		{0, 0, 4160, api.ErrArg},
	} {
		wantMay(t, c.size, nil, 1, model.Op{What: write, At: c.at, Data: full(c.octets, 1)}, c.want)
		wantMay(t, c.size, nil, 1, model.Op{What: write, At: c.at, N: 999, ID: 7, Data: make([]byte, c.octets)}, c.want)
	}
	wantMay(t, 100, nil, 1, model.Op{What: write, Data: []byte{}}, api.ErrArg)
}

// P10.1: reads and discards at their bounds and beyond, and the order of
// their errors.
func TestMayOfReadsAndDiscards(t *testing.T) {
	for _, c := range []struct {
		size, at, n int
		want        api.Errno
	}{
		{100, 0, 0, api.OK},
		{100, 0, 1, api.OK},
		{100, 0, 64, api.OK},
		{100, 36, 64, api.OK},
		{100, 37, 64, api.ErrRange},
		{100, 99, 1, api.OK},
		{100, 100, 1, api.ErrRange},
		{100, 100, 0, api.OK},
		{100, 101, 0, api.ErrRange},
		{100, -1, 1, api.ErrRange},
		{100, -1, 0, api.ErrRange},
		{100, 1, -1, api.ErrRange},
		{100, -1, -1, api.ErrRange},
		{0, 0, 0, api.OK},
		{0, 0, 1, api.ErrRange},
		{0, 1, 0, api.ErrRange},
		{65536, 65535, 1, api.OK},
		{65536, 65536, 0, api.OK},
		{65536, 65536, 1, api.ErrRange},
		{65536, 65472, 64, api.OK},
		{100, 0, 65, api.ErrLong},
		{100, 0, 100, api.ErrLong},
		{100, 35, 65, api.ErrLong},
		{100, 36, 65, api.ErrRange},
		{100, -1, 65, api.ErrRange},
		{100, 0, 101, api.ErrRange},
		{64, 0, 65, api.ErrRange},
		{65, 0, 65, api.ErrLong},
		{65536, 0, 65536, api.ErrLong},
		{65536, 0, 65537, api.ErrRange},
	} {
		for _, what := range []int{read, discard} {
			wantMay(t, c.size, nil, 1, model.Op{What: what, At: c.at, N: c.n}, c.want)
			wantMay(t, c.size, named("a"), 2, model.Op{What: what, At: c.at, N: c.n, ID: 9, Name: "a", Data: full(3, 3)}, c.want)
		}
	}
}

// P10.1: snapshots at their bounds and beyond, and the order of their errors.
func TestMayOfSnapshots(t *testing.T) {
	long := strings.Repeat("x", 17)
	for _, c := range []struct {
		snaps []model.Named
		next  int
		name  string
		want  api.Errno
	}{
		{nil, 1, "a", api.OK},
		{[]model.Named{}, 1, "a", api.OK},
		{nil, 1, long[:16], api.OK},
		{nil, 1, "\x00", api.OK},
		{nil, 1, "", api.ErrArg},
		{nil, 1, long, api.ErrArg},
		{nil, 1, strings.Repeat("\u00e9", 8), api.OK},
		{nil, 1, strings.Repeat("\u00e9", 9), api.ErrArg},
		{named("a", "b"), 3, "c", api.OK},
		{named("a", "b"), 3, "A", api.OK},
		{named("a", "b"), 3, "a ", api.OK},
		{named("a", "b"), 3, "a", api.ErrTwice},
		{named("a", "b"), 3, "b", api.ErrTwice},
		{named(letters(7)...), 8, "x", api.OK},
		{named(letters(8)...), 9, "x", api.ErrCount},
		{named(letters(9)...), 10, "x", api.ErrCount},
		{nil, 254, "a", api.OK},
		{nil, 255, "a", api.ErrCount},
		{nil, 256, "a", api.ErrCount},
		{named(letters(8)...), 255, "x", api.ErrCount},
		{named(letters(8)...), 9, "h", api.ErrTwice},
		{named("a"), 255, "a", api.ErrTwice},
		{named(letters(8)...), 9, "", api.ErrArg},
		{named(letters(8)...), 9, long, api.ErrArg},
		{nil, 255, "", api.ErrArg},
		{nil, 255, long, api.ErrArg},
		{named(""), 2, "", api.ErrArg},
		{named(long), 2, long, api.ErrArg},
	} {
		for _, size := range []int{0, 1, 65536} {
			wantMay(t, size, c.snaps, c.next, model.Op{What: snapshot, Name: c.name}, c.want)
			wantMay(t, size, c.snaps, c.next, model.Op{What: snapshot, At: -1, N: -1, ID: -1, Name: c.name, Data: full(3, 3)}, c.want)
		}
	}
}

// P10.1: a delete and a revert find the snapshot of their ID alone.
func TestMayOfDeletesAndReverts(t *testing.T) {
	snaps := []model.Named{{ID: 2, Name: "a"}, {ID: 5, Name: "b"}, {ID: 254, Name: "c"}}
	for _, what := range []int{remove, revert} {
		for _, id := range append(anySize(), 4, 5, 6, 253) {
			want := api.ErrNone
			if id == 2 || id == 5 || id == 254 {
				want = api.OK
			}
			wantMay(t, 9, snaps, 255, model.Op{What: what, ID: id}, want)
			wantMay(t, 0, snaps, 255, model.Op{What: what, At: -1, N: -1, ID: id, Name: "a", Data: full(3, 3)}, want)
			wantMay(t, 9, nil, 255, model.Op{What: what, ID: id}, api.ErrNone)
		}
	}
}

// P10.1: nothing is wrong with a list, whatever else it has.
func TestMayOfLists(t *testing.T) {
	for _, n := range anySize() {
		wantMay(t, n, nil, n, model.Op{What: list, At: n, N: n, ID: n, Data: full(3, 3)}, api.OK)
		wantMay(t, 0, named(letters(8)...), 255, model.Op{What: list, N: n, Name: "a"}, api.OK)
	}
}

// P10.1: a resize to sizes at the bounds and beyond.
func TestMayOfResizes(t *testing.T) {
	for _, n := range anySize() {
		want := api.ErrRange
		if n >= 0 && n <= 65536 {
			want = api.OK
		}
		for _, size := range []int{0, 9, 65536} {
			wantMay(t, size, nil, 1, model.Op{What: resize, N: n}, want)
			wantMay(t, size, nil, 1, model.Op{What: resize, At: -1, N: n, ID: -1, Data: full(3, 3)}, want)
		}
	}
}

// P10.1, P1: sizes, places and lengths as great as numbers go, each beside
// each; sums that go round do not fit.
func TestMayOfAnySize(t *testing.T) {
	data := map[int][]byte{0: nil, 63: full(63, 1), 64: full(64, 1), 4096: full(4096, 1), 4160: full(4160, 1)}
	for _, size := range anySize() {
		for _, at := range anySize() {
			for _, n := range anySize() {
				for _, what := range []int{read, discard} {
					x := model.Op{What: what, At: at, N: n}
					wantMay(t, size, nil, 1, x, plainMay(size, nil, 1, x))
				}
			}
			for _, b := range data {
				x := model.Op{What: write, At: at, N: 1, Data: b}
				wantMay(t, size, nil, 1, x, plainMay(size, nil, 1, x))
			}
		}
	}
}

// P10.1: all small sizes, places and lengths.
func TestMayOfSmallSizes(t *testing.T) {
	for size := -2; size <= 5; size++ {
		for at := -2; at <= 6; at++ {
			for n := -2; n <= 6; n++ {
				for what := range 10 {
					x := model.Op{What: what, At: at, N: n, ID: n, Name: "ab"[:max(n, 0)%3], Data: full(max(n, 0)*32, 1)}
					snaps, next := named(letters(max(at, 0))...), 252+max(at, 0)
					wantMay(t, size, snaps, next, x, plainMay(size, snaps, next, x))
				}
			}
		}
	}
}
