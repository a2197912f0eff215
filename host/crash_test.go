package host_test

import (
	"slices"
	"testing"

	"flagstone/api"
	"flagstone/host"
)

// Example 1 of the chapter: what waited is lost where nothing is kept.
func TestExample(t *testing.T) {
	s, _ := host.New(4)
	s = mustAll(t, s, resizing(2), host.Flush, writing(1, 7))
	lost, err := host.Crash(s, nil)
	if err != api.OK || !same(lost, host.State{Cap: 4, Sectors: sectors(0, 0)}) {
		t.Errorf("P3.2: example 1: %v, %d", lost, err)
	}
	kept, err := host.Crash(s, []bool{true})
	if err != api.OK || !same(kept, host.State{Cap: 4, Sectors: sectors(0, 7)}) {
		t.Errorf("P3.2: example 1, kept: %v, %d", kept, err)
	}
}

// P3.2: just those acts are done, in order, of which keep says so; an act
// without a word of keep is not, and words without an act are nothing.
func TestCrash(t *testing.T) {
	waits := []host.Act{{write, 0, full(7)}, {length, 4, nil}, {write, 3, full(8)}, {write, 0, full(9)}}
	rows := []struct {
		keep []bool
		want [][]byte
	}{
		{nil, sectors(1, 2)},
		{[]bool{}, sectors(1, 2)},
		{[]bool{false}, sectors(1, 2)},
		{[]bool{false, false, false, false}, sectors(1, 2)},
		{[]bool{true}, sectors(7, 2)},
		{[]bool{true, true}, sectors(7, 2, 0, 0)},
		{[]bool{true, true, true}, sectors(7, 2, 0, 8)},
		{[]bool{true, true, true, true}, sectors(9, 2, 0, 8)},
		{[]bool{true, true, true, true, true, false, true}, sectors(9, 2, 0, 8)},
		{[]bool{false, true}, sectors(1, 2, 0, 0)},
		{[]bool{false, true, true}, sectors(1, 2, 0, 8)},
		{[]bool{false, false, true}, sectors(1, 2)},
		{[]bool{true, false, true, true}, sectors(9, 2)},
		{[]bool{false, false, false, true}, sectors(9, 2)},
		{[]bool{false, false, false, false, true}, sectors(1, 2)},
	}
	for _, r := range rows {
		s := host.State{Cap: 5, Sectors: sectors(1, 2), Waits: waits}
		next, err := host.Crash(s, r.keep)
		if err != api.OK || !same(next, host.State{Cap: 5, Sectors: r.want}) {
			t.Errorf("P3.2: Crash(%v): %v, %d; want %v", r.keep, next, err, r.want)
		}
	}
}

// P3.2: a length that is lost leaves what it would have cut off, and a write
// that was to go behind it does nothing.
func TestCrashLosesLengths(t *testing.T) {
	s, _ := host.New(4)
	s.Sectors = sectors(1, 2, 3)
	s = mustAll(t, s, resizing(1), resizing(4), writing(3, 9))
	rows := []struct {
		keep []bool
		want [][]byte
	}{
		{[]bool{true, false, false}, sectors(1)},
		{[]bool{false, true, false}, sectors(1, 2, 3, 0)},
		{[]bool{false, false, true}, sectors(1, 2, 3)},
		{[]bool{true, true, false}, sectors(1, 0, 0, 0)},
		{[]bool{true, false, true}, sectors(1)},
		{[]bool{false, true, true}, sectors(1, 2, 3, 9)},
		{[]bool{true, true, true}, sectors(1, 0, 0, 9)},
	}
	for _, r := range rows {
		next, err := host.Crash(s, r.keep)
		if err != api.OK || !sameSectors(next.Sectors, r.want) || len(next.Waits) != 0 {
			t.Errorf("P3.2: Crash(%v): %v, %d; want %v", r.keep, next, err, r.want)
		}
	}
}

// P3.4: behind Flush a crash changes nothing, whatever it keeps.
func TestCrashBehindFlush(t *testing.T) {
	for name, s := range mayBe() {
		flushed := mustAll(t, s, host.Flush)
		for _, keep := range [][]bool{nil, {false}, {true, true, true}} {
			next, err := host.Crash(flushed, keep)
			if err != api.OK || !same(next, flushed) {
				t.Errorf("P3.4: %s, Crash(%v): %d", name, keep, err)
			}
		}
	}
}

// P3.2: a crash that keeps all is a Flush, one that keeps none the sectors.
func TestCrashOfAllAndNone(t *testing.T) {
	all := slices.Repeat([]bool{true}, api.MaxWaits)
	for name, s := range mayBe() {
		kept, err := host.Crash(s, all)
		if err != api.OK || !same(kept, mustAll(t, s, host.Flush)) {
			t.Errorf("P3.2: %s: a crash that keeps all: %d", name, err)
		}
		lost, err := host.Crash(s, nil)
		if err != api.OK || !same(lost, host.State{Cap: s.Cap, Sectors: s.Sectors}) {
			t.Errorf("P3.2: %s: a crash that keeps none: %d", name, err)
		}
	}
}

// numbers hands out a row of numbers that is the same each time.
func numbers(seed uint64) func(below int) int {
	return func(below int) int {
		seed = seed*6364136223846793005 + 1442695040888963407
		return int(seed >> 33 % uint64(below))
	}
}

// someHost is a host with sectors and acts of all kinds, some of them to
// sectors that are not there when they are done.
func someHost(next func(int) int) host.State {
	s := host.State{Cap: 1 + next(6)}
	for range next(s.Cap + 1) {
		s.Sectors = append(s.Sectors, full(byte(1+next(100))))
	}
	for range next(9) {
		if next(3) == 0 {
			s.Waits = append(s.Waits, host.Act{What: length, At: next(s.Cap + 1)})
		} else {
			s.Waits = append(s.Waits, host.Act{What: write, At: next(s.Cap), Data: full(byte(101 + next(100)))})
		}
	}
	return s
}

// doneSlowly does those acts by the chapter's words, a sector at a time.
func doneSlowly(s host.State, keep []bool) [][]byte {
	out := copyOf(s).Sectors
	for i, act := range s.Waits {
		if i >= len(keep) || !keep[i] {
			continue
		}
		if act.What == write && act.At < len(out) {
			out[act.At] = slices.Clone(act.Data)
		}
		for act.What == length && len(out) > act.At {
			out = out[:len(out)-1]
		}
		for act.What == length && len(out) < act.At {
			out = append(out, full(0))
		}
	}
	return out
}

// P3.1, P3.2, P3.5: hosts of all kinds and crashes of all kinds, held against
// the chapter's words, and each sector against what it may be.
func TestManyCrashes(t *testing.T) {
	next := numbers(3)
	for range 20000 {
		s := someHost(next)
		keep := make([]bool, next(11))
		for i := range keep {
			keep[i] = next(2) == 0
		}
		crashed, err := host.Crash(s, keep)
		if err != api.OK || !same(crashed, host.State{Cap: s.Cap, Sectors: doneSlowly(s, keep)}) {
			t.Fatalf("P3.2: Crash(%v, %v): %v, %d", s, keep, crashed, err)
		}
		for at, b := range crashed.Sectors {
			may := slices.Equal(b, full(0)) || at < len(s.Sectors) && slices.Equal(b, s.Sectors[at])
			for _, act := range s.Waits {
				may = may || act.What == write && act.At == at && slices.Equal(b, act.Data)
			}
			if !may {
				t.Fatalf("P3.5: Crash(%v, %v): sector %d: % x", s, keep, at, b)
			}
		}
		want := doneSlowly(s, slices.Repeat([]bool{true}, len(s.Waits)))
		for at, sector := range want {
			if b, err := host.Read(s, at); err != api.OK || !slices.Equal(b, sector) {
				t.Fatalf("P3.1: Read(%v, %d): % x, %d", s, at, b, err)
			}
		}
	}
}
