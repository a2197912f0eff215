package host_test

import (
	"slices"
	"testing"

	"flagstone/api"
	"flagstone/host"
)

// roomy has memory behind its end, in which a call might write.
func roomy[T any](list []T, behind T) []T {
	out := append(make([]T, 0, len(list)+3), list...)
	return append(out, behind, behind, behind)[:len(list)]
}

// roomyHost is a host each of whose lists has memory behind it.
func roomyHost() host.State {
	s := host.State{Cap: 5}
	for _, b := range sectors(1, 2, 3) {
		s.Sectors = append(s.Sectors, roomy(b, 0xe1))
	}
	s.Sectors = roomy(s.Sectors, full(0xe2))
	s.Waits = roomy([]host.Act{
		{write, 1, roomy(full(8), 0xe3)},
		{length, 4, roomy([]byte{}, 0xe4)},
		{write, 3, roomy(full(9), 0xe5)},
	}, host.Act{What: length, At: 1})
	return s
}

// spread has each octet of s, those behind its lists' ends too.
func spread(s host.State) [][]byte {
	var out [][]byte
	for _, b := range s.Sectors[:cap(s.Sectors)] {
		out = append(out, b[:cap(b)])
	}
	for _, act := range s.Waits[:cap(s.Waits)] {
		out = append(out, []byte{byte(act.What), byte(act.At)}, act.Data[:cap(act.Data)])
	}
	return out
}

// clones has lists of its own with the same octets.
func clones(lists [][]byte) [][]byte {
	out := make([][]byte, 0, len(lists))
	for _, b := range lists {
		out = append(out, slices.Clone(b))
	}
	return out
}

// snapshot is what spread tells now.
func snapshot(s host.State) [][]byte {
	return clones(spread(s))
}

// spoil changes all that s can reach, those behind its lists' ends too.
func spoil(s host.State) {
	for _, b := range spread(s) {
		for i := range b {
			b[i] ^= 0x55
		}
	}
	for i := range s.Sectors[:cap(s.Sectors)] {
		s.Sectors[:cap(s.Sectors)][i] = nil
	}
	for i := range s.Waits[:cap(s.Waits)] {
		s.Waits[:cap(s.Waits)][i] = host.Act{What: 77}
	}
}

// calls has each call that answers a state.
func calls() map[string]func(s host.State) host.State {
	first := func(s host.State, _ api.Errno) host.State { return s }
	return map[string]func(s host.State) host.State{
		"Write":  func(s host.State) host.State { return first(host.Write(s, 3, full(7))) },
		"Resize": func(s host.State) host.State { return first(host.Resize(s, 2)) },
		"Flush":  func(s host.State) host.State { return first(host.Flush(s)) },
		"Crash":  func(s host.State) host.State { return first(host.Crash(s, []bool{true, true})) },
		"Read": func(s host.State) host.State {
			b, _ := host.Read(s, 1)
			return host.State{Sectors: [][]byte{b}}
		},
	}
}

// P3.6, P2: neither what is handed in nor the memory behind it is changed,
// and a change of an answer is not seen in it.
func TestArgumentsStay(t *testing.T) {
	for name, call := range calls() {
		s := roomyHost()
		before := snapshot(s)
		out := call(s)
		if !sameSectors(snapshot(s), before) {
			t.Errorf("P3.6: %s changes what is handed in", name)
		}
		spoil(out)
		if !sameSectors(snapshot(s), before) {
			t.Errorf("P3.6: %s shares memory with what is handed in", name)
		}
	}
	s := roomyHost()
	before := snapshot(s)
	host.Check(s)
	host.Length(s)
	if !sameSectors(snapshot(s), before) {
		t.Error("P3.6: Check or Length changes what is handed in")
	}
}

// P3.6, P2: what becomes of the argument, or of another answer, later is not
// seen in an answer.
func TestAnswersKeepNoArgument(t *testing.T) {
	for name, call := range calls() {
		s := roomyHost()
		out, other := call(s), call(s)
		want := copyOf(out)
		spoil(s)
		spoil(other)
		if !same(out, want) {
			t.Errorf("P3.6: %s keeps what is handed in, or what it answered", name)
		}
	}
}

// P3.6, P2: no two lists of an answer share memory, even where those of the
// argument do.
func TestListsOfAnAnswerShareNone(t *testing.T) {
	for name, call := range calls() {
		one := full(6)
		s := host.State{Cap: 5, Sectors: [][]byte{one, one, one, one}}
		s.Waits = []host.Act{{write, 1, one}, {write, 2, one}, {length, 4, one[:0]}}
		lists := spread(call(s))
		for i := range lists {
			want := clones(lists)
			for k := range lists[i] {
				lists[i][k] ^= 0x55
				want[i][k] ^= 0x55
			}
			if !sameSectors(lists, want) {
				t.Errorf("P3.6: %s: list %d shares memory with another", name, i)
			}
		}
	}
}

// P3.6, P2: neither data nor keep is changed or kept.
func TestDataAndKeepStay(t *testing.T) {
	data := roomy(full(7), 0xe1)
	s, err := host.Write(host.State{Cap: 2, Sectors: empties(2)}, 1, data)
	if err != api.OK || !slices.Equal(data, full(7)) || data[:cap(data)][api.Sector] != 0xe1 {
		t.Errorf("P3.6: Write changes data: % x, %d", data, err)
	}
	clear(data[:cap(data)])
	if b, err := host.Read(s, 1); err != api.OK || !slices.Equal(b, full(7)) {
		t.Errorf("P3.6: Write keeps data: % x, %d", b, err)
	}
	keep := roomy([]bool{true}, true)
	s.Waits = append(s.Waits, host.Act{What: length, At: 0})
	crashed, err := host.Crash(s, keep)
	if err != api.OK || len(crashed.Sectors) != 2 || !slices.Equal(keep[:cap(keep)], []bool{true, true, true, true}) {
		t.Errorf("P3.6: Crash reads behind keep, or changes it: %v, %d sectors, %d", keep, len(crashed.Sectors), err)
	}
}

// P3: a call hangs on its arguments alone, not on the calls ahead of it.
func TestCallsKeepNothing(t *testing.T) {
	for name, call := range calls() {
		first := call(roomyHost())
		for _, other := range calls() {
			other(host.State{Cap: 1, Sectors: sectors(4), Waits: lengths(9, 1)})
		}
		if again := call(roomyHost()); !same(again, first) {
			t.Errorf("P3: %s answers otherwise when it is called again", name)
		}
	}
}
