package host_test

import (
	"slices"
	"testing"

	"flagstone/api"
	"flagstone/host"
)

const (
	write  = 1
	length = 2
)

// full is a sector all of whose octets are n.
func full(n byte) []byte {
	return slices.Repeat([]byte{n}, api.Sector)
}

// sectors has a full sector for each number.
func sectors(numbers ...byte) [][]byte {
	out := make([][]byte, 0, len(numbers))
	for _, n := range numbers {
		out = append(out, full(n))
	}
	return out
}

// empties has so many sectors of zeros.
func empties(count int) [][]byte {
	return sectors(make([]byte, count)...)
}

// lengths has so many acts that say how long the host is.
func lengths(count, at int) []host.Act {
	return slices.Repeat([]host.Act{{What: length, At: at}}, count)
}

func sameSectors(a, b [][]byte) bool {
	return slices.EqualFunc(a, b, slices.Equal[[]byte])
}

func sameAct(a, b host.Act) bool {
	return a.What == b.What && a.At == b.At && slices.Equal(a.Data, b.Data)
}

// same holds two states against each other; nil and empty lists are one.
func same(a, b host.State) bool {
	return a.Cap == b.Cap && sameSectors(a.Sectors, b.Sectors) && slices.EqualFunc(a.Waits, b.Waits, sameAct)
}

// isZero tells whether s is what stands beside an error.
func isZero(s host.State) bool {
	return same(s, host.State{})
}

func copyOf(s host.State) host.State {
	out := host.State{Cap: s.Cap}
	for _, b := range s.Sectors {
		out.Sectors = append(out.Sectors, slices.Clone(b))
	}
	for _, act := range s.Waits {
		act.Data = slices.Clone(act.Data)
		out.Waits = append(out.Waits, act)
	}
	return out
}

// mustAll goes on from s by steps that none may refuse.
func mustAll(t *testing.T, s host.State, steps ...func(host.State) (host.State, api.Errno)) host.State {
	t.Helper()
	for i, step := range steps {
		next, err := step(s)
		if err != api.OK {
			t.Fatalf("step %d: %d", i, err)
		}
		s = next
	}
	return s
}

func writing(at int, n byte) func(host.State) (host.State, api.Errno) {
	return func(s host.State) (host.State, api.Errno) { return host.Write(s, at, full(n)) }
}

func resizing(n int) func(host.State) (host.State, api.Errno) {
	return func(s host.State) (host.State, api.Errno) { return host.Resize(s, n) }
}

// P3.1: a Cap from 1 to MaxHost, and no sectors.
func TestNew(t *testing.T) {
	for _, cap := range []int{1, 2, 64, api.MaxHost - 1, api.MaxHost} {
		s, err := host.New(cap)
		if err != api.OK || !same(s, host.State{Cap: cap}) {
			t.Errorf("P3.1: New(%d): %d sectors, %d waits, Cap %d, %d", cap, len(s.Sectors), len(s.Waits), s.Cap, err)
		}
		if err := host.Check(s); err != api.OK {
			t.Errorf("P3.1: Check(New(%d)): %d", cap, err)
		}
		if n, err := host.Length(s); n != 0 || err != api.OK {
			t.Errorf("P3.1: Length(New(%d)): %d, %d", cap, n, err)
		}
	}
	for _, cap := range []int{0, -1, api.MaxHost + 1, -1 << 63, 1<<63 - 1} {
		if s, err := host.New(cap); err != api.ErrRange || !isZero(s) {
			t.Errorf("P3.1: New(%d): %v, %d; want ErrRange", cap, s, err)
		}
	}
}

// mayBe has states that may be, each at an edge of what the chapter asks.
func mayBe() map[string]host.State {
	return map[string]host.State{
		"the least Cap":                 {Cap: 1},
		"empty lists":                   {Cap: 1, Sectors: [][]byte{}, Waits: []host.Act{}},
		"the greatest Cap":              {Cap: api.MaxHost},
		"as many sectors as Cap":        {Cap: 3, Sectors: empties(3)},
		"all sectors that may be":       {Cap: api.MaxHost, Sectors: empties(api.MaxHost)},
		"a write at 0":                  {Cap: 1, Sectors: empties(1), Waits: []host.Act{{write, 0, full(1)}}},
		"a write at Cap less one":       {Cap: 5, Sectors: empties(5), Waits: []host.Act{{write, 4, full(1)}}},
		"a write behind the sectors":    {Cap: 5, Waits: []host.Act{{write, 4, full(1)}}},
		"a write behind the length":     {Cap: 5, Sectors: empties(5), Waits: []host.Act{{length, 1, nil}, {write, 4, full(1)}}},
		"a length of 0":                 {Cap: 5, Sectors: empties(5), Waits: []host.Act{{length, 0, nil}}},
		"a length of Cap":               {Cap: 5, Waits: []host.Act{{length, 5, nil}}},
		"a length with an empty Data":   {Cap: 5, Waits: []host.Act{{length, 5, []byte{}}}},
		"4096 acts that wait":           {Cap: 5, Waits: lengths(api.MaxWaits, 5)},
		"one less than 4096 that wait":  {Cap: 5, Waits: lengths(api.MaxWaits-1, 5)},
		"a write to the greatest place": {Cap: api.MaxHost, Waits: []host.Act{{write, api.MaxHost - 1, full(1)}}},
	}
}

// mayNotBe has states that may not be, each for one reason alone.
func mayNotBe() map[string]host.State {
	lastOdd := append(empties(2), full(1)[:63])
	return map[string]host.State{
		"nothing":                        {},
		"a Cap below 0":                  {Cap: -1},
		"the least number as Cap":        {Cap: -1 << 63},
		"a Cap above MaxHost":            {Cap: api.MaxHost + 1},
		"the greatest number as Cap":     {Cap: 1<<63 - 1},
		"sectors and no Cap":             {Sectors: empties(1)},
		"one sector more than Cap":       {Cap: 3, Sectors: empties(4)},
		"one sector more than MaxHost":   {Cap: api.MaxHost, Sectors: empties(api.MaxHost + 1)},
		"a nil sector":                   {Cap: 3, Sectors: [][]byte{nil}},
		"an empty sector":                {Cap: 3, Sectors: [][]byte{{}}},
		"a last sector that is short":    {Cap: 3, Sectors: lastOdd},
		"a first sector that is long":    {Cap: 3, Sectors: [][]byte{make([]byte, 65), full(1)}},
		"4097 acts that wait":            {Cap: 5, Waits: lengths(api.MaxWaits+1, 5)},
		"an act of number 0":             {Cap: 5, Waits: []host.Act{{}}},
		"an act of number 3":             {Cap: 5, Waits: []host.Act{{3, 0, nil}}},
		"an act of number 3 with a page": {Cap: 5, Waits: []host.Act{{3, 0, full(1)}}},
		"an act of number -1":            {Cap: 5, Waits: []host.Act{{-1, 0, full(1)}}},
		"a write below 0":                {Cap: 5, Sectors: empties(5), Waits: []host.Act{{write, -1, full(1)}}},
		"a write at Cap":                 {Cap: 5, Sectors: empties(5), Waits: []host.Act{{write, 5, full(1)}}},
		"a write far off":                {Cap: 5, Sectors: empties(5), Waits: []host.Act{{write, 1<<63 - 1, full(1)}}},
		"a write without Data":           {Cap: 5, Sectors: empties(5), Waits: []host.Act{{write, 0, nil}}},
		"a write of 63 octets":           {Cap: 5, Sectors: empties(5), Waits: []host.Act{{write, 0, make([]byte, 63)}}},
		"a write of 65 octets":           {Cap: 5, Sectors: empties(5), Waits: []host.Act{{write, 0, make([]byte, 65)}}},
		"a length below 0":               {Cap: 5, Waits: []host.Act{{length, -1, nil}}},
		"a length above Cap":             {Cap: 5, Waits: []host.Act{{length, 6, nil}}},
		"a length with Data":             {Cap: 5, Waits: []host.Act{{length, 5, full(1)}}},
		"a length with one octet":        {Cap: 5, Waits: []host.Act{{length, 5, []byte{0}}}},
		"an odd act behind others":       {Cap: 5, Waits: []host.Act{{length, 5, nil}, {write, 1, full(1)}, {length, 6, nil}}},
	}
}

// P3.1: Check takes what may be, at each edge.
func TestCheckTakes(t *testing.T) {
	for name, s := range mayBe() {
		if err := host.Check(s); err != api.OK {
			t.Errorf("P3.1: %s: %d", name, err)
		}
	}
}

// P3.1: ErrState for each state that may not be.
func TestCheckRefuses(t *testing.T) {
	for name, s := range mayNotBe() {
		if err := host.Check(s); err != api.ErrState {
			t.Errorf("P3.1: %s: %d; want ErrState", name, err)
		}
	}
}

// P3.1, P3.2, P4: Check's error goes ahead of each other one, and beside it
// there is nothing.
func TestAllRefuseWhatMayNotBe(t *testing.T) {
	for name, s := range mayNotBe() {
		if n, err := host.Length(s); n != 0 || err != api.ErrState {
			t.Errorf("P3.1: Length, %s: %d, %d", name, n, err)
		}
		for _, at := range []int{-1, 0, 9} {
			if b, err := host.Read(s, at); len(b) != 0 || err != api.ErrState {
				t.Errorf("P3.1: Read(%d), %s: % x, %d", at, name, b, err)
			}
			if next, err := host.Resize(s, at); !isZero(next) || err != api.ErrState {
				t.Errorf("P3.1: Resize(%d), %s: %v, %d", at, name, next, err)
			}
			for _, data := range [][]byte{nil, full(1)} {
				if next, err := host.Write(s, at, data); !isZero(next) || err != api.ErrState {
					t.Errorf("P3.1: Write(%d), %s: %v, %d", at, name, next, err)
				}
			}
		}
		if next, err := host.Flush(s); !isZero(next) || err != api.ErrState {
			t.Errorf("P3.1: Flush, %s: %v, %d", name, next, err)
		}
		for _, keep := range [][]bool{nil, {true, true, true}} {
			if next, err := host.Crash(s, keep); !isZero(next) || err != api.ErrState {
				t.Errorf("P3.2: Crash, %s: %v, %d", name, next, err)
			}
		}
	}
}

// P3.1: the length is what the last length that waits says, or how many
// sectors there are; writes do not change it.
func TestLength(t *testing.T) {
	rows := []struct {
		name  string
		state host.State
		want  int
	}{
		{"no sectors", host.State{Cap: 5}, 0},
		{"sectors alone", host.State{Cap: 5, Sectors: empties(3)}, 3},
		{"a write", host.State{Cap: 5, Sectors: empties(3), Waits: []host.Act{{write, 4, full(1)}}}, 3},
		{"a length", host.State{Cap: 5, Sectors: empties(3), Waits: []host.Act{{length, 5, nil}}}, 5},
		{"a length of 0", host.State{Cap: 5, Sectors: empties(3), Waits: []host.Act{{length, 0, nil}}}, 0},
		{"the last of several", host.State{Cap: 5, Sectors: empties(3), Waits: []host.Act{{length, 5, nil}, {length, 1, nil}, {length, 2, nil}}}, 2},
		{"the last of several, with writes", host.State{Cap: 5, Waits: []host.Act{{length, 1, nil}, {length, 4, nil}, {write, 0, full(1)}, {write, 4, full(1)}}}, 4},
	}
	for _, r := range rows {
		if n, err := host.Length(r.state); n != r.want || err != api.OK {
			t.Errorf("P3.1: Length, %s: %d, %d; want %d", r.name, n, err, r.want)
		}
	}
}
