package host_test

import (
	"slices"
	"testing"

	"flagstone/api"
	"flagstone/host"
)

// P3.1: a write waits behind what waited; the sectors stay as they were.
func TestWriteWaits(t *testing.T) {
	s := host.State{Cap: 5, Sectors: sectors(1, 2, 3), Waits: []host.Act{{write, 1, full(8)}, {length, 4, nil}}}
	for at := range 4 {
		next, err := host.Write(s, at, full(9))
		want := copyOf(s)
		want.Waits = append(want.Waits, host.Act{What: write, At: at, Data: full(9)})
		if err != api.OK || !same(next, want) {
			t.Errorf("P3.1: Write(%d): %v, %d", at, next, err)
		}
	}
}

// P3.1: ErrRange where the length ends, whatever the sectors and Cap are.
func TestWriteAndReadRange(t *testing.T) {
	rows := []struct {
		name  string
		state host.State
		count int
	}{
		{"a new one", host.State{Cap: 5}, 0},
		{"sectors", host.State{Cap: 5, Sectors: empties(3)}, 3},
		{"full", host.State{Cap: 5, Sectors: empties(5)}, 5},
		{"it grows", host.State{Cap: 5, Sectors: empties(1), Waits: lengths(1, 4)}, 4},
		{"it shrinks", host.State{Cap: 5, Sectors: empties(5), Waits: lengths(1, 2)}, 2},
		{"it goes", host.State{Cap: 5, Sectors: empties(5), Waits: lengths(1, 0)}, 0},
		{"the last of two", host.State{Cap: 5, Waits: append(lengths(1, 5), lengths(1, 1)...)}, 1},
	}
	for _, r := range rows {
		for _, at := range []int{-1 << 63, -1, 0, 1, r.count - 1, r.count, r.count + 1, 5, 6, 1<<63 - 1} {
			want := api.ErrRange
			if at >= 0 && at < r.count {
				want = api.OK
			}
			if next, err := host.Write(r.state, at, full(7)); err != want || isZero(next) != (err != api.OK) {
				t.Errorf("P3.1: Write(%d), %s: %d; want %d", at, r.name, err, want)
			}
			if b, err := host.Read(r.state, at); err != want || (len(b) == api.Sector) != (err == api.OK) || len(b) != 0 && err != api.OK {
				t.Errorf("P3.1: Read(%d), %s: %d octets, %d; want %d", at, r.name, len(b), err, want)
			}
		}
	}
}

// P3.1: ErrArg: data is not one sector.
func TestWriteOneSectorOnly(t *testing.T) {
	s := host.State{Cap: 5, Sectors: empties(3)}
	for _, count := range []int{0, 1, 63, 64, 65, 128} {
		want := api.ErrArg
		if count == api.Sector {
			want = api.OK
		}
		if next, err := host.Write(s, 1, make([]byte, count)); err != want || isZero(next) != (err != api.OK) {
			t.Errorf("P3.1: Write of %d octets: %d; want %d", count, err, want)
		}
	}
	if _, err := host.Write(s, 1, nil); err != api.ErrArg {
		t.Errorf("P3.1: Write of nil: %d; want ErrArg", err)
	}
}

// P3.1: ErrSpace where 4096 acts wait, and not where one less does.
func TestNoMoreThan4096Wait(t *testing.T) {
	s := host.State{Cap: 5, Sectors: empties(3), Waits: lengths(api.MaxWaits-1, 3)}
	written, err := host.Write(s, 2, full(1))
	if err != api.OK || len(written.Waits) != api.MaxWaits || host.Check(written) != api.OK {
		t.Errorf("P3.1: the 4096th act, a write: %d wait, %d", len(written.Waits), err)
	}
	resized, err := host.Resize(s, 5)
	if err != api.OK || len(resized.Waits) != api.MaxWaits || host.Check(resized) != api.OK {
		t.Errorf("P3.1: the 4096th act, a length: %d wait, %d", len(resized.Waits), err)
	}
	for _, s := range []host.State{written, resized} {
		if next, err := host.Write(s, 0, full(1)); err != api.ErrSpace || !isZero(next) {
			t.Errorf("P3.1: Write where 4096 wait: %d; want ErrSpace", err)
		}
		if next, err := host.Resize(s, 0); err != api.ErrSpace || !isZero(next) {
			t.Errorf("P3.1: Resize where 4096 wait: %d; want ErrSpace", err)
		}
		flushed := mustAll(t, s, host.Flush)
		mustAll(t, flushed, writing(0, 1), resizing(0))
	}
}

// P3.1, P4: of several errors the first that the chapter names.
func TestOrderOfErrors(t *testing.T) {
	crowd := host.State{Cap: 5, Sectors: empties(3), Waits: lengths(api.MaxWaits, 3)}
	if _, err := host.Write(crowd, 3, nil); err != api.ErrRange {
		t.Errorf("P4: Write: a wrong place, no data, no room: %d; want ErrRange", err)
	}
	if _, err := host.Write(crowd, -1, full(1)); err != api.ErrRange {
		t.Errorf("P4: Write: a wrong place, no room: %d; want ErrRange", err)
	}
	if _, err := host.Write(crowd, 0, full(1)[1:]); err != api.ErrArg {
		t.Errorf("P4: Write: wrong data, no room: %d; want ErrArg", err)
	}
	if _, err := host.Resize(crowd, -1); err != api.ErrRange {
		t.Errorf("P4: Resize: below 0, no room: %d; want ErrRange", err)
	}
	if _, err := host.Resize(crowd, 6); err != api.ErrSpace {
		t.Errorf("P4: Resize: above Cap, no room: %d; want ErrSpace", err)
	}
}

// P3.1: a length from 0 to Cap waits; the sectors stay as they were.
func TestResizeWaits(t *testing.T) {
	s := host.State{Cap: 5, Sectors: sectors(1, 2, 3), Waits: []host.Act{{write, 1, full(8)}}}
	for n := range 6 {
		next, err := host.Resize(s, n)
		want := copyOf(s)
		want.Waits = append(want.Waits, host.Act{What: length, At: n})
		if err != api.OK || !same(next, want) {
			t.Errorf("P3.1: Resize(%d): %v, %d", n, next, err)
		}
	}
	for n, want := range map[int]api.Errno{-1: api.ErrRange, -1 << 63: api.ErrRange, 6: api.ErrSpace, 1<<63 - 1: api.ErrSpace} {
		if next, err := host.Resize(s, n); err != want || !isZero(next) {
			t.Errorf("P3.1: Resize(%d): %d; want %d", n, err, want)
		}
	}
}

// P3.1: all sectors that there may be come, and go.
func TestResizeToMaxHost(t *testing.T) {
	s, _ := host.New(api.MaxHost)
	s = mustAll(t, s, resizing(api.MaxHost), writing(api.MaxHost-1, 7), host.Flush)
	if len(s.Sectors) != api.MaxHost || !slices.Equal(s.Sectors[api.MaxHost-1], full(7)) || !slices.Equal(s.Sectors[0], full(0)) {
		t.Errorf("P3.1: %d sectors", len(s.Sectors))
	}
	if _, err := host.Resize(s, api.MaxHost+1); err != api.ErrSpace {
		t.Errorf("P3.1: Resize above MaxHost: %d; want ErrSpace", err)
	}
	if s = mustAll(t, s, resizing(0), host.Flush); len(s.Sectors) != 0 {
		t.Errorf("P3.1: %d sectors; want none", len(s.Sectors))
	}
}

// P1: lengths that come and go as often as may be, at their greatest, end.
func TestLengthsThatComeAndGo(t *testing.T) {
	s := host.State{Cap: api.MaxHost, Sectors: empties(api.MaxHost)}
	for i := range api.MaxWaits {
		s.Waits = append(s.Waits, host.Act{What: length, At: i % 2 * api.MaxHost})
	}
	if next := mustAll(t, s, host.Flush); len(next.Sectors) != api.MaxHost {
		t.Errorf("P3.1: %d sectors", len(next.Sectors))
	}
}

// P3.1: what acts do, one after another, is what Flush leaves, and what Read
// tells ahead of it and behind it.
func TestWhatActsDo(t *testing.T) {
	rows := []struct {
		name  string
		had   [][]byte
		waits []host.Act
		want  [][]byte
	}{
		{"nothing waits", sectors(1, 2), nil, sectors(1, 2)},
		{"a write", sectors(1, 2, 3), []host.Act{{write, 1, full(9)}}, sectors(1, 9, 3)},
		{"the later of two writes", sectors(1, 2), []host.Act{{write, 0, full(8)}, {write, 0, full(9)}}, sectors(9, 2)},
		{"zeros come", sectors(1), []host.Act{{length, 3, nil}}, sectors(1, 0, 0)},
		{"sectors go", sectors(1, 2, 3), []host.Act{{length, 1, nil}}, sectors(1)},
		{"all go", sectors(1, 2, 3), []host.Act{{length, 0, nil}}, nil},
		{"the length stays", sectors(1, 2), []host.Act{{length, 2, nil}}, sectors(1, 2)},
		{"what went comes back as zeros", sectors(1, 2, 3), []host.Act{{length, 1, nil}, {length, 3, nil}}, sectors(1, 0, 0)},
		{"what was written went", sectors(1, 2), []host.Act{{write, 1, full(9)}, {length, 1, nil}, {length, 2, nil}}, sectors(1, 0)},
		{"a write into what came", sectors(1), []host.Act{{length, 3, nil}, {write, 2, full(9)}}, sectors(1, 0, 9)},
		{"a write behind a shorter length", sectors(1, 2, 3), []host.Act{{length, 1, nil}, {write, 2, full(9)}}, sectors(1)},
		{"a write behind a shorter length, that grows again", sectors(1, 2, 3), []host.Act{{length, 1, nil}, {write, 2, full(9)}, {length, 3, nil}}, sectors(1, 0, 0)},
		{"a write ahead of the sector", sectors(1), []host.Act{{write, 2, full(9)}, {length, 3, nil}}, sectors(1, 0, 0)},
		{"a write where no sector is", nil, []host.Act{{write, 0, full(9)}}, nil},
		{"a write at the length", sectors(1, 2), []host.Act{{write, 2, full(9)}, {length, 4, nil}}, sectors(1, 2, 0, 0)},
		{"a write of zeros", sectors(1, 2), []host.Act{{write, 0, full(0)}}, sectors(0, 2)},
		{"several lengths", sectors(1, 2), []host.Act{{length, 4, nil}, {write, 3, full(9)}, {length, 3, nil}, {length, 4, nil}, {write, 1, full(8)}, {length, 2, nil}}, sectors(1, 8)},
	}
	for _, r := range rows {
		s := host.State{Cap: 5, Sectors: r.had, Waits: r.waits}
		next, err := host.Flush(s)
		if err != api.OK || !same(next, host.State{Cap: 5, Sectors: r.want}) {
			t.Errorf("P3.1: Flush, %s: %v, %d; want %v", r.name, next, err, r.want)
		}
		if n, err := host.Length(s); n != len(r.want) || err != api.OK {
			t.Errorf("P3.1: Length, %s: %d, %d; want %d", r.name, n, err, len(r.want))
		}
		for at, want := range r.want {
			if b, err := host.Read(s, at); err != api.OK || !slices.Equal(b, want) {
				t.Errorf("P3.1: Read(%d), %s: % x, %d", at, r.name, b, err)
			}
			if b, err := host.Read(next, at); err != api.OK || !slices.Equal(b, want) {
				t.Errorf("P3.1: Read(%d) behind Flush, %s: % x, %d", at, r.name, b, err)
			}
		}
	}
}

// P3.3: what was written is read, flushed or not, and the sectors beside it
// stay; octets come as they were, not only sectors of one octet.
func TestWhatWasWrittenIsRead(t *testing.T) {
	data := make([]byte, api.Sector)
	for i := range data {
		data[i] = byte(255 - i)
	}
	s := host.State{Cap: 4, Sectors: sectors(1, 2, 3)}
	for at := range 3 {
		waiting, err := host.Write(s, at, data)
		if err != api.OK {
			t.Fatalf("P3.3: Write(%d): %d", at, err)
		}
		for _, shown := range []host.State{waiting, mustAll(t, waiting, host.Flush)} {
			for i := range 3 {
				want := s.Sectors[i]
				if i == at {
					want = data
				}
				if b, err := host.Read(shown, i); err != api.OK || !slices.Equal(b, want) {
					t.Errorf("P3.3: Write(%d), Read(%d): % x, %d", at, i, b, err)
				}
			}
		}
	}
}

// P3.1: Flush of what may be has the same Cap, and nothing waits.
func TestFlushLeavesNothingWaiting(t *testing.T) {
	for name, s := range mayBe() {
		next, err := host.Flush(s)
		if err != api.OK || len(next.Waits) != 0 || next.Cap != s.Cap || host.Check(next) != api.OK {
			t.Errorf("P3.1: Flush, %s: %d wait, Cap %d, %d", name, len(next.Waits), next.Cap, err)
		}
		again, err := host.Flush(next)
		if err != api.OK || !same(again, next) {
			t.Errorf("P3.1: Flush of Flush, %s: %d", name, err)
		}
	}
}
