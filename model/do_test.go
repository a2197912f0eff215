package model_test

import (
	"testing"

	"flagstone/api"
	"flagstone/model"
)

// P10.2, P10.3: the chapter's example: write, snapshot, write, revert, read:
// the first.
func TestExample(t *testing.T) {
	s, err := model.New(2)
	if err != api.OK {
		t.Fatal("P10.1: New:", err)
	}
	s = wantDo(t, s, model.Op{What: write, At: 1, Data: octets(1)}, model.State{Now: disk(0, 1), Next: 1}, model.Reply{Size: 2})
	taken := []model.Snap{{ID: 1, Name: "a", Disk: disk(0, 1)}}
	s = wantDo(t, s, model.Op{What: snapshot, Name: "a"}, model.State{Now: disk(0, 1), Snaps: taken, Next: 2}, model.Reply{ID: 1, Size: 2})
	s = wantDo(t, s, model.Op{What: write, At: 0, Data: octets(2, 3)}, model.State{Now: disk(2, 3), Snaps: taken, Next: 2}, model.Reply{Size: 2})
	s = wantDo(t, s, model.Op{What: revert, ID: 1}, model.State{Now: disk(0, 1), Snaps: taken, Next: 2}, model.Reply{Size: 2})
	wantDo(t, s, model.Op{What: read, At: 0, N: 2}, s, model.Reply{Data: octets(0, 1), Size: 2})
}

// P10.2: a write lays just its sectors; those of zeros are none.
func TestWrite(t *testing.T) {
	for _, c := range []struct {
		name string
		now  [][]byte
		at   int
		data []byte
		want [][]byte
	}{
		{"the first", disk(1, 2, 3), 0, octets(9), disk(9, 2, 3)},
		{"the last", disk(1, 2, 3), 2, octets(9), disk(1, 2, 9)},
		{"all", disk(1, 2, 3), 0, octets(7, 8, 9), disk(7, 8, 9)},
		{"over none", disk(0, 0, 3), 0, octets(7, 8), disk(7, 8, 3)},
		{"over an empty one", [][]byte{{}, {}}, 1, octets(7), disk(0, 7)},
		{"zeros", disk(1, 2, 3), 1, octets(0), disk(1, 0, 3)},
		{"zeros over none", disk(1, 0, 3), 1, octets(0), disk(1, 0, 3)},
		{"zeros among others", disk(1, 2, 3, 4), 0, octets(0, 9, 0), disk(0, 9, 0, 4)},
		{"all zeros", disk(1, 2, 3), 0, octets(0, 0, 0), disk(0, 0, 0)},
		{"zeros but the first octet", disk(1, 2), 0, one(0), [][]byte{one(0), full(64, 2)}},
		{"zeros but the last octet", disk(1, 2), 1, one(63), [][]byte{full(64, 1), one(63)}},
		{"the same again", disk(1, 2), 0, octets(1, 2), disk(1, 2)},
	} {
		t.Run(c.name, func(t *testing.T) {
			s := model.State{Now: c.now, Snaps: snapped(2, disk(5, 0, 6)), Next: 7}
			want := model.State{Now: c.want, Snaps: snapped(2, disk(5, 0, 6)), Next: 7}
			wantDo(t, s, model.Op{What: write, At: c.at, Data: c.data}, want, model.Reply{Size: len(c.now)})
			wantDo(t, s, model.Op{What: write, At: c.at, N: 99, ID: 1, Name: "a", Data: c.data}, want, model.Reply{Size: len(c.now)})
		})
	}
}

// P10.2: a read tells zeros of sectors that are none, and changes nothing.
func TestRead(t *testing.T) {
	s := ordinary()
	all := append(append(append(octets(1, 0), one(0)...), one(63)...), octets(0, 255)...)
	for at := range 7 {
		for n := 0; at+n <= 6; n++ {
			wantDo(t, s, model.Op{What: read, At: at, N: n}, s, model.Reply{Data: all[64*at : 64*(at+n)], Size: 6})
			wantDo(t, s, model.Op{What: read, At: at, N: n, ID: 1, Name: "x", Data: octets(9)}, s, model.Reply{Data: all[64*at : 64*(at+n)], Size: 6})
		}
	}
}

// P10.2: a discard leaves none where it goes.
func TestDiscard(t *testing.T) {
	for at := range 6 {
		for n := 0; at+n <= 5; n++ {
			want := disk(1, 2, 0, 4, 5)
			for i := range n {
				want[at+i] = nil
			}
			s := model.State{Now: disk(1, 2, 0, 4, 5), Snaps: snapped(1, disk(1, 2, 0, 4, 5)), Next: 2}
			wantDo(t, s, model.Op{What: discard, At: at, N: n}, model.State{Now: want, Snaps: s.Snaps, Next: 2}, model.Reply{Size: 5})
		}
	}
}

// P10.2: a snapshot has the disk as it is, the next ID, and stands last; the
// next one has one more, even where IDs were given back.
func TestSnapshot(t *testing.T) {
	s := ordinary()
	want := copyOf(s)
	want.Snaps = append(want.Snaps, model.Snap{ID: 10, Name: "new", Disk: copyDisk(s.Now)})
	want.Next = 11
	s = wantDo(t, s, model.Op{What: snapshot, Name: "new"}, want, model.Reply{ID: 10, Size: 6})
	want.Snaps, want.Next = want.Snaps[:4], 11
	s = wantDo(t, s, model.Op{What: remove, ID: 10}, want, model.Reply{Size: 6})
	want.Snaps = append(want.Snaps, model.Snap{ID: 11, Name: "new", Disk: copyDisk(s.Now)})
	want.Next = 12
	wantDo(t, s, model.Op{What: snapshot, At: -1, N: -1, ID: 2, Name: "new", Data: full(3, 3)}, want, model.Reply{ID: 11, Size: 6})
}

// P10.2: a snapshot of a disk without sectors, and of the greatest one.
func TestSnapshotOfSizes(t *testing.T) {
	for _, size := range []int{0, 1, 65536} {
		s := model.State{Now: zeros(size), Next: 254}
		want := model.State{Now: zeros(size), Snaps: []model.Snap{{ID: 254, Name: "a", Disk: zeros(size)}}, Next: 255}
		s = wantDo(t, s, model.Op{What: snapshot, Name: "a"}, want, model.Reply{ID: 254, Size: size})
		wantDo(t, s, model.Op{What: snapshot, Name: "b"}, want, model.Reply{Err: api.ErrCount, Size: size})
	}
}

// P10.2: eight snapshots are taken, the ninth is not till one goes.
func TestSnapshotsTillThereAreEight(t *testing.T) {
	s, _ := model.New(3)
	for i, name := range letters(8) {
		var r model.Reply
		if s, r = model.Do(s, model.Op{What: snapshot, Name: name}); !sameReply(r, model.Reply{ID: i + 1, Size: 3}) {
			t.Fatalf("P10.2: snapshot %d: %s", i+1, toldReply(r))
		}
	}
	want := model.State{Now: zeros(3), Snaps: snapped(8, zeros(3)), Next: 9}
	s = wantDo(t, s, model.Op{What: snapshot, Name: "x"}, want, model.Reply{Err: api.ErrCount, Size: 3})
	s, _ = model.Do(s, model.Op{What: remove, ID: 3})
	if _, r := model.Do(s, model.Op{What: snapshot, Name: "c"}); !sameReply(r, model.Reply{ID: 9, Size: 3}) {
		t.Errorf("P10.2: a snapshot where one went, by its name: %s", toldReply(r))
	}
}

// P10.2: a delete takes that snapshot alone, wherever it stands.
func TestDelete(t *testing.T) {
	for i, snap := range ordinary().Snaps {
		want := ordinary()
		want.Snaps = append(want.Snaps[:i:i], want.Snaps[i+1:]...)
		s := wantDo(t, ordinary(), model.Op{What: remove, ID: snap.ID}, want, model.Reply{Size: 6})
		wantDo(t, s, model.Op{What: remove, ID: snap.ID}, want, model.Reply{Err: api.ErrNone, Size: 6})
		wantDo(t, s, model.Op{What: revert, ID: snap.ID}, want, model.Reply{Err: api.ErrNone, Size: 6})
	}
}

// P10.2: behind a revert the disk is the snapshot's, and of its size, told so
// at once; the snapshot stays, and Next does.
func TestRevert(t *testing.T) {
	for _, snap := range ordinary().Snaps {
		want := ordinary()
		want.Now = copyDisk(snap.Disk)
		size := len(snap.Disk)
		s := wantDo(t, ordinary(), model.Op{What: revert, ID: snap.ID}, want, model.Reply{Size: size})
		s = wantDo(t, s, model.Op{What: revert, At: -1, N: -1, ID: snap.ID, Name: "none", Data: full(3, 3)}, want, model.Reply{Size: size})
		var b []byte
		for _, sector := range snap.Disk {
			b = append(append(b, sector...), make([]byte, 64-len(sector))...)
		}
		wantDo(t, s, model.Op{What: read, N: size}, want, model.Reply{Data: b, Size: size})
		wantDo(t, s, model.Op{What: read, N: size + 1}, want, model.Reply{Err: api.ErrRange, Size: size})
	}
}

// P10.2: a list tells IDs and names in their order, and changes nothing.
func TestList(t *testing.T) {
	want := []model.Named{{ID: 1, Name: "less"}, {ID: 2, Name: "none"}, {ID: 4, Name: "0123456789abcdef"}, {ID: 9, Name: "\x00"}}
	s := ordinary()
	wantDo(t, s, model.Op{What: list}, s, model.Reply{List: want, Size: 6})
	wantDo(t, s, model.Op{What: list, At: -1, N: -1, ID: -1, Name: "less", Data: full(3, 3)}, s, model.Reply{List: want, Size: 6})
	none := model.State{Now: disk(1), Next: 5}
	wantDo(t, none, model.Op{What: list}, none, model.Reply{Size: 1})
}

// P10.2: a resize to fewer sectors cuts, one to more adds such as are none;
// what was cut does not come back. Snapshots stay as they are.
func TestResize(t *testing.T) {
	s := model.State{Now: disk(1, 0, 3, 4), Snaps: snapped(2, disk(1, 2, 3, 4, 5)), Next: 3}
	resized := func(s model.State, n int, now [][]byte) model.State {
		t.Helper()
		return wantDo(t, s, model.Op{What: resize, N: n}, model.State{Now: now, Snaps: s.Snaps, Next: 3}, model.Reply{Size: n})
	}
	resized(s, 4, disk(1, 0, 3, 4))
	resized(s, 0, nil)
	resized(s, 7, disk(1, 0, 3, 4, 0, 0, 0))
	less := resized(s, 3, disk(1, 0, 3))
	wantDo(t, less, model.Op{What: read, At: 3, N: 1}, less, model.Reply{Err: api.ErrRange, Size: 3})
	more := resized(less, 5, disk(1, 0, 3, 0, 0))
	wantDo(t, more, model.Op{What: read, At: 2, N: 3}, more, model.Reply{Data: octets(3, 0, 0), Size: 5})
	great := resized(more, 65536, append(disk(1, 0, 3), zeros(65533)...))
	wantDo(t, great, model.Op{What: read, At: 65535, N: 1}, great, model.Reply{Data: octets(0), Size: 65536})
	resized(great, 1, disk(1))
}

// P10.2: the last sectors of the greatest disk, as many as an op has.
func TestGreatestDisk(t *testing.T) {
	s, _ := model.New(65536)
	want := copyOf(s)
	for i := range 64 {
		want.Now[65472+i] = full(64, byte(i+1))
	}
	var data []byte
	for _, sector := range want.Now[65472:] {
		data = append(data, sector...)
	}
	s = wantDo(t, s, model.Op{What: write, At: 65472, Data: data}, want, model.Reply{Size: 65536})
	s = wantDo(t, s, model.Op{What: read, At: 65472, N: 64}, want, model.Reply{Data: data, Size: 65536})
	wantDo(t, s, model.Op{What: write, At: 65473, Data: data}, want, model.Reply{Err: api.ErrRange, Size: 65536})
	wantDo(t, s, model.Op{What: discard, At: 65472, N: 64}, model.State{Now: zeros(65536), Next: 1}, model.Reply{Size: 65536})
}

// refusedOps has ops that ordinary refuses, with their errors.
func refusedOps() map[string]struct {
	x    model.Op
	want api.Errno
} {
	type refused = struct {
		x    model.Op
		want api.Errno
	}
	return map[string]refused{
		"no kind":             {model.Op{}, api.ErrKind},
		"a kind of 9":         {model.Op{What: 9, ID: 1, Name: "a", Data: octets(1)}, api.ErrKind},
		"a write of nothing":  {model.Op{What: write}, api.ErrArg},
		"a write of a part":   {model.Op{What: write, Data: full(65, 1)}, api.ErrArg},
		"a write too long":    {model.Op{What: write, Data: full(4160, 1)}, api.ErrArg},
		"a write beyond":      {model.Op{What: write, At: 5, Data: octets(1, 2)}, api.ErrRange},
		"a write ahead":       {model.Op{What: write, At: -1, Data: octets(1, 2)}, api.ErrRange},
		"a read beyond":       {model.Op{What: read, At: 5, N: 2}, api.ErrRange},
		"a read below 0":      {model.Op{What: read, At: 5, N: -1}, api.ErrRange},
		"a discard beyond":    {model.Op{What: discard, At: 1, N: 6}, api.ErrRange},
		"a discard too long":  {model.Op{What: discard, N: 65}, api.ErrRange},
		"a name of nothing":   {model.Op{What: snapshot}, api.ErrArg},
		"a name that is had":  {model.Op{What: snapshot, Name: "none"}, api.ErrTwice},
		"a delete of none":    {model.Op{What: remove, ID: 3}, api.ErrNone},
		"a delete of 0":       {model.Op{What: remove, Name: "less"}, api.ErrNone},
		"a revert to none":    {model.Op{What: revert, ID: 10}, api.ErrNone},
		"a resize below 0":    {model.Op{What: resize, N: -1}, api.ErrRange},
		"a resize far beyond": {model.Op{What: resize, N: 65537}, api.ErrRange},
	}
}

// P10.2, P4: beside May's error the state is as it was, and of the reply just
// Err and Size are told.
func TestRefusedOps(t *testing.T) {
	for name, c := range refusedOps() {
		t.Run(name, func(t *testing.T) {
			wantDo(t, ordinary(), c.x, ordinary(), model.Reply{Err: c.want, Size: 6})
		})
	}
	great := model.State{Now: zeros(66), Next: 255}
	for _, what := range []int{read, discard} {
		wantDo(t, great, model.Op{What: what, N: 65}, great, model.Reply{Err: api.ErrLong, Size: 66})
		wantDo(t, great, model.Op{What: what, At: 2, N: 65}, great, model.Reply{Err: api.ErrRange, Size: 66})
	}
	wantDo(t, great, model.Op{What: snapshot, Name: "a"}, great, model.Reply{Err: api.ErrCount, Size: 66})
}

// someOps has an op of each kind that ordinary takes, and some that it
// refuses.
func someOps() []model.Op {
	return []model.Op{
		{What: write, At: 1, Data: append(octets(8, 0), one(5)...)},
		{What: read, N: 6},
		{What: discard, At: 2, N: 3},
		{What: snapshot, Name: "new"},
		{What: remove, ID: 4},
		{What: revert, ID: 4},
		{What: revert, ID: 2},
		{What: list},
		{What: resize, N: 3},
		{What: resize, N: 9},
		{What: 0},
		{What: write, At: 5, Data: octets(8, 9)},
		{What: revert, ID: 3},
	}
}

// P10.2, P4, P1: of a state that may not be the reply has Check's error alone,
// ahead of whatever is wrong with the op, and there is no state.
func TestStatesThatMayNotBe(t *testing.T) {
	bad := statesThatMayNotBe()
	for name, of := range badDisks() {
		bad["now: "+name] = model.State{Now: of, Next: 1}
		bad["a snapshot: "+name] = model.State{Now: disk(1, 2), Snaps: []model.Snap{{ID: 1, Name: "a", Disk: of}}, Next: 2}
	}
	for name, s := range bad {
		t.Run(name, func(t *testing.T) {
			for _, x := range someOps() {
				wantDo(t, s, x, model.State{}, model.Reply{Err: api.ErrState})
			}
		})
	}
}
