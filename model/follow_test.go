package model_test

import (
	"math/rand"
	"testing"

	"flagstone/api"
	"flagstone/model"
)

// P10.2: each op, with each size, place and length that is small, on a disk
// with snapshots, against the plain way.
func TestSmallOps(t *testing.T) {
	s := model.State{
		Now:   disk(1, 0, 3, 4),
		Snaps: []model.Snap{{ID: 1, Name: "a", Disk: disk(0, 9)}, {ID: 3, Name: "b", Disk: disk(5, 6, 7, 0, 0)}},
		Next:  4,
	}
	for what := range 10 {
		for at := -1; at <= 5; at++ {
			for n := -1; n <= 5; n++ {
				data := octets(7, 0, 8, 0, 9)[:64*max(n, 0)]
				wantPlain(t, s, model.Op{What: what, At: at, N: n, ID: n, Name: "abcde"[max(n, 0):], Data: data})
			}
		}
	}
}

// anOp is mostly one that fits a small disk.
func anOp(r *rand.Rand) model.Op {
	x := model.Op{
		What: r.Intn(8) + 1, At: r.Intn(10) - 1, N: r.Intn(10) - 1, ID: r.Intn(30),
		Name: string(rune('a' + r.Intn(12))),
	}
	if x.What == resize {
		x.N = r.Intn(14) - 1
	}
	for range r.Intn(4) {
		// Of few octets, so that sectors of zeros and like ones come often.
		x.Data = append(x.Data, full(64, byte(r.Intn(3)))...)
	}
	if r.Intn(20) == 0 {
		x.Data = append(x.Data, 1)
	}
	return x
}

// P10.2, P10.3: long rows of ops tell what the plain way tells, and each
// state behind them is what it has.
func TestRowsOfOps(t *testing.T) {
	for seed := range 60 {
		r := rand.New(rand.NewSource(int64(seed)))
		s, err := model.New(r.Intn(10))
		if err != api.OK {
			t.Fatal("P10.1: New:", err)
		}
		for range 300 {
			s = wantPlain(t, s, anOp(r))
		}
		if t.Failed() {
			t.Fatalf("P10.3: seed %d", seed)
		}
	}
}

// readAll is all octets of a disk of at most 64 sectors.
func readAll(t *testing.T, s model.State) []byte {
	t.Helper()
	_, r := model.Do(s, model.Op{What: read, N: len(s.Now)})
	if r.Err != api.OK {
		t.Fatal("P10.2: read:", r.Err)
	}
	return r.Data
}

// P10.3: what was written is read, and what was not written is as it was,
// whatever is done beside it.
func TestWhatWasWrittenIsRead(t *testing.T) {
	for at := range 8 {
		for n := 1; at+n <= 8; n++ {
			s := model.State{Now: disk(1, 0, 3, 0, 5, 6, 0, 8), Next: 1}
			before := readAll(t, s)
			data := append(full(64*n-1, 0), 77)
			s, _ = model.Do(s, model.Op{What: write, At: at, Data: data})
			s, _ = model.Do(s, model.Op{What: snapshot, Name: "a"})
			s, _ = model.Do(s, model.Op{What: resize, N: 20})
			s, _ = model.Do(s, model.Op{What: write, At: 8, Data: octets(9)})
			s, _ = model.Do(s, model.Op{What: remove, ID: 1})
			s, _ = model.Do(s, model.Op{What: resize, N: 8})
			want := append(append(append([]byte{}, before[:64*at]...), data...), before[64*(at+n):]...)
			if got := readAll(t, s); string(got) != string(want) {
				t.Errorf("P10.3: written at %d, %d sectors: % x; want % x", at, n, got, want)
			}
		}
	}
}

// P10.3: snapshots stay, whatever is done with the disk and with others.
func TestSnapshotsStay(t *testing.T) {
	s := model.State{Now: disk(1, 0, 3, 4), Next: 1}
	s, _ = model.Do(s, model.Op{What: snapshot, Name: "a"})
	want := copyOf(s).Snaps[0]
	r := rand.New(rand.NewSource(7))
	for range 500 {
		x := anOp(r)
		if x.What == remove && x.ID == 1 {
			continue
		}
		s, _ = model.Do(s, x)
		if got := s.Snaps[0]; got.ID != want.ID || got.Name != want.Name || !sameDisk(got.Disk, want.Disk) {
			t.Fatalf("P10.3: behind %s a snapshot is another: %s", toldOp(x), told(s))
		}
	}
	s, reply := model.Do(s, model.Op{What: revert, ID: 1})
	if !sameDisk(s.Now, disk(1, 0, 3, 4)) || reply.Err != api.OK {
		t.Errorf("P10.3: revert: %s, %s", told(s), toldReply(reply))
	}
}

// P10.3: a disk that was reverted to a snapshot, or of which one was taken,
// and the snapshot go ways of their own.
func TestDiskAndSnapshotPart(t *testing.T) {
	s := model.State{Now: disk(1, 2), Next: 1}
	s, _ = model.Do(s, model.Op{What: snapshot, Name: "a"})
	s, _ = model.Do(s, model.Op{What: revert, ID: 1})
	s, _ = model.Do(s, model.Op{What: write, At: 1, Data: octets(9)})
	s, _ = model.Do(s, model.Op{What: snapshot, Name: "b"})
	s, _ = model.Do(s, model.Op{What: discard, N: 2})
	want := model.State{
		Now:   disk(0, 0),
		Snaps: []model.Snap{{ID: 1, Name: "a", Disk: disk(1, 2)}, {ID: 2, Name: "b", Disk: disk(1, 9)}},
		Next:  3,
	}
	if !same(s, want) {
		t.Errorf("P10.3: %s; want %s", told(s), told(want))
	}
}

// P10.2: what May says of an op is what Do says of it.
func TestMayIsWhatDoSays(t *testing.T) {
	r := rand.New(rand.NewSource(3))
	s := ordinary()
	for range 2000 {
		x := anOp(r)
		x.What = r.Intn(10)
		var names []model.Named
		for _, snap := range s.Snaps {
			names = append(names, model.Named{ID: snap.ID, Name: snap.Name})
		}
		want := model.May(len(s.Now), names, s.Next, x)
		after, reply := model.Do(s, x)
		if reply.Err != want || reply.Size != len(after.Now) {
			t.Fatalf("P10.2: Do(%s, %s): %s; May says %d", told(s), toldOp(x), toldReply(reply), want)
		}
		s = after
	}
}
