package reloc_test

import (
	"bytes"
	"fmt"
	"math/rand"
	"slices"
	"testing"

	"flagstone/api"
	"flagstone/model"
	"flagstone/reloc"
	"flagstone/volume"
)

// anOp is mostly one that fits a disk of about so many sectors.
func anOp(r *rand.Rand, size int) model.Op {
	x := model.Op{
		What: r.Intn(8) + 1, At: r.Intn(size+2) - 1, N: r.Intn(size/2+2) - 1, ID: r.Intn(20),
		Name: string(rune('a' + r.Intn(12))),
	}
	if r.Intn(3) == 0 {
		x.What = 1
	}
	if x.What == 8 {
		x.N = size/2 + r.Intn(size) - 1
	}
	for range r.Intn(size/2 + 1) {
		// Of few octets, so that sectors of zeros and like ones come often.
		x.Data = append(x.Data, octets(byte(r.Intn(5)))...)
	}
	return x
}

func sameReply(a, b model.Reply) bool {
	return a.Err == b.Err && a.ID == b.ID && a.Size == b.Size && bytes.Equal(a.Data, b.Data) && slices.Equal(a.List, b.List)
}

// anyMove moves a span as often as not in use, to where it is as often free.
func anyMove(t *testing.T, r *rand.Rand, s volume.State) (volume.State, bool) {
	t.Helper()
	n := len(s.Data) + 1
	x, to := span(r.Intn(n), 1+r.Intn(4)), r.Intn(n)
	_, want := plainMove(s, x, to)
	got := wantMove(t, s, x, to, want)
	return got, want == api.OK
}

// stepped is s behind a step of any kind, or s if there was nothing to be
// done.
func stepped(t *testing.T, r *rand.Rand, s volume.State) (volume.State, bool) {
	t.Helper()
	var after volume.State
	var did bool
	var err api.Errno
	switch r.Intn(3) {
	case 0:
		after, did = anyMove(t, r, s)
	case 1:
		x, to, is := plainVictim(s)
		wantVictim(t, s, x, to, is)
		after, did, err = wantCompact(t, s)
	case 2:
		wantPieces(t, s, len(s.Now))
		after, did, err = wantDefragment(t, s)
		if did && len(after.Now) >= len(s.Now) {
			t.Errorf("P12.2: Defragment(%s): %d pieces; want fewer", told(s), len(after.Now))
		}
	}
	if err != api.OK {
		t.Errorf("P12.2: a step of %s: %d", told(s), err)
	}
	if !did {
		return s, false
	}
	return after, true
}

// P12.1 to P12.3: with steps between, a row of ops tells what model.Do's row
// tells, and each owner shows what the model's does.
func TestStepsBetweenOps(t *testing.T) {
	ops, steps := 0, 0
	for seed := range 60 {
		r := rand.New(rand.NewSource(int64(seed)))
		size := 4 + r.Intn(12)
		s, _ := volume.New(size, r.Intn(6*size))
		m, _ := model.New(size)
		for range 200 {
			x := anOp(r, size)
			after, got := volume.Do(s, x)
			if got.Err != api.ErrSpace {
				var want model.Reply
				m, want = model.Do(m, x)
				if !sameReply(got, want) {
					t.Fatalf("P12.3: seed %d, op %d: %s", seed, x.What, fmt.Sprint(got, want))
				}
				ops++
			}
			s = after
			for range r.Intn(4) {
				var did bool
				if s, did = stepped(t, r, s); did {
					steps++
				}
			}
			if shown, err := volume.Model(s); !sameModel(shown, m) || err != api.OK {
				t.Fatalf("P12.3: seed %d: %s shows not what the model does, %d", seed, told(s), err)
			}
		}
		if t.Failed() {
			t.Fatalf("seed %d", seed)
		}
	}
	if ops < 5000 || steps < 3000 {
		t.Errorf("the test's own rows: %d ops, %d steps", ops, steps)
	}
}

// aVolume is what a row of ops leaves.
func aVolume(r *rand.Rand, size, room int) volume.State {
	s, _ := volume.New(size, room)
	for range 60 {
		s, _ = volume.Do(s, anOp(r, size))
	}
	return s
}

// P12.4: what ops leave is compacted as often as it goes.
func TestCompactWhatOpsLeave(t *testing.T) {
	for seed := range 60 {
		r := rand.New(rand.NewSource(int64(seed)))
		s := aVolume(r, 6+r.Intn(10), r.Intn(80))
		wantAtTheBeginning(t, s, compacted(t, s))
	}
}

// P12.2, P12.3: what ops leave is defragmented as often as it goes, with fewer
// pieces each time; then no two are left for which there is a place.
func TestDefragmentWhatOpsLeave(t *testing.T) {
	times := 0
	for seed := range 150 {
		r := rand.New(rand.NewSource(int64(seed)))
		s := aVolume(r, 6+r.Intn(20), 20+r.Intn(80))
		before := s
		for {
			after, did, err := wantDefragment(t, s)
			if err != api.OK || did && len(after.Now) >= len(s.Now) {
				t.Fatalf("P12.2: Defragment(%s): %d pieces, %d", told(s), len(after.Now), err)
			}
			if !did {
				break
			}
			s = after
			times++
		}
		wantShown(t, "defragmented", before, s)
	}
	if times < 100 {
		t.Errorf("the test's own volumes: only %d were to be defragmented", times)
	}
}

// P3: a call hangs on its arguments alone, not on the calls ahead of it.
func TestCallsKeepNothing(t *testing.T) {
	first := answersOf(ordinary(), span(10, 2), 12)
	for _, s := range memoryStates() {
		answersOf(s, span(0, 1), 1)
		reloc.Move(s, span(2, 4), 12)
	}
	if again := answersOf(roomyState(ordinary()), span(10, 2), 12); !sameAnswers(again, first) {
		t.Errorf("P3: %s; then %s", first.told(), again.told())
	}
}
