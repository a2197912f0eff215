package volume_test

import (
	"math/rand"
	"testing"

	"flagstone/api"
	"flagstone/model"
	"flagstone/volume"
)

// P11.2 to P11.4: each op, with each size, place and length that is small, on
// a disk with snapshots, against the plain way and model.Do.
func TestSmallOps(t *testing.T) {
	for _, s := range []volume.State{
		made(7, 4, at(0, 1, 1, 2, 2, 2), volume.Snap{ID: 1, Name: "a", Size: 2, List: at(1, 3, 1)}, volume.Snap{ID: 3, Name: "b", Size: 5, List: at(0, 6, 1, 3, 1, 2)}),
		made(3, 4, at(0, 1, 1, 2, 1, 1), volume.Snap{ID: 2, Name: "b", Size: 4, List: at(0, 1, 2)}),
		made(9, 4, nil),
	} {
		for what := range 10 {
			for place := -1; place <= 5; place++ {
				for n := -1; n <= 5; n++ {
					data := octets(7, 0, 8, 0, 9)[:64*max(n, 0)]
					wantPlain(t, s, model.Op{What: what, At: place, N: n, ID: n, Name: "abcde"[max(n, 0):], Data: data})
				}
			}
		}
	}
}

// anOp is mostly one that fits a disk of about so many sectors.
func anOp(r *rand.Rand, size int) model.Op {
	x := model.Op{
		What: r.Intn(8) + 1, At: r.Intn(size+2) - 1, N: r.Intn(min(size, 66)+2) - 1, ID: r.Intn(30),
		Name: string(rune('a' + r.Intn(12))),
	}
	if r.Intn(3) == 0 {
		x.What = write
	}
	if x.What == resize {
		x.N = size/2 + r.Intn(size) - 1
	}
	for range r.Intn(min(size/2, 66) + 1) {
		// Of few octets, so that sectors of zeros and like ones come often.
		x.Data = append(x.Data, octets(byte(r.Intn(3)))...)
	}
	if r.Intn(20) == 0 {
		x.Data = append(x.Data, 1)
	}
	return x
}

// P11.2 to P11.4: long rows of ops, with much room and with little, tell what
// the plain way and model.Do tell.
func TestRowsOfOps(t *testing.T) {
	refused, done := 0, 0
	for seed := range 60 {
		r := rand.New(rand.NewSource(int64(seed)))
		size := 6 + r.Intn(10)
		s, err := volume.New(size, r.Intn(5*size))
		if err != api.OK {
			t.Fatal("P11.1: New:", err)
		}
		for range 300 {
			x := anOp(r, size)
			if _, reply := volume.Do(s, x); reply.Err == api.ErrSpace {
				refused++
			} else if reply.Err == api.OK {
				done++
			}
			s = wantPlain(t, s, x)
		}
		if t.Failed() {
			t.Fatalf("P11.3: seed %d", seed)
		}
	}
	if refused < 500 || done < 5000 {
		t.Errorf("the test's own rows: %d refused for space, %d done", refused, done)
	}
}

// P11.2 to P11.4: likewise on disks where ops of 64 sectors and more come.
func TestRowsOfGreatOps(t *testing.T) {
	for seed := range 8 {
		r := rand.New(rand.NewSource(int64(seed)))
		s, _ := volume.New(200, 150*(seed+1))
		for range 150 {
			s = wantPlain(t, s, anOp(r, 200))
		}
		if t.Failed() {
			t.Fatalf("P11.3: seed %d", seed)
		}
	}
}

// P11.3: with room for all that can be written, a row of ops tells what
// model.Do's row tells, one beside the other from the beginning on.
func TestBesideTheModel(t *testing.T) {
	for seed := range 40 {
		r := rand.New(rand.NewSource(int64(1000 + seed)))
		s, _ := volume.New(10, 200)
		m, _ := model.New(10)
		for range 300 {
			x := anOp(r, 10)
			var got, want model.Reply
			s, got = volume.Do(s, x)
			m, want = model.Do(m, x)
			if !sameReply(got, want) {
				t.Fatalf("P11.3: seed %d, %s: %s; want %s", seed, toldOp(x), toldReply(got), toldReply(want))
			}
			if shown, err := volume.Model(s); !sameModel(shown, m) || err != api.OK {
				t.Fatalf("P11.3: seed %d, behind %s: %s, %d; want %s", seed, toldOp(x), toldModel(shown), err, toldModel(m))
			}
		}
	}
}

// P11.3: what is read of an owner is what the model's disk has.
func TestReadIsTheModels(t *testing.T) {
	r := rand.New(rand.NewSource(5))
	s, _ := volume.New(12, 40)
	for range 400 {
		s, _ = volume.Do(s, anOp(r, 12))
		m, _ := volume.Model(s)
		for _, snap := range append([]model.Snap{{Disk: m.Now}}, m.Snaps...) {
			var want []byte
			for _, b := range snap.Disk {
				want = append(append(want, b...), make([]byte, 64-len(b))...)
			}
			wantRead(t, s, snap.ID, 0, len(snap.Disk), want, api.OK)
		}
	}
}

// P11.2, P11.4: the greatest volume is written at its end, and cut.
func TestGreatestVolume(t *testing.T) {
	s := made(65536, 65536, at(0, 0, 65535), volume.Snap{ID: 1, Name: "a", Size: 65536, List: at(0, 1, 65534)})
	s = wantPlain(t, s, model.Op{What: write, At: 65535, Data: row(1)})
	s = wantPlain(t, s, model.Op{What: write, At: 0, Data: row(1)})
	s = wantPlain(t, s, model.Op{What: discard, At: 65472, N: 64})
	s = wantPlain(t, s, model.Op{What: resize, N: 0})
	s = wantPlain(t, s, model.Op{What: revert, ID: 1})
	s = wantPlain(t, s, model.Op{What: remove, ID: 1})
	wantPlain(t, s, model.Op{What: write, At: 65472, Data: row(64)})
}
