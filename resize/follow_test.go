package resize_test

import (
	"math"
	"math/rand"
	"testing"

	"flagstone/api"
	"flagstone/model"
	"flagstone/resize"
	"flagstone/volume"
)

// P13.1, P13.2: each op, with each place, length and most that is small, on
// disks with snapshots, with free sectors and without.
func TestSmallOps(t *testing.T) {
	for _, s := range []volume.State{
		made(4, 7, at(0, 1, 1, 2, 2, 2), volume.Snap{ID: 1, Name: "a", Size: 2, List: at(1, 3, 1)}, volume.Snap{ID: 3, Name: "b", Size: 5, List: at(0, 6, 1, 3, 1, 2)}),
		made(4, 3, at(0, 1, 1, 2, 1, 1), volume.Snap{ID: 2, Name: "b", Size: 4, List: at(0, 1, 2)}),
		made(4, 2, at(1, 0, 2)),
		made(3, 0, nil),
	} {
		for what := range 10 {
			for place := -1; place <= 4; place++ {
				for n := -1; n <= 5; n++ {
					x := model.Op{What: what, At: place, N: n, ID: n, Name: "abcde"[max(n, 0):], Data: octets(7, 0, 8, 0, 9)[:64*max(n, 0)]}
					wantNeed(t, s, x, plainNeed(s, x))
					for most := -1; most <= len(s.Data)+6; most++ {
						wantPlain(t, s, x, most)
					}
				}
			}
		}
	}
}

// anOp is mostly one that fits a disk of about so many sectors.
func anOp(r *rand.Rand, size int) model.Op {
	x := model.Op{
		What: r.Intn(8) + 1, At: r.Intn(size+2) - 1, N: r.Intn(min(size, 66)+2) - 1, ID: r.Intn(20),
		Name: string(rune('a' + r.Intn(12))),
	}
	if r.Intn(3) == 0 {
		x.What = write
	}
	if x.What == resizing {
		x.N = size/2 + r.Intn(size) - 1
	}
	for range r.Intn(min(size/2, 66) + 1) {
		// Of few octets, so that sectors of zeros and like ones come often.
		x.Data = append(x.Data, octets(byte(r.Intn(3)))...)
	}
	if r.Intn(20) == 0 {
		x.Data = append(x.Data, 1)
	}
	return x
}

// turned is s cut off, or grown by a few, or as it is.
func turned(t *testing.T, r *rand.Rand, s volume.State) volume.State {
	t.Helper()
	switch r.Intn(4) {
	case 0:
		after, _ := cutOff(t, s)
		return after
	case 1:
		return wantGrow(t, s, len(s.Data)+r.Intn(4), api.OK)
	}
	return s
}

// P13.1 to P13.3: long rows of ops, with most as little as it may be and more,
// cut off and grown between, tell what model.Do's row tells, and each owner
// shows what the model's does.
func TestRowsOfOps(t *testing.T) {
	refused, done, grown := 0, 0, 0
	for seed := range 60 {
		r := rand.New(rand.NewSource(int64(seed)))
		size := 4 + r.Intn(12)
		most := r.Intn(5 * size)
		s, _ := volume.New(size, 0)
		m, _ := model.New(size)
		for range 200 {
			x := anOp(r, size)
			wantNeed(t, s, x, plainNeed(s, x))
			after, err := wantPlain(t, s, x, most)
			if len(after.Data) > len(s.Data) {
				grown++
			}
			if err == api.ErrSpace {
				refused++
			} else {
				m, _ = model.Do(m, x)
				done++
			}
			s = turned(t, r, after)
			if shown, err := volume.Model(s); !sameModel(shown, m) || err != api.OK {
				t.Fatalf("P13.3: seed %d: %s shows not what the model does, %d", seed, told(s), err)
			}
		}
		if t.Failed() {
			t.Fatalf("seed %d", seed)
		}
	}
	if refused < 500 || done < 5000 || grown < 300 {
		t.Errorf("the test's own rows: %d refused for space, %d done, %d grown", refused, done, grown)
	}
}

// P13.2: where most is no bound no op is refused for space, and there are
// never more data sectors than a write needs.
func TestBesideTheModel(t *testing.T) {
	for seed := range 40 {
		r := rand.New(rand.NewSource(int64(1000 + seed)))
		size := 10 + 10*(seed%4)
		s, _ := volume.New(size, 0)
		m, _ := model.New(size)
		for range 200 {
			x := anOp(r, size)
			before := len(s.Data)
			var got, want model.Reply
			s, got = resize.Do(s, x, math.MaxInt)
			m, want = model.Do(m, x)
			if !sameReply(got, want) {
				t.Fatalf("P13.2: seed %d, %s: %s; want %s", seed, toldOp(x), toldReply(got), toldReply(want))
			}
			if shown, err := volume.Model(s); !sameModel(shown, m) || err != api.OK {
				t.Fatalf("P13.2: seed %d, behind %s: %s, %d shows not what the model does", seed, toldOp(x), told(s), err)
			}
			if len(s.Data) != before && (x.What != write || len(s.Data)-before > len(x.Data)/64) {
				t.Fatalf("P13.2: seed %d, %s: %d data sectors, then %d", seed, toldOp(x), before, len(s.Data))
			}
		}
	}
}

// P13.1 to P13.3: likewise on disks where ops of 64 sectors and more come.
func TestRowsOfGreatOps(t *testing.T) {
	for seed := range 8 {
		r := rand.New(rand.NewSource(int64(seed)))
		s, _ := volume.New(200, 0)
		for range 100 {
			x := anOp(r, 200)
			wantNeed(t, s, x, plainNeed(s, x))
			s, _ = wantPlain(t, s, x, 150*(seed+1))
			s = turned(t, r, s)
		}
		if t.Failed() {
			t.Fatalf("seed %d", seed)
		}
	}
}
