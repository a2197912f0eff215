package volume_test

import (
	"testing"

	"flagstone/api"
	"flagstone/model"
	"flagstone/refs"
	"flagstone/volume"
)

// P11.1: the disk's map is owner 0's, each snapshot's its ID's, empty or not.
func TestMaps(t *testing.T) {
	want := []refs.Map{
		{Owner: 0, List: at(0, 2, 2, 3, 4, 1, 4, 2, 1, 6, 8, 2)},
		{Owner: 1, List: at(0, 2, 3)},
		{Owner: 2},
		{Owner: 4, List: at(0, 0, 1, 5, 8, 1, 19, 6, 1)},
		{Owner: 9},
	}
	if m, err := volume.Maps(ordinary()); !sameMaps(m, want) || err != api.OK {
		t.Errorf("P11.1: Maps: %v, %d; want %v", m, err, want)
	}
	if m, err := volume.Maps(volume.State{Next: 1}); !sameMaps(m, []refs.Map{{}}) || err != api.OK {
		t.Errorf("P11.1: Maps of nothing: %v, %d; want owner 0's", m, err)
	}
	eight := made(9, 1, at(0, 8, 1), snapped(8)...)
	m, err := volume.Maps(eight)
	if len(m) != 9 || err != api.OK || refs.Check(m) != api.OK {
		t.Errorf("P11.1: Maps of 8 snapshots: %v, %d", m, err)
	}
}

// P11.1: what stands where the maps say, and zeros of holes.
func TestReadOfOrdinary(t *testing.T) {
	s := ordinary()
	zero := make([]byte, 64)
	join := func(sectors ...[]byte) []byte {
		var out []byte
		for _, b := range sectors {
			out = append(out, b...)
		}
		return out
	}
	now := join(sector(2), zero, zero, sector(4), sector(2), zero, sector(8), sector(9))
	wantRead(t, s, 0, 0, 8, now, api.OK)
	wantRead(t, s, 0, 2, 3, now[128:320], api.OK)
	wantRead(t, s, 1, 0, 3, join(sector(2), zero, sector(4)), api.OK)
	wantRead(t, s, 4, 0, 6, join(sector(0), zero, zero, zero, zero, sector(8)), api.OK)
	wantRead(t, s, 4, 19, 1, zero, api.OK)
	wantRead(t, s, 9, 0, 8, make([]byte, 512), api.OK)
}

// P11.1: each owner, at each place and of each length, from one ahead of its
// disk to one behind it.
func TestReadAtItsBounds(t *testing.T) {
	s := ordinary()
	p := plainOf(s)
	for _, d := range p.disks {
		all, size := p.octets(d), len(d.at)
		for place := -1; place <= size+1; place++ {
			for n := -1; n <= size+2; n++ {
				if place < 0 || n < 0 || place+n > size {
					wantRead(t, s, d.id, place, n, nil, api.ErrRange)
				} else {
					wantRead(t, s, d.id, place, n, all[64*place:64*(place+n)], api.OK)
				}
			}
		}
	}
}

// P11.1: an owner that is none goes ahead of a place that is none.
func TestReadOfNoOwner(t *testing.T) {
	s := ordinary()
	for _, owner := range append(anySize(), 10, 11) {
		isOne := owner == 0 || owner == 1 || owner == 2 || owner == 4 || owner == 9
		if isOne {
			wantRead(t, s, owner, 0, 0, nil, api.OK)
			wantRead(t, s, owner, -1, 0, nil, api.ErrRange)
			continue
		}
		for _, place := range []int{0, -1, 65537} {
			wantRead(t, s, owner, place, 0, nil, api.ErrNone)
			wantRead(t, s, owner, place, -1, nil, api.ErrNone)
			wantRead(t, s, owner, place, 65537, nil, api.ErrNone)
		}
	}
}

// P11.1, P1: places and lengths of any size, on small disks and the greatest.
func TestReadOfAnySize(t *testing.T) {
	great := made(3, 65536, at(65535, 2, 1), volume.Snap{ID: 1, Name: "a", Size: 65536, List: at(0, 0, 1)})
	for _, s := range []volume.State{ordinary(), great} {
		p := plainOf(s)
		for _, d := range p.disks[:2] {
			all, size := p.octets(d), len(d.at)
			for _, place := range anySize() {
				for _, n := range anySize() {
					if place < 0 || n < 0 || place > size || n > size || place+n > size {
						wantRead(t, s, d.id, place, n, nil, api.ErrRange)
					} else {
						wantRead(t, s, d.id, place, n, all[64*place:64*(place+n)], api.OK)
					}
				}
			}
		}
	}
}

// P11.1: a read is not bound to the 64 sectors of an op.
func TestReadOfMoreThanAnOp(t *testing.T) {
	s := made(100, 100, at(0, 0, 100))
	all := plainOf(s).octets(plainOf(s).disks[0])
	wantRead(t, s, 0, 0, 100, all, api.OK)
	wantRead(t, s, 0, 1, 65, all[64:66*64], api.OK)
	wantDo(t, s, model.Op{What: read, At: 1, N: 65}, s, model.Reply{Err: api.ErrLong, Size: 100})
	wantDo(t, s, model.Op{What: read, At: 1, N: 64}, s, model.Reply{Data: all[64 : 65*64], Size: 100})
}

// P11.1: a hole and a sector of zeros that was written are none; each disk has
// its own size.
func TestModel(t *testing.T) {
	far := make([][]byte, 20)
	far[0], far[5] = sector(0), sector(8)
	want := model.State{
		Now: [][]byte{sector(2), nil, nil, sector(4), sector(2), nil, sector(8), sector(9)},
		Snaps: []model.Snap{
			{ID: 1, Name: "less", Disk: [][]byte{sector(2), nil, sector(4)}},
			{ID: 2, Name: "none"},
			{ID: 4, Name: "0123456789abcdef", Disk: far},
			{ID: 9, Name: "\x00", Disk: make([][]byte, 8)},
		},
		Next: 10,
	}
	wantModel(t, ordinary(), want)
	if err := model.Check(want); err != api.OK {
		t.Error("the test's own model may not be:", err)
	}
}

// P11.1: a sector is none only if all its octets are zeros.
func TestModelOfNearlyZeros(t *testing.T) {
	s := made(64, 64, at(0, 0, 64))
	want := make([][]byte, 64)
	for i := range 64 {
		s.Data[i], want[i] = make([]byte, 64), make([]byte, 64)
		s.Data[i][i], want[i][i] = 1, 1
	}
	wantModel(t, s, model.State{Now: want, Next: 1})
}

// P11.1: what Model shows may be, of the greatest volume too.
func TestModelMayBe(t *testing.T) {
	great := made(65536, 65536, at(0, 0, 65536), volume.Snap{ID: 254, Name: "a", Size: 65536, List: at(0, 1, 65535)})
	for _, s := range []volume.State{ordinary(), great, {Next: 1}, made(2049, 4096, striped(1024, 1, 1), snapped(8)...)} {
		wantModel(t, s, plainOf(s).model())
		m, _ := volume.Model(s)
		if err := model.Check(m); err != api.OK {
			t.Errorf("P11.1: Model(%s) may not be: %d", told(s), err)
		}
	}
}
