package model_test

import (
	"bytes"
	"fmt"
	"math"
	"math/big"
	"slices"
	"testing"

	"flagstone/api"
	"flagstone/model"
)

const (
	write = iota + 1
	read
	discard
	snapshot
	remove
	revert
	list
	resize
)

// anySize has numbers at the edges of all that a call may be given, and of
// any size; sums of two of them go round, even to what would fit.
func anySize() []int {
	return []int{
		math.MinInt, math.MinInt + 1, math.MinInt + 65536, -1 << 62, -1 << 32, -65537, -65536, -65, -64, -2, -1, 0, 1, 2, 3,
		62, 63, 64, 65, 66, 127, 128, 129, 254, 255, 256, 65471, 65472, 65473, 65534, 65535, 65536, 65537, 131072, 1 << 31,
		1<<32 - 1, 1 << 32, 1<<32 + 1, 1 << 48, 1 << 58, 1 << 62, 1<<62 + 1, math.MaxInt - 65536, math.MaxInt - 64, math.MaxInt - 1, math.MaxInt,
	}
}

// full has n octets that are all b.
func full(n int, b byte) []byte {
	return bytes.Repeat([]byte{b}, n)
}

// one has a sector of which just the octet at that place is not 0.
func one(place int) []byte {
	b := make([]byte, 64)
	b[place] = 1
	return b
}

// disk has a sector full of each of these, none of 0.
func disk(of ...byte) [][]byte {
	var out [][]byte
	for _, b := range of {
		if b == 0 {
			out = append(out, nil)
		} else {
			out = append(out, full(64, b))
		}
	}
	return out
}

// octets has 64 of each of these.
func octets(of ...byte) []byte {
	var out []byte
	for _, b := range of {
		out = append(out, full(64, b)...)
	}
	return out
}

// zeros is a disk of n sectors that are none.
func zeros(n int) [][]byte {
	return make([][]byte, n)
}

// named has a snapshot of each name, with the IDs from 1 on.
func named(names ...string) []model.Named {
	var out []model.Named
	for i, name := range names {
		out = append(out, model.Named{ID: i + 1, Name: name})
	}
	return out
}

// letters has n names, no two alike.
func letters(n int) []string {
	var out []string
	for i := range n {
		out = append(out, string(rune('a'+i)))
	}
	return out
}

// snapped has a snapshot of that disk of each of so many names.
func snapped(n int, of [][]byte) []model.Snap {
	var out []model.Snap
	for _, x := range named(letters(n)...) {
		out = append(out, model.Snap{ID: x.ID, Name: x.Name, Disk: copyDisk(of)})
	}
	return out
}

// ordinary has a disk with sectors of zeros and others, and snapshots of
// fewer and of more sectors, of none at all, and of an ID left out.
func ordinary() model.State {
	return model.State{
		Now: [][]byte{full(64, 1), nil, one(0), one(63), {}, full(64, 255)},
		Snaps: []model.Snap{
			{ID: 1, Name: "less", Disk: disk(7, 0)},
			{ID: 2, Name: "none"},
			{ID: 4, Name: "0123456789abcdef", Disk: disk(0, 0, 3, 4, 5, 0, 7, 8)},
			{ID: 9, Name: "\x00", Disk: zeros(6)},
		},
		Next: 10,
	}
}

func copyDisk(of [][]byte) [][]byte {
	out := make([][]byte, len(of))
	for i, b := range of {
		if len(b) > 0 {
			out[i] = append([]byte{}, b...)
		}
	}
	return out
}

func copyOf(s model.State) model.State {
	out := model.State{Now: copyDisk(s.Now), Next: s.Next}
	for _, snap := range s.Snaps {
		out.Snaps = append(out.Snaps, model.Snap{ID: snap.ID, Name: snap.Name, Disk: copyDisk(snap.Disk)})
	}
	return out
}

func sameDisk(a, b [][]byte) bool {
	return slices.EqualFunc(a, b, bytes.Equal)
}

// same takes nil and empty lists as one.
func same(a, b model.State) bool {
	return a.Next == b.Next && sameDisk(a.Now, b.Now) && slices.EqualFunc(a.Snaps, b.Snaps, func(x, y model.Snap) bool {
		return x.ID == y.ID && x.Name == y.Name && sameDisk(x.Disk, y.Disk)
	})
}

func sameReply(a, b model.Reply) bool {
	return a.Err == b.Err && a.ID == b.ID && a.Size == b.Size && bytes.Equal(a.Data, b.Data) && slices.Equal(a.List, b.List)
}

// toldDisk tells the first octets of the first sectors.
func toldDisk(of [][]byte) string {
	out := fmt.Sprintf("%d:", len(of))
	for _, b := range of[:min(len(of), 12)] {
		out += fmt.Sprintf(" %d(% x)", len(b), b[:min(len(b), 2)])
	}
	return out
}

func told(s model.State) string {
	out := "now " + toldDisk(s.Now)
	for _, snap := range s.Snaps[:min(len(s.Snaps), 12)] {
		out += fmt.Sprintf("; %d %q %s", snap.ID, snap.Name, toldDisk(snap.Disk))
	}
	return out + fmt.Sprintf("; next %d", s.Next)
}

func toldReply(r model.Reply) string {
	return fmt.Sprintf("err %d, %d octets (%x), id %d, list %v, size %d", r.Err, len(r.Data), r.Data[:min(len(r.Data), 130)], r.ID, r.List, r.Size)
}

func toldOp(x model.Op) string {
	return fmt.Sprintf("op %d at %d n %d id %d name %q, %d octets", x.What, x.At, x.N, x.ID, x.Name, len(x.Data))
}

// plainSnap is a snapshot as octets, zeros and all.
type plainSnap struct {
	named  model.Named
	octets []byte
}

// plain is a state as octets, zeros and all.
type plain struct {
	octets []byte
	snaps  []plainSnap
	next   int
}

func plainOf(s model.State) plain {
	flat := func(of [][]byte) []byte {
		var out []byte
		for _, b := range of {
			out = append(append(out, b...), make([]byte, 64-len(b))...)
		}
		return out
	}
	out := plain{octets: flat(s.Now), next: s.Next}
	for _, snap := range s.Snaps {
		out.snaps = append(out.snaps, plainSnap{model.Named{ID: snap.ID, Name: snap.Name}, flat(snap.Disk)})
	}
	return out
}

func (p plain) state() model.State {
	sectors := func(b []byte) [][]byte {
		var out [][]byte
		for ; len(b) > 0; b = b[64:] {
			if bytes.Equal(b[:64], make([]byte, 64)) {
				out = append(out, nil)
			} else {
				out = append(out, b[:64])
			}
		}
		return out
	}
	out := model.State{Now: sectors(p.octets), Next: p.next}
	for _, snap := range p.snaps {
		out.Snaps = append(out.Snaps, model.Snap{ID: snap.named.ID, Name: snap.named.Name, Disk: sectors(snap.octets)})
	}
	return out
}

func (p plain) names() []model.Named {
	var out []model.Named
	for _, snap := range p.snaps {
		out = append(out, snap.named)
	}
	return out
}

// plainFits adds what may be too great for an int.
func plainFits(size, at, n int) bool {
	end := new(big.Int).Add(big.NewInt(int64(at)), big.NewInt(int64(n)))
	return at >= 0 && n >= 0 && end.Cmp(big.NewInt(int64(size))) <= 0
}

// plainMay is the chapter's words, each a row; the first that holds counts.
func plainMay(size int, snaps []model.Named, next int, x model.Op) api.Errno {
	isOne := func(of ...int) bool { return slices.Contains(of, x.What) }
	hasName, hasID := false, false
	for _, snap := range snaps {
		hasName = hasName || snap.Name == x.Name
		hasID = hasID || snap.ID == x.ID
	}
	for _, row := range []struct {
		holds bool
		err   api.Errno
	}{
		{x.What < 1 || x.What > 8, api.ErrKind},
		{isOne(write) && (len(x.Data) == 0 || len(x.Data)%64 > 0 || len(x.Data) > 4096), api.ErrArg},
		{isOne(write) && !plainFits(size, x.At, len(x.Data)/64), api.ErrRange},
		{isOne(read, discard) && !plainFits(size, x.At, x.N), api.ErrRange},
		{isOne(read, discard) && x.N > 64, api.ErrLong},
		{isOne(snapshot) && (len(x.Name) == 0 || len(x.Name) > 16), api.ErrArg},
		{isOne(snapshot) && hasName, api.ErrTwice},
		{isOne(snapshot) && (len(snaps) > 7 || next > 254), api.ErrCount},
		{isOne(remove, revert) && !hasID, api.ErrNone},
		{isOne(resize) && (x.N < 0 || x.N > 65536), api.ErrRange},
	} {
		if row.holds {
			return row.err
		}
	}
	return api.OK
}

// plainDo does x on octets, one after another.
func plainDo(p plain, x model.Op) (plain, model.Reply) {
	size := len(p.octets) / 64
	if err := plainMay(size, p.names(), p.next, x); err != api.OK {
		return p, model.Reply{Err: err, Size: size}
	}
	out := plain{octets: append([]byte{}, p.octets...), next: p.next}
	var reply model.Reply
	for _, snap := range p.snaps {
		if x.What == revert && snap.named.ID == x.ID {
			out.octets = append([]byte{}, snap.octets...)
		}
		if x.What != remove || snap.named.ID != x.ID {
			out.snaps = append(out.snaps, plainSnap{snap.named, append([]byte{}, snap.octets...)})
		}
	}
	switch x.What {
	case write:
		for i, b := range x.Data {
			out.octets[64*x.At+i] = b
		}
	case read:
		for i := range 64 * x.N {
			reply.Data = append(reply.Data, p.octets[64*x.At+i])
		}
	case discard:
		for i := range 64 * x.N {
			out.octets[64*x.At+i] = 0
		}
	case snapshot:
		taken := model.Named{ID: p.next, Name: x.Name}
		out.snaps = append(out.snaps, plainSnap{taken, append([]byte{}, p.octets...)})
		out.next++
		reply.ID = taken.ID
	case list:
		reply.List = p.names()
	case resize:
		for len(out.octets) < 64*x.N {
			out.octets = append(out.octets, 0)
		}
		out.octets = out.octets[:64*x.N]
	}
	reply.Size = len(out.octets) / 64
	return out, reply
}

func wantCheck(t *testing.T, s model.State, want api.Errno) {
	t.Helper()
	if err := model.Check(s); err != want {
		t.Errorf("P10.1: Check(%s): %d; want %d", told(s), err, want)
	}
}

func wantMay(t *testing.T, size int, snaps []model.Named, next int, x model.Op, want api.Errno) {
	t.Helper()
	if err := model.May(size, snaps, next, x); err != want {
		t.Errorf("P10.1: May(%d, %v, %d, %s): %d; want %d", size, snaps, next, toldOp(x), err, want)
	}
}

// wantDo asks for that state and reply, and that the state may be.
func wantDo(t *testing.T, s model.State, x model.Op, want model.State, reply model.Reply) model.State {
	t.Helper()
	got, r := model.Do(s, x)
	if !same(got, want) {
		t.Errorf("P10.2: Do(%s, %s): %s; want %s", told(s), toldOp(x), told(got), told(want))
	}
	if !sameReply(r, reply) {
		t.Errorf("P10.2: Do(%s, %s): %s; want %s", told(s), toldOp(x), toldReply(r), toldReply(reply))
	}
	if model.Check(s) == api.OK {
		wantCheck(t, got, api.OK)
	}
	return got
}

// wantPlain asks for what the plain way tells.
func wantPlain(t *testing.T, s model.State, x model.Op) model.State {
	t.Helper()
	after, reply := plainDo(plainOf(s), x)
	return wantDo(t, s, x, after.state(), reply)
}
