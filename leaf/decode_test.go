package leaf_test

import (
	"bytes"
	"encoding/binary"
	"math"
	"testing"

	"flagstone/api"
	"flagstone/leaf"
)

// P7.1, P1: any octets but 64 are ErrShort, be there too few or too many,
// and whatever they are.
func TestDecodeWantsOnePage(t *testing.T) {
	wantDecode(t, "nil", nil, leaf.Node{}, api.ErrShort)
	for _, n := range []leaf.Node{ordinaryLeaf(), ordinaryKids()} {
		long := append(pageOf(n), pageOf(n)...)
		for length := range len(long) + 1 {
			if length == 64 {
				wantDecode(t, "a page", long[:length], n, api.OK)
				continue
			}
			wantDecode(t, "a piece", long[:length], leaf.Node{}, api.ErrShort)
			wantDecode(t, "zeros", make([]byte, length), leaf.Node{}, api.ErrShort)
			wantDecode(t, "full octets", bytes.Repeat([]byte{255}, length), leaf.Node{}, api.ErrShort)
		}
	}
}

// P7.1: each octet, the sum's too, made each other one.
func TestDecodeTellsAnotherOctet(t *testing.T) {
	for _, n := range []leaf.Node{ordinaryLeaf(), ordinaryKids(), leafOf(pairs{{2, 3}}), kidsOf([]uint64{0}, 1, 2)} {
		b := pageOf(n)
		for at := range b {
			for change := 1; change < 256; change++ {
				spoilt := bytes.Clone(b)
				spoilt[at] ^= byte(change)
				wantDecode(t, "another octet", spoilt, leaf.Node{}, api.ErrCorrupt)
			}
		}
	}
	wantDecode(t, "zeros", make([]byte, 64), leaf.Node{}, api.ErrCorrupt)
	wantDecode(t, "full octets", bytes.Repeat([]byte{255}, 64), leaf.Node{}, api.ErrCorrupt)
}

// P7.1: the sum fits, but the kind is neither, whatever else stands there.
func TestDecodeWantsItsKind(t *testing.T) {
	full := bytes.Repeat([]byte{255}, 60)
	for kind := range 256 {
		if kind == 1 || kind == 2 {
			continue
		}
		for _, n := range nodesThatMayBe() {
			wantDecode(t, "another kind", with(n, 0, byte(kind)), leaf.Node{}, api.ErrKind)
		}
		full[0] = byte(kind)
		wantDecode(t, "another kind, full octets", sealed(full), leaf.Node{}, api.ErrKind)
		wantDecode(t, "another kind, zeros", octetsOf(byte(kind)), leaf.Node{}, api.ErrKind)
	}
	wantDecode(t, "zeros whose sum fits", sealed(make([]byte, 60)), leaf.Node{}, api.ErrKind)
}

// P7.1: the sum fits, but a leaf's octets are no node's with kids, nor the
// other way round.
func TestDecodeOfTheOtherKind(t *testing.T) {
	for _, n := range []leaf.Node{ordinaryLeaf(), leafOf(pairs{{1, 9}, {2, 8}}), leafOf(pairs{{2, 3}}), leafOf(pairs{{0, 0}})} {
		wantDecode(t, "a leaf as one with kids", with(n, 0, 2), leaf.Node{}, api.ErrCorrupt)
	}
	wantDecode(t, "four kids as a leaf", with(kidsOf([]uint64{5, 6, 7}, 1, 2, 3, 4), 0, 1), leafOf(pairs{{5, 1 + 2<<32}, {6, 3 + 4<<32}, {7, 0}}), api.OK)
	wantDecode(t, "two kids as a leaf", with(kidsOf([]uint64{5}, 1, 2), 0, 1), leafOf(pairs{{5, 1 + 2<<32}}), api.OK)
	// A value may be two kids' numbers.
	wantDecode(t, "a leaf as two kids", with(leafOf(pairs{{5, 1 + 2<<32}}), 0, 2), kidsOf([]uint64{5}, 1, 2), api.OK)
}

// P7.1: the sum fits, but the count is none of 1, 2 and 3.
func TestDecodeWantsItsCount(t *testing.T) {
	full := bytes.Repeat([]byte{255}, 60)
	for count := range 256 {
		if count >= 1 && count <= 3 {
			continue
		}
		for _, n := range nodesThatMayBe() {
			wantDecode(t, "another count", with(n, 1, byte(count)), leaf.Node{}, api.ErrCorrupt)
		}
		for kind := byte(1); kind <= 2; kind++ {
			wantDecode(t, "another count, zeros", octetsOf(kind, byte(count)), leaf.Node{}, api.ErrCorrupt)
			full[0], full[1], full[2], full[3] = kind, byte(count), 0, 0
			wantDecode(t, "another count, full octets", sealed(full), leaf.Node{}, api.ErrCorrupt)
		}
	}
	// Four keys that rise, and five kids, would have room in a page.
	four := leafOf(pairs{{1, 0}, {2, 0}, {3, 0}, {4, 0}})
	wantDecode(t, "four items", pageOf(four), leaf.Node{}, api.ErrCorrupt)
	four.Kids = []int{1, 2, 3, 4, 5}
	wantDecode(t, "four items, five kids", pageOf(four), leaf.Node{}, api.ErrCorrupt)
}

// P7.1: the sum fits, but the count is that of fewer or more items than are
// there.
func TestDecodeOfAWrongCount(t *testing.T) {
	wantDecode(t, "one of three", with(ordinaryLeaf(), 1, 1), leaf.Node{}, api.ErrCorrupt)
	wantDecode(t, "two of three", with(ordinaryLeaf(), 1, 2), leaf.Node{}, api.ErrCorrupt)
	wantDecode(t, "three of two", with(leafOf(pairs{{5, 1}, {6, 2}}), 1, 3), leaf.Node{}, api.ErrCorrupt)
	wantDecode(t, "three of four kids", with(ordinaryKids(), 1, 2), leaf.Node{}, api.ErrCorrupt)
	wantDecode(t, "two of four kids", with(ordinaryKids(), 1, 1), leaf.Node{}, api.ErrCorrupt)
	wantDecode(t, "three of two kids", with(kidsOf([]uint64{5}, 1, 2), 1, 2), leaf.Node{}, api.ErrCorrupt)
}

// P7.1: the sum fits, but one of the two zeros is none, or one of those up
// to the sum, from the first behind what the node has on.
func TestDecodeWantsItsZeros(t *testing.T) {
	for _, c := range []struct {
		n   leaf.Node
		end int
	}{
		{leafOf(pairs{{2, 3}}), 20},
		{leafOf(pairs{{0, 0}, {1, 0}}), 36},
		{ordinaryLeaf(), 52},
		{kidsOf([]uint64{5}, 1, 2), 20},
		{kidsOf([]uint64{5, 6}, 1, 2048, 3), 32},
		{ordinaryKids(), 44},
	} {
		for at := range 60 {
			if at != 2 && at != 3 && at < c.end {
				continue
			}
			for octet := 1; octet < 256; octet++ {
				wantDecode(t, "no zero", with(c.n, at, byte(octet)), leaf.Node{}, api.ErrCorrupt)
			}
		}
		b := pageOf(c.n)
		b[2], b[3], b[59] = 255, 255, 1
		wantDecode(t, "no zeros", sealed(b), leaf.Node{}, api.ErrCorrupt)
	}
}

// P7.1: the sum fits, but no node that may be has the page.
func TestDecodeRefusesWhatMayNotBe(t *testing.T) {
	refused := 0
	for name, n := range nodesThatMayNotBe() {
		// Values and kids of a wrong number have no octets in a page.
		valued := false
		for _, x := range n.Items {
			valued = valued || x.Value != 0
		}
		if len(n.Items) == 0 || len(n.Kids) != 0 && (valued || len(n.Kids) != len(n.Items)+1) {
			continue
		}
		refused++
		wantDecode(t, name, pageOf(n), leaf.Node{}, api.ErrCorrupt)
	}
	if refused < 20 {
		t.Errorf("the test's own pages are but %d", refused)
	}
}

// P7.1: the sum fits, but a kid, in each place, is no page's number or is
// there twice.
func TestDecodeRefusesWrongKids(t *testing.T) {
	wrong := []uint32{0, 2049, 2050, 4096, 1 << 16, 1<<16 + 1, 1 << 24, 1<<24 + 1, 1<<31 - 1, 1 << 31, 1<<31 + 1, math.MaxUint32 - 1, math.MaxUint32}
	for _, n := range []leaf.Node{kidsOf([]uint64{5}, 11, 12), kidsOf([]uint64{5, 6}, 11, 12, 13), kidsOf([]uint64{5, 6, 7}, 11, 12, 13, 14)} {
		for i := range n.Kids {
			at := 4 + 8*len(n.Items) + 4*i
			numbers := append([]uint32{}, wrong...)
			for j, kid := range n.Kids {
				if i != j {
					numbers = append(numbers, uint32(kid))
				}
			}
			for _, number := range numbers {
				b := pageOf(n)
				binary.LittleEndian.PutUint32(b[at:], number)
				wantDecode(t, "a wrong kid", sealed(b), leaf.Node{}, api.ErrCorrupt)
			}
		}
	}
}

// P7.1: each kind, count and few octets, held against the chapter's words:
// a page is taken just if the page of what it tells is it.
func TestDecodeEverySmallPage(t *testing.T) {
	taken := 0
	of := []byte{0, 1, 2, 8}
	for _, kind := range []byte{0, 1, 2, 3} {
		for count := range byte(5) {
			for _, low := range lists(6, of) {
				b := make([]byte, 60)
				b[0], b[1] = kind, count
				for i, octet := range low {
					b[4+4*(i+1)] = octet
				}
				want, wantErr := plainDecode(sealed(b))
				if wantErr == api.OK {
					taken++
				}
				wantDecode(t, "a small page", sealed(b), want, wantErr)
			}
		}
	}
	if taken < 100 {
		t.Errorf("the test's own pages are taken but %d times", taken)
	}
}

// plainDecode reads a page whose sum fits by the library.
func plainDecode(b []byte) (leaf.Node, api.Errno) {
	kind, count := int(b[0]), int(b[1])
	if kind != 1 && kind != 2 {
		return leaf.Node{}, api.ErrKind
	}
	if count < 1 || count > 3 {
		return leaf.Node{}, api.ErrCorrupt
	}
	var n leaf.Node
	for i := range count {
		item := api.Item{Key: binary.LittleEndian.Uint64(b[4+8*i:])}
		if kind == 1 {
			item.Value = binary.LittleEndian.Uint64(b[4+8*count+8*i:])
		}
		n.Items = append(n.Items, item)
	}
	for i := 0; kind == 2 && i <= count; i++ {
		n.Kids = append(n.Kids, int(binary.LittleEndian.Uint32(b[4+8*count+4*i:])))
	}
	if !mayBe(n) || !bytes.Equal(pageOf(n), b) {
		return leaf.Node{}, api.ErrCorrupt
	}
	return n, api.OK
}

// P7.1, P4: of a page that has several faults the first one named counts.
func TestDecodeOrdersItsErrors(t *testing.T) {
	bad := octetsOf(3, 0, 1, 1, 9)
	wantDecode(t, "a wrong kind, no items, no zeros", bad, leaf.Node{}, api.ErrKind)
	wrongSum := bytes.Clone(bad)
	wrongSum[63] ^= 1
	wantDecode(t, "a wrong sum, a wrong kind", wrongSum, leaf.Node{}, api.ErrCorrupt)
	wantDecode(t, "one octet too few, a wrong kind", bad[:63], leaf.Node{}, api.ErrShort)
	wantDecode(t, "one octet too many, a wrong sum", append(wrongSum, 0), leaf.Node{}, api.ErrShort)
	wantDecode(t, "three octets", []byte{3, 0, 1}, leaf.Node{}, api.ErrShort)
	wantDecode(t, "a wrong kind, four items", octetsOf(0, 4), leaf.Node{}, api.ErrKind)
	wantDecode(t, "a wrong kind, 255 items", octetsOf(255, 255, 255, 255), leaf.Node{}, api.ErrKind)
	// 65 octets of which the sum fits are no page either.
	long := append(make([]byte, 60), 1)
	long = append(long, sealed(make([]byte, 60))[60:]...)
	wantDecode(t, "65 octets", long, leaf.Node{}, api.ErrShort)
}
