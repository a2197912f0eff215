package leaf_test

import (
	"testing"

	"flagstone/api"
	"flagstone/leaf"
)

// octetsOf is these octets, zeros up to 60, and their sum.
func octetsOf(b ...byte) []byte {
	return sealed(append(b, make([]byte, 60)...))
}

// P7.1, P5: pages written out, the chapter's example first.
func TestEncodeTellsTheseOctets(t *testing.T) {
	wantEncode(t, "the example", leafOf(pairs{{2, 3}}), octetsOf(1, 1, 0, 0,
		2, 0, 0, 0, 0, 0, 0, 0,
		3, 0, 0, 0, 0, 0, 0, 0), api.OK)
	wantEncode(t, "a leaf of three", ordinaryLeaf(), octetsOf(1, 3, 0, 0,
		8, 7, 6, 5, 4, 3, 2, 1,
		0x18, 0x17, 0x16, 0x15, 0x14, 0x13, 0x12, 0x11,
		0x48, 0x47, 0x46, 0x45, 0x44, 0x43, 0x42, 0x41,
		0x38, 0x37, 0x36, 0x35, 0x34, 0x33, 0x32, 0x31,
		0x28, 0x27, 0x26, 0x25, 0x24, 0x23, 0x22, 0x21,
		0x58, 0x57, 0x56, 0x55, 0x54, 0x53, 0x52, 0x51), api.OK)
	wantEncode(t, "two kids", kidsOf([]uint64{258}, 2048, 1), octetsOf(2, 1, 0, 0,
		2, 1, 0, 0, 0, 0, 0, 0,
		0, 8, 0, 0,
		1, 0, 0, 0), api.OK)
	wantEncode(t, "four kids", ordinaryKids(), octetsOf(2, 3, 0, 0,
		0x18, 0x17, 0x16, 0x15, 0x14, 0x13, 0x12, 0x11,
		0x28, 0x27, 0x26, 0x25, 0x24, 0x23, 0x22, 0x21,
		0x48, 0x47, 0x46, 0x45, 0x44, 0x43, 0x42, 0x41,
		5, 6, 0, 0,
		2, 1, 0, 0,
		4, 3, 0, 0,
		8, 7, 0, 0), api.OK)
}

// P7.1: the sum of the example's page, written out.
func TestEncodeTellsTheSum(t *testing.T) {
	b, err := leaf.Encode(leafOf(pairs{{2, 3}}))
	if err != api.OK || len(b) != 64 || string(b[60:]) != "\xd3\xc6\xf3\x06" {
		t.Errorf("P7.1: Encode: % x, %d", b, err)
	}
}

// P7.1.
func TestEncodeTellsThePage(t *testing.T) {
	for name, n := range nodesThatMayBe() {
		wantEncode(t, name, n, pageOf(n), api.OK)
	}
}

// P7.2; and the page of what is decoded is the page.
func TestDecodeOfEncode(t *testing.T) {
	for name, n := range nodesThatMayBe() {
		b, err := leaf.Encode(n)
		if err != api.OK {
			t.Errorf("P7.2: Encode, %s: %d", name, err)
		}
		wantDecode(t, "P7.2: "+name, b, n, api.OK)
		wantEncode(t, "P7.2: "+name, n, b, api.OK)
	}
}

// P7.2: each kid that may be, in each place.
func TestDecodeOfEncodeOfEachKid(t *testing.T) {
	for kid := 1; kid <= 2048; kid++ {
		next := 1 + kid%2048
		for _, n := range []leaf.Node{kidsOf([]uint64{uint64(kid)}, kid, next), kidsOf([]uint64{0, uint64(kid)}, 1+next%2048, next, kid)} {
			b, err := leaf.Encode(n)
			if err != api.OK {
				t.Fatalf("P7.2: Encode(%+v): %d", n, err)
			}
			wantDecode(t, "P7.2", b, n, api.OK)
		}
	}
}

// P7.1: what is decoded was laid by nobody but the test.
func TestDecodeReadsThePage(t *testing.T) {
	for name, n := range nodesThatMayBe() {
		wantDecode(t, name, pageOf(n), n, api.OK)
	}
}

// P7.1: keys that are at most the key, counted.
func TestWay(t *testing.T) {
	const most = 1<<64 - 1
	three := []uint64{10, 20, 30}
	for _, c := range []struct {
		keys []uint64
		key  uint64
		want int
	}{
		{three, 0, 0}, {three, 9, 0}, {three, 10, 1}, {three, 11, 1}, {three, 19, 1}, {three, 20, 2}, {three, 21, 2},
		{three, 29, 2}, {three, 30, 3}, {three, 31, 3}, {three, most, 3}, {three, 1 << 63, 3},
		{[]uint64{10}, 9, 0}, {[]uint64{10}, 10, 1}, {[]uint64{10}, 11, 1},
		{[]uint64{10, 20}, 9, 0}, {[]uint64{10, 20}, 10, 1}, {[]uint64{10, 20}, 15, 1}, {[]uint64{10, 20}, 20, 2}, {[]uint64{10, 20}, 25, 2},
		{[]uint64{0}, 0, 1}, {[]uint64{0}, most, 1}, {[]uint64{most}, most, 1}, {[]uint64{most}, most - 1, 0}, {[]uint64{most}, 0, 0},
		{[]uint64{1 << 63}, 1, 0}, {[]uint64{1}, 1 << 63, 1}, {[]uint64{1<<63 - 1, 1 << 63}, 1<<63 - 1, 1},
		{[]uint64{0, 1 << 63, most}, 0, 1}, {[]uint64{0, 1 << 63, most}, 1<<63 - 1, 1}, {[]uint64{0, 1 << 63, most}, 1 << 63, 2}, {[]uint64{0, 1 << 63, most}, most, 3},
		{nil, 0, 0}, {nil, 5, 0}, {nil, most, 0},
		// Nodes that may not be: each key counts by itself.
		{[]uint64{5, 5, 5}, 5, 3}, {[]uint64{5, 5, 5}, 4, 0}, {[]uint64{30, 10, 20}, 20, 2}, {[]uint64{30, 20, 10}, 10, 1}, {[]uint64{30, 20, 10}, 15, 1},
		{[]uint64{1, 9, 2, 8, 3, 7, 4}, 4, 4}, {[]uint64{1, 2, 3, 4, 5}, 4, 4}, {[]uint64{1, 2, 3, 4, 5}, 9, 5},
	} {
		// Neither the kids nor the values count.
		valued := kidsOf(c.keys)
		for i := range valued.Items {
			valued.Items[i].Value = most - uint64(i)
		}
		for _, n := range []leaf.Node{kidsOf(c.keys), kidsOf(c.keys, 1, 2, 3, 4), kidsOf(c.keys, -1, 1<<40, -1), valued} {
			if got := leaf.Way(n, c.key); got != c.want {
				t.Errorf("P7.1: Way(%+v, %d): %d; want %d", n, c.key, got, c.want)
			}
		}
	}
	if got := leaf.Way(leaf.Node{Items: []api.Item{}, Kids: []int{1}}, 7); got != 0 {
		t.Errorf("P7.1: Way of no items: %d; want 0", got)
	}
}

// P7.1, P1: very many items, and what lies behind a first key that is above.
func TestWayOfVeryMany(t *testing.T) {
	n := leaf.Node{Items: make([]api.Item, 1<<20)}
	for i := range n.Items {
		n.Items[i].Key = uint64(i) % 1000
	}
	if got := leaf.Way(n, 0); got != 1049 {
		t.Errorf("P7.1: Way: %d; want 1049", got)
	}
	if got := leaf.Way(n, 999); got != 1<<20 {
		t.Errorf("P7.1: Way: %d; want all", got)
	}
}
