package leaf_test

import (
	"bytes"
	"encoding/binary"
	"hash/crc32"
	"math"
	"slices"
	"testing"

	"flagstone/api"
	"flagstone/leaf"
)

// pairs is items whose keys and values stand in their fields' order.
type pairs [][2]uint64

func leafOf(l pairs) leaf.Node {
	var n leaf.Node
	for _, x := range l {
		n.Items = append(n.Items, api.Item{Key: x[0], Value: x[1]})
	}
	return n
}

// kidsOf has items without values.
func kidsOf(keys []uint64, kids ...int) leaf.Node {
	n := leaf.Node{Kids: kids}
	for _, key := range keys {
		n.Items = append(n.Items, api.Item{Key: key})
	}
	return n
}

// sealed lays, by the library's own sum, that of the first 60 octets behind
// them, so that it fits whatever they are.
func sealed(b []byte) []byte {
	b = bytes.Clone(b[:60])
	return binary.LittleEndian.AppendUint32(b, crc32.Checksum(b, crc32.MakeTable(crc32.Castagnoli)))
}

// pageOf is the chapter's page of n, by the library, of nodes that may not
// be too, as long as they fit; of a kid that is too great for its octets the
// lowest are laid.
func pageOf(n leaf.Node) []byte {
	b := []byte{1, byte(len(n.Items)), 0, 0}
	for _, x := range n.Items {
		b = binary.LittleEndian.AppendUint64(b, x.Key)
	}
	if len(n.Kids) == 0 {
		for _, x := range n.Items {
			b = binary.LittleEndian.AppendUint64(b, x.Value)
		}
	} else {
		b[0] = 2
		for _, kid := range n.Kids {
			b = binary.LittleEndian.AppendUint32(b, uint32(kid))
		}
	}
	return sealed(append(b, make([]byte, 60)...))
}

// with is the page of n with one octet another, whose sum fits again.
func with(n leaf.Node, at int, octet byte) []byte {
	b := pageOf(n)
	b[at] = octet
	return sealed(b)
}

// mayBe tells the plain way, by the chapter's words, whether n may be.
func mayBe(n leaf.Node) bool {
	if len(n.Items) != 1 && len(n.Items) != 2 && len(n.Items) != 3 {
		return false
	}
	for i, x := range n.Items {
		for _, y := range n.Items[:i] {
			if y.Key >= x.Key {
				return false
			}
		}
		if len(n.Kids) != 0 && x.Value != 0 {
			return false
		}
	}
	if len(n.Kids) == 0 {
		return true
	}
	met := map[int]int{}
	for _, kid := range n.Kids {
		met[kid]++
		if kid <= 0 || kid >= 2049 || met[kid] > 1 {
			return false
		}
	}
	return len(n.Kids) == len(n.Items)+1
}

// nodesThatMayBe has leaves and nodes with kids of 1, 2 and 3 items, with
// numbers at their edges, and such whose octets differ.
func nodesThatMayBe() map[string]leaf.Node {
	const most = math.MaxUint64
	return map[string]leaf.Node{
		"the example":                {Items: []api.Item{{Key: 2, Value: 3}}},
		"a leaf of zeros":            leafOf(pairs{{0, 0}}),
		"a leaf of the greatest":     leafOf(pairs{{most, most}}),
		"a leaf, kids empty":         {Items: []api.Item{{Key: 2, Value: 3}}, Kids: []int{}},
		"a leaf of two":              leafOf(pairs{{1, 9}, {2, 8}}),
		"a leaf of two, far":         leafOf(pairs{{0, most}, {most, 0}}),
		"a leaf of two, next":        leafOf(pairs{{most - 1, 1}, {most, 1}}),
		"a leaf of two, zeros":       leafOf(pairs{{0, 0}, {1, 0}}),
		"a leaf of three":            ordinaryLeaf(),
		"a leaf of three, near":      leafOf(pairs{{0, 0}, {1, 0}, {2, 0}}),
		"a leaf of three, far":       leafOf(pairs{{0, most}, {1 << 63, most}, {most, most}}),
		"a leaf around the middle":   leafOf(pairs{{1<<63 - 1, 3}, {1 << 63, 2}, {1<<63 + 1, 1}}),
		"two kids":                   kidsOf([]uint64{5}, 1, 2),
		"two kids, key 0":            kidsOf([]uint64{0}, 2, 1),
		"two kids, the greatest key": kidsOf([]uint64{most}, 1, 2048),
		"two kids, the last":         kidsOf([]uint64{1 << 63}, 2048, 2047),
		"three kids":                 kidsOf([]uint64{5, 6}, 1, 2048, 3),
		"three kids, far":            kidsOf([]uint64{0, most}, 300, 200, 100),
		"four kids":                  ordinaryKids(),
		"four kids, near":            kidsOf([]uint64{0, 1, 2}, 1, 2, 3, 4),
		"four kids, far":             kidsOf([]uint64{0, 1 << 63, most}, 2048, 1, 2047, 2),
		"kids of one low octet":      kidsOf([]uint64{1, 2, 3}, 1, 257, 513, 1025),
		"kids of one high octet":     kidsOf([]uint64{1, 2, 3}, 0x701, 0x702, 0x703, 0x7ff),
		"kids as great as the keys":  kidsOf([]uint64{7, 8}, 7, 8, 9),
		"kids that fall, keys rise":  kidsOf([]uint64{7, 8}, 9, 8, 7),
	}
}

// ordinaryLeaf has no two octets that are the same.
func ordinaryLeaf() leaf.Node {
	return leafOf(pairs{
		{0x0102030405060708, 0x3132333435363738},
		{0x1112131415161718, 0x2122232425262728},
		{0x4142434445464748, 0x5152535455565758},
	})
}

func ordinaryKids() leaf.Node {
	return kidsOf([]uint64{0x1112131415161718, 0x2122232425262728, 0x4142434445464748}, 0x0605, 0x0102, 0x0304, 0x0708)
}

// anyKid has numbers that no page has, of any size; some of them would fit
// if their upper octets were lost.
func anyKid() []int {
	return []int{0, -1, -2, -2048, 2049, 2050, 4096, 1 << 16, 1<<16 + 1, 1<<31 - 1, 1 << 31, 1<<32 - 1, 1 << 32, 1<<32 + 1, 1<<32 + 2048,
		1<<48 + 5, 1<<62 + 7, -1<<32 + 1, -1 << 62, math.MaxInt, math.MaxInt - 1, math.MinInt, math.MinInt + 1, math.MinInt + 2048}
}

// nodesThatMayNotBe has nodes of which nearly each may not be for one reason
// alone.
func nodesThatMayNotBe() map[string]leaf.Node {
	const most = math.MaxUint64
	return map[string]leaf.Node{
		"nothing":                          {},
		"no items, lists empty":            {Items: []api.Item{}, Kids: []int{}},
		"no items, a kid":                  kidsOf(nil, 1),
		"no items, two kids":               kidsOf(nil, 1, 2),
		"four items":                       leafOf(pairs{{1, 0}, {2, 0}, {3, 0}, {4, 0}}),
		"four items, five kids":            kidsOf([]uint64{1, 2, 3, 4}, 1, 2, 3, 4, 5),
		"four items, four kids":            kidsOf([]uint64{1, 2, 3, 4}, 1, 2, 3, 4),
		"keys alike":                       leafOf(pairs{{1, 0}, {1, 0}}),
		"keys alike, 0":                    leafOf(pairs{{0, 1}, {0, 2}}),
		"keys alike, the greatest":         leafOf(pairs{{most, 1}, {most, 2}}),
		"keys alike, the first two":        leafOf(pairs{{1, 0}, {1, 0}, {2, 0}}),
		"keys alike, the last two":         leafOf(pairs{{1, 0}, {2, 0}, {2, 0}}),
		"keys fall":                        leafOf(pairs{{2, 0}, {1, 0}}),
		"keys fall, far":                   leafOf(pairs{{most, 0}, {0, 0}}),
		"keys fall in the sign's bit":      leafOf(pairs{{1 << 63, 0}, {1, 0}}),
		"keys fall in the lowest octet":    leafOf(pairs{{0x0102, 0}, {0x0101, 0}}),
		"keys fall, the first two":         leafOf(pairs{{2, 0}, {1, 0}, {3, 0}}),
		"keys fall, the last two":          leafOf(pairs{{1, 0}, {3, 0}, {2, 0}}),
		"keys fall, the last below all":    leafOf(pairs{{1, 0}, {2, 0}, {0, 0}}),
		"keys alike, with kids":            kidsOf([]uint64{1, 1}, 1, 2, 3),
		"keys fall, with kids":             kidsOf([]uint64{2, 1}, 1, 2, 3),
		"keys fall behind, with kids":      kidsOf([]uint64{1, 3, 2}, 1, 2, 3, 4),
		"a kid too few, of one":            kidsOf([]uint64{1}, 1),
		"a kid too few, of two":            kidsOf([]uint64{1, 2}, 1, 2),
		"two kids too few, of two":         kidsOf([]uint64{1, 2}, 1),
		"a kid too few, of three":          kidsOf([]uint64{1, 2, 3}, 1, 2, 3),
		"three kids too few, of three":     kidsOf([]uint64{1, 2, 3}, 1),
		"a kid too many, of one":           kidsOf([]uint64{1}, 1, 2, 3),
		"a kid too many, of two":           kidsOf([]uint64{1, 2}, 1, 2, 3, 4),
		"a kid too many, of three":         kidsOf([]uint64{1, 2, 3}, 1, 2, 3, 4, 5),
		"two kids too many, of one":        kidsOf([]uint64{1}, 1, 2, 3, 4),
		"two kids alike":                   kidsOf([]uint64{1}, 1, 1),
		"two kids alike, the greatest":     kidsOf([]uint64{1}, 2048, 2048),
		"two kids alike, first and second": kidsOf([]uint64{1, 2}, 7, 7, 8),
		"two kids alike, first and last":   kidsOf([]uint64{1, 2, 3}, 7, 8, 9, 7),
		"two kids alike, the last two":     kidsOf([]uint64{1, 2, 3}, 7, 8, 9, 9),
		"two kids alike, in the middle":    kidsOf([]uint64{1, 2, 3}, 7, 8, 8, 9),
		"three kids alike":                 kidsOf([]uint64{1, 2}, 7, 7, 7),
		"a value beside kids":              {Items: []api.Item{{Key: 1, Value: 1}}, Kids: []int{1, 2}},
		"the greatest value beside kids":   {Items: []api.Item{{Key: 1, Value: most}}, Kids: []int{1, 2}},
		"an upper bit of a value":          {Items: []api.Item{{Key: 1, Value: 1 << 63}}, Kids: []int{1, 2}},
		"a value first":                    {Items: []api.Item{{Key: 1, Value: 1}, {Key: 2}}, Kids: []int{1, 2, 3}},
		"a value in the middle":            {Items: []api.Item{{Key: 1}, {Key: 2, Value: 1}, {Key: 3}}, Kids: []int{1, 2, 3, 4}},
		"a value last":                     {Items: []api.Item{{Key: 1}, {Key: 2}, {Key: 3, Value: 1}}, Kids: []int{1, 2, 3, 4}},
	}
}

// nodesOfWrongKids has nodes of which one kid alone, in each place, is no
// page's number.
func nodesOfWrongKids() []leaf.Node {
	var all []leaf.Node
	for _, whole := range []leaf.Node{kidsOf([]uint64{5}, 11, 12), kidsOf([]uint64{5, 6}, 11, 12, 13), kidsOf([]uint64{5, 6, 7}, 11, 12, 13, 14)} {
		for i := range whole.Kids {
			for _, kid := range anyKid() {
				kids := slices.Clone(whole.Kids)
				kids[i] = kid
				all = append(all, leaf.Node{Items: slices.Clone(whole.Items), Kids: kids})
			}
		}
	}
	return all
}

// alike holds nodes against each other; nil and empty lists are one.
func alike(a, b leaf.Node) bool {
	return slices.Equal(a.Items, b.Items) && slices.Equal(a.Kids, b.Kids)
}

func wantCheck(t *testing.T, what string, n leaf.Node, want api.Errno) {
	t.Helper()
	if err := leaf.Check(n); err != want {
		t.Errorf("P7.1: Check, %s: %+v: %d; want %d", what, n, err, want)
	}
}

func wantEncode(t *testing.T, what string, n leaf.Node, want []byte, wantErr api.Errno) {
	t.Helper()
	if b, err := leaf.Encode(n); !bytes.Equal(b, want) || err != wantErr {
		t.Errorf("P7.1: Encode, %s: %+v: % x, %d; want % x, %d", what, n, b, err, want, wantErr)
	}
}

func wantDecode(t *testing.T, what string, b []byte, want leaf.Node, wantErr api.Errno) {
	t.Helper()
	if n, err := leaf.Decode(b); !alike(n, want) || err != wantErr {
		t.Errorf("P7.1: Decode, %s: % x: %+v, %d; want %+v, %d", what, b, n, err, want, wantErr)
	}
}
