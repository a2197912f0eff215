package leaf_test

import (
	"bytes"
	"slices"
	"testing"

	"flagstone/api"
	"flagstone/leaf"
)

// roomy has memory behind its end, in which a call might write.
func roomy[T any](l []T, behind T) []T {
	out := append(make([]T, 0, len(l)+8), l...)
	return append(out, behind, behind)[:len(l)]
}

// whole is l with the memory behind its end.
func whole[T any](l []T) []T {
	return l[:cap(l)]
}

func spoil[T any](l []T, by T) {
	for i := range whole(l) {
		whole(l)[i] = by
	}
}

func roomyNode(n leaf.Node) leaf.Node {
	return leaf.Node{Items: roomy(n.Items, api.Item{Key: 1, Value: 7}), Kids: roomy(n.Kids, 77)}
}

func wholeNode(n leaf.Node) leaf.Node {
	return leaf.Node{Items: slices.Clone(whole(n.Items)), Kids: slices.Clone(whole(n.Kids))}
}

func spoilNode(n leaf.Node) {
	spoil(n.Items, api.Item{Key: 99, Value: 99})
	spoil(n.Kids, -99)
}

// P7.3, P2: neither the node that is handed in nor the memory behind it is
// changed, be it taken or refused.
func TestNodesStay(t *testing.T) {
	all := nodesOfWrongKids()
	for _, some := range []map[string]leaf.Node{nodesThatMayBe(), nodesThatMayNotBe()} {
		for _, n := range some {
			all = append(all, n)
		}
	}
	for _, from := range all {
		n := roomyNode(from)
		before := wholeNode(n)
		leaf.Check(n)
		leaf.Encode(n)
		leaf.Way(n, 0)
		leaf.Way(n, 5)
		leaf.Way(n, 1<<64-1)
		if after := wholeNode(n); !alike(after, before) {
			t.Errorf("P7.3: a node changed: %+v; want %+v", after, before)
		}
	}
}

// P7.3, P2: neither the octets that are handed in nor the memory behind them
// are changed, be they taken or refused.
func TestOctetsStay(t *testing.T) {
	all := [][]byte{nil, make([]byte, 64), octetsOf(3), octetsOf(2, 255), pageOf(ordinaryLeaf())[:63], append(pageOf(ordinaryLeaf()), 1), with(ordinaryKids(), 59, 1), with(ordinaryLeaf(), 2, 1)}
	for _, n := range nodesThatMayBe() {
		all = append(all, pageOf(n))
	}
	for _, from := range all {
		b := roomy(from, 0xe1)
		before := bytes.Clone(whole(b))
		leaf.Decode(b)
		if !bytes.Equal(whole(b), before) {
			t.Errorf("P7.3: octets changed: % x; want % x", whole(b), before)
		}
	}
}

// P7.3, P2: what becomes of a node later is not seen in its page, nor what
// becomes of the page in the node.
func TestPagesShareNoNode(t *testing.T) {
	for name, from := range nodesThatMayBe() {
		n := roomyNode(from)
		before := wholeNode(n)
		b, _ := leaf.Encode(n)
		spoil(b, 0x55)
		if !alike(wholeNode(n), before) {
			t.Errorf("P7.3: Encode, %s: the page is the node's memory", name)
		}
		b, err := leaf.Encode(n)
		spoilNode(n)
		if !bytes.Equal(b, pageOf(from)) || err != api.OK {
			t.Errorf("P7.3: Encode, %s: the page is the node's memory: % x, %d", name, b, err)
		}
	}
}

// P7.3, P2: what becomes of octets later is not seen in their node, nor what
// becomes of the node in the octets.
func TestNodesShareNoOctets(t *testing.T) {
	for name, from := range nodesThatMayBe() {
		b := roomy(pageOf(from), 0xe1)
		before := bytes.Clone(whole(b))
		n, _ := leaf.Decode(b)
		spoilNode(n)
		if !bytes.Equal(whole(b), before) {
			t.Errorf("P7.3: Decode, %s: the node is the page's memory", name)
		}
		n, err := leaf.Decode(b)
		spoil(b, 0x55)
		if !alike(n, from) || err != api.OK {
			t.Errorf("P7.3: Decode, %s: the node is the page's memory: %+v, %d", name, n, err)
		}
	}
}

// P7.3, P2, P3: two answers share nothing, and hang on the arguments alone;
// calls for others, taken or refused, are not seen in them.
func TestAnswersShareNothing(t *testing.T) {
	others := func() {
		for _, some := range []map[string]leaf.Node{nodesThatMayBe(), nodesThatMayNotBe()} {
			for _, n := range some {
				leaf.Check(n)
				leaf.Encode(n)
				leaf.Decode(pageOf(n))
				leaf.Way(n, 3)
			}
		}
	}
	for name, n := range nodesThatMayBe() {
		page1, _ := leaf.Encode(n)
		page2, err2 := leaf.Encode(n)
		spoil(page1, 0x55)
		others()
		page3, err3 := leaf.Encode(n)
		if want := pageOf(n); !bytes.Equal(page2, want) || !bytes.Equal(page3, want) || err2 != api.OK || err3 != api.OK {
			t.Errorf("P7.3: Encode, %s: % x, then % x; want % x", name, page2, page3, want)
		}
		node1, _ := leaf.Decode(pageOf(n))
		node2, err2 := leaf.Decode(pageOf(n))
		spoilNode(node1)
		others()
		node3, err3 := leaf.Decode(pageOf(n))
		if !alike(node2, n) || !alike(node3, n) || err2 != api.OK || err3 != api.OK {
			t.Errorf("P7.3: Decode, %s: %+v, then %+v; want %+v", name, node2, node3, n)
		}
	}
}
