package tree_test

import (
	"bytes"
	"encoding/binary"
	"fmt"
	"hash/crc32"
	"maps"
	"math"
	"slices"
	"testing"

	"flagstone/api"
	"flagstone/tree"
)

const most = math.MaxUint64

// node is what a page has: a leaf's keys have values, others have kids.
type node struct {
	keys, values []uint64
	kids         []int
}

// leafOf has each key's value as valueOf tells it.
func leafOf(keys ...uint64) node {
	n := node{keys: keys}
	for _, key := range keys {
		n.values = append(n.values, valueOf(key))
	}
	return n
}

func kidsOf(keys []uint64, kids ...int) node {
	return node{keys: keys, kids: kids}
}

// valueOf is another number than key, and another one for each key.
func valueOf(key uint64) uint64 {
	return key ^ 0x5500ff
}

func item(key uint64) api.Item {
	return api.Item{Key: key, Value: valueOf(key)}
}

func itemsOf(keys ...uint64) []api.Item {
	var out []api.Item
	for _, key := range keys {
		out = append(out, item(key))
	}
	return out
}

// sealed lays, by the library's own sum, that of the first 60 octets behind
// them, so that it fits whatever they are.
func sealed(b []byte) []byte {
	b = bytes.Clone(b[:60])
	return binary.LittleEndian.AppendUint32(b, crc32.Checksum(b, crc32.MakeTable(crc32.Castagnoli)))
}

// pageOf is chapter 7's page of n, by the library, of nodes that may not be
// too, as long as they fit.
func pageOf(n node) []byte {
	b := []byte{1, byte(len(n.keys)), 0, 0}
	for _, key := range n.keys {
		b = binary.LittleEndian.AppendUint64(b, key)
	}
	for _, value := range n.values {
		b = binary.LittleEndian.AppendUint64(b, value)
	}
	for _, kid := range n.kids {
		b[0] = 2
		b = binary.LittleEndian.AppendUint32(b, uint32(kid))
	}
	return sealed(append(b, make([]byte, 60)...))
}

// nodeOf reads a page the plain way; none of one that is not as chapter 7
// says.
func nodeOf(b []byte) (node, bool) {
	if len(b) != 64 || !bytes.Equal(sealed(b), b) || b[0] != 1 && b[0] != 2 || b[1] < 1 || b[1] > 3 {
		return node{}, false
	}
	var n node
	for i := range int(b[1]) {
		n.keys = append(n.keys, binary.LittleEndian.Uint64(b[4+8*i:]))
		if i > 0 && n.keys[i] <= n.keys[i-1] {
			return node{}, false
		}
	}
	rest := b[4+8*len(n.keys):]
	for i := range len(n.keys) {
		if b[0] == 1 {
			n.values = append(n.values, binary.LittleEndian.Uint64(rest[8*i:]))
		}
	}
	for i := range len(n.keys) + 1 {
		if b[0] == 2 {
			kid := int(binary.LittleEndian.Uint32(rest[4*i:]))
			if kid < 1 || kid > 2048 || slices.Contains(n.kids, kid) {
				return node{}, false
			}
			n.kids = append(n.kids, kid)
		}
	}
	return n, bytes.Equal(pageOf(n), b)
}

// stateOf has these nodes' pages, from number 1 on; of a node without keys a
// free one.
func stateOf(nodes ...node) tree.State {
	var s tree.State
	for _, n := range nodes {
		if len(n.keys) == 0 {
			s.Pages = append(s.Pages, nil)
			continue
		}
		s.Pages = append(s.Pages, pageOf(n))
	}
	return s
}

// plain is a tree the plain way: what its pages tell one by one.
type plain struct {
	items   []api.Item
	reached []int
	depths  map[int]int
}

// plainOf tells whether root's tree may be by the chapter's words, slowly.
func plainOf(s tree.State, root int) (plain, bool) {
	p := plain{depths: map[int]int{}}
	if len(s.Pages) > 2048 {
		return plain{}, false
	}
	if root != 0 {
		if _, ok := p.add(s, root, 1); !ok || len(p.depths) != 1 {
			return plain{}, false
		}
	}
	slices.Sort(p.reached)
	return p, true
}

// add is all keys in a page and in what is below it.
func (p *plain) add(s tree.State, number, depth int) ([]uint64, bool) {
	if number < 1 || number > len(s.Pages) || slices.Contains(p.reached, number) || depth > 16 {
		return nil, false
	}
	p.reached = append(p.reached, number)
	n, ok := nodeOf(s.Pages[number-1])
	if !ok {
		return nil, false
	}
	if len(n.kids) == 0 {
		p.depths[depth]++
		for i, key := range n.keys {
			p.items = append(p.items, api.Item{Key: key, Value: n.values[i]})
		}
		return n.keys, true
	}
	all := slices.Clone(n.keys)
	for i, kid := range n.kids {
		keys, ok := p.add(s, kid, depth+1)
		if !ok {
			return nil, false
		}
		for _, key := range keys {
			if i > 0 && key < n.keys[i-1] || i < len(n.keys) && key >= n.keys[i] {
				return nil, false
			}
		}
		all = append(all, keys...)
	}
	return all, true
}

// mustPlain is of a tree that the test itself holds to be one that may be.
func mustPlain(t *testing.T, what string, s tree.State, root int) plain {
	t.Helper()
	p, ok := plainOf(s, root)
	if !ok {
		t.Fatalf("%s: the tree of %d may not be: %s", what, root, told(s))
	}
	return p
}

func (p plain) get(key uint64) (uint64, bool) {
	for _, x := range p.items {
		if x.Key == key {
			return x.Value, true
		}
	}
	return 0, false
}

func (p plain) floor(key uint64) (api.Item, bool) {
	for _, x := range slices.Backward(p.items) {
		if x.Key <= key {
			return x, true
		}
	}
	return api.Item{}, false
}

func (p plain) from(key uint64, n int) []api.Item {
	var out []api.Item
	for _, x := range p.items {
		if x.Key >= key && len(out) < n {
			out = append(out, x)
		}
	}
	return out
}

// with is the items with x in its place.
func (p plain) with(x api.Item) []api.Item {
	m := map[uint64]uint64{x.Key: x.Value}
	for _, y := range p.items {
		if y.Key != x.Key {
			m[y.Key] = y.Value
		}
	}
	return mapped(m)
}

func (p plain) without(key uint64) []api.Item {
	m := map[uint64]uint64{}
	for _, y := range p.items {
		if y.Key != key {
			m[y.Key] = y.Value
		}
	}
	return mapped(m)
}

// mapped is a map's items, by key.
func mapped(m map[uint64]uint64) []api.Item {
	var out []api.Item
	for _, key := range slices.Sorted(maps.Keys(m)) {
		out = append(out, api.Item{Key: key, Value: m[key]})
	}
	return out
}

// same takes pages that are nil or empty as one.
func same(a, b tree.State) bool {
	return slices.EqualFunc(a.Pages, b.Pages, bytes.Equal)
}

func cloned(s tree.State) tree.State {
	out := tree.State{Pages: make([][]byte, len(s.Pages))}
	for i, page := range s.Pages {
		out.Pages[i] = bytes.Clone(page)
	}
	return out
}

// told is a state's nodes; of many pages the first ones.
func told(s tree.State) string {
	out := fmt.Sprint(len(s.Pages), " pages:")
	for i, page := range s.Pages[:min(len(s.Pages), 24)] {
		n, ok := nodeOf(page)
		switch {
		case len(page) == 0:
			out += fmt.Sprintf(" %d free;", i+1)
		case !ok:
			out += fmt.Sprintf(" %d no node (% x);", i+1, page)
		case len(n.kids) == 0:
			out += fmt.Sprintf(" %d leaf %v;", i+1, n.keys)
		default:
			out += fmt.Sprintf(" %d keys %v kids %v;", i+1, n.keys, n.kids)
		}
	}
	return out
}

// newPages is the numbers of the count lowest free pages, and behind the
// last.
func newPages(s tree.State, count int) []int {
	var out []int
	for number := 1; len(out) < count; number++ {
		if number > len(s.Pages) || len(s.Pages[number-1]) == 0 {
			out = append(out, number)
		}
	}
	return out
}

// wantGrown holds what a change answers against what it was given: pages
// that were not free are as they were, the new ones are the lowest, and there
// is none that the new root does not reach.
func wantGrown(t *testing.T, call string, s tree.State, root int, next tree.State, top int, items []api.Item) {
	t.Helper()
	was := mustPlain(t, call+": ahead", s, root)
	now := mustPlain(t, "P8.1: "+call, next, top)
	if !slices.Equal(now.items, items) {
		t.Fatalf("P8.1: %s: %v; want %v", call, now.items, items)
	}
	var fresh []int
	for i, page := range next.Pages {
		isOld := i < len(s.Pages) && len(s.Pages[i]) > 0
		if isOld && !bytes.Equal(page, s.Pages[i]) {
			t.Fatalf("P8.1: %s: page %d is another one: % x; want % x", call, i+1, page, s.Pages[i])
		}
		if !isOld && len(page) > 0 {
			fresh = append(fresh, i+1)
		}
	}
	if want := newPages(s, len(fresh)); !slices.Equal(fresh, want) {
		t.Fatalf("P8.1: %s: new pages are %v; want %v (of %s)", call, fresh, want, told(s))
	}
	for _, number := range fresh {
		if !slices.Contains(now.reached, number) {
			t.Fatalf("P8.1: %s: the new page %d is not of the new tree %v", call, number, now.reached)
		}
	}
	if want := max(len(s.Pages), slices.Max(append(fresh, 0))); len(next.Pages) != want {
		t.Fatalf("P8.1: %s: %d pages; want %d", call, len(next.Pages), want)
	}
	if elder := mustPlain(t, "P8.3: "+call, next, root); !slices.Equal(elder.items, was.items) {
		t.Fatalf("P8.3: %s: the elder root has %v; want %v", call, elder.items, was.items)
	}
}

// wantPut is what follows, of which all is asked that the chapter says.
func wantPut(t *testing.T, s tree.State, root int, x api.Item) (tree.State, int) {
	t.Helper()
	call := fmt.Sprintf("Put(%s root %d, %v)", told(s), root, x)
	next, top, err := tree.Put(s, root, x)
	if err != api.OK {
		t.Fatalf("P8.1: %s: %d; want OK", call, err)
	}
	wantGrown(t, call, s, root, next, top, mustPlain(t, call, s, root).with(x))
	return next, top
}

// wantDelete is of a key that is there.
func wantDelete(t *testing.T, s tree.State, root int, key uint64) (tree.State, int) {
	t.Helper()
	call := fmt.Sprintf("Delete(%s root %d, %d)", told(s), root, key)
	next, top, was, err := tree.Delete(s, root, key)
	if !was || err != api.OK {
		t.Fatalf("P8.1: %s: %v, %d; want true, OK", call, was, err)
	}
	items := mustPlain(t, call, s, root).without(key)
	wantGrown(t, call, s, root, next, top, items)
	if len(items) == 0 && (top != 0 || !same(next, s)) {
		t.Fatalf("P8.1: %s: root %d, %s; want 0, and no new page", call, top, told(next))
	}
	return next, top
}

// wantNotThere: a key that is not there is not deleted; state and root are
// as they were.
func wantNotThere(t *testing.T, s tree.State, root int, key uint64) {
	t.Helper()
	next, top, was, err := tree.Delete(s, root, key)
	if was || err != api.OK || top != root || !same(next, s) {
		t.Fatalf("P8.1: Delete(%s root %d, %d): %s, %d, %v, %d; want all as it was, false, OK", told(s), root, key, told(next), top, was, err)
	}
}

// wantFound holds Get, Floor and Range of one key against the plain way.
func wantFound(t *testing.T, s tree.State, root int, p plain, key uint64) {
	t.Helper()
	call := fmt.Sprintf("(%s root %d, %d", told(s), root, key)
	wantValue, wantThere := p.get(key)
	if value, there, err := tree.Get(s, root, key); value != wantValue || there != wantThere || err != api.OK {
		t.Fatalf("P8.1: Get%s): %d, %v, %d; want %d, %v, OK", call, value, there, err, wantValue, wantThere)
	}
	wantItem, wantAny := p.floor(key)
	if x, any, err := tree.Floor(s, root, key); x != wantItem || any != wantAny || err != api.OK {
		t.Fatalf("P8.1: Floor%s): %v, %v, %d; want %v, %v, OK", call, x, any, err, wantItem, wantAny)
	}
	for _, n := range []int{0, 1, 2, 3, 4, len(p.items) - 1, len(p.items), len(p.items) + 1, math.MaxInt} {
		if n < 0 {
			continue
		}
		if l, err := tree.Range(s, root, key, n); !slices.Equal(l, p.from(key, n)) || err != api.OK {
			t.Fatalf("P8.1: Range%s, %d): %v, %d; want %v, OK", call, n, l, err, p.from(key, n))
		}
	}
}

// around has each key of p and those next to it, and the ends of all keys.
func around(p plain) []uint64 {
	all := []uint64{0, 1, 1 << 63, most - 1, most}
	for _, x := range p.items {
		// They may go round: then they are keys at the other end.
		all = append(all, x.Key-1, x.Key, x.Key+1)
	}
	slices.Sort(all)
	return slices.Compact(all)
}

// wantWhole asks all that can be asked of a tree that may be.
func wantWhole(t *testing.T, what string, s tree.State, root int) plain {
	t.Helper()
	p := mustPlain(t, what, s, root)
	if err := tree.Check(s, root); err != api.OK {
		t.Fatalf("P8.1: Check, %s: %s root %d: %d; want OK", what, told(s), root, err)
	}
	if l, err := tree.Reach(s, root); !slices.Equal(l, p.reached) || err != api.OK {
		t.Fatalf("P8.2: Reach, %s: %s root %d: %v, %d; want %v, OK", what, told(s), root, l, err, p.reached)
	}
	for _, key := range around(p) {
		wantFound(t, s, root, p, key)
	}
	return p
}

// wantRefused: each call answers err, and nothing beside it.
func wantRefused(t *testing.T, what string, s tree.State, root int, want api.Errno) {
	t.Helper()
	if err := tree.Check(s, root); err != want {
		t.Errorf("P8.1: Check, %s: root %d: %d; want %d", what, root, err, want)
	}
	for _, key := range []uint64{0, 5, most} {
		if next, top, err := tree.Put(s, root, item(key)); err != want || len(next.Pages) != 0 || top != 0 {
			t.Errorf("P8.1: Put, %s: root %d, %d: %s, %d, %d; want %d alone", what, root, key, told(next), top, err, want)
		}
		if next, top, was, err := tree.Delete(s, root, key); err != want || len(next.Pages) != 0 || top != 0 || was {
			t.Errorf("P8.1: Delete, %s: root %d, %d: %s, %d, %v, %d; want %d alone", what, root, key, told(next), top, was, err, want)
		}
		if value, there, err := tree.Get(s, root, key); err != want || value != 0 || there {
			t.Errorf("P8.1: Get, %s: root %d, %d: %d, %v, %d; want %d alone", what, root, key, value, there, err, want)
		}
		if x, any, err := tree.Floor(s, root, key); err != want || x != (api.Item{}) || any {
			t.Errorf("P8.1: Floor, %s: root %d, %d: %v, %v, %d; want %d alone", what, root, key, x, any, err, want)
		}
		for _, n := range []int{0, 3, -1, math.MinInt, math.MaxInt} {
			if l, err := tree.Range(s, root, key, n); err != want || len(l) != 0 {
				t.Errorf("P8.1: Range, %s: root %d, %d, %d: %v, %d; want %d alone", what, root, key, n, l, err, want)
			}
		}
	}
	if l, err := tree.Reach(s, root); err != want || len(l) != 0 {
		t.Errorf("P8.2: Reach, %s: root %d: %v, %d; want %d alone", what, root, l, err, want)
	}
	for _, roots := range [][]int{{root}, {0, root}, {root, 0}, {root, root}} {
		if next, err := tree.Keep(s, roots); err != want || len(next.Pages) != 0 {
			t.Errorf("P8.2: Keep, %s: %v: %s, %d; want %d alone", what, roots, told(next), err, want)
		}
	}
}

// grown is a tree into which these keys were put, in order, and what else it
// made on the way.
func grown(t *testing.T, keys ...uint64) (tree.State, int) {
	t.Helper()
	var s tree.State
	root := 0
	for _, key := range keys {
		var err api.Errno
		if s, root, err = tree.Put(s, root, item(key)); err != api.OK {
			t.Fatalf("P8.1: Put of %d: %d", key, err)
		}
	}
	return s, root
}

// kept is grown, but for the pages that the root does not reach.
func kept(t *testing.T, keys ...uint64) (tree.State, int) {
	t.Helper()
	s, root := grown(t, keys...)
	s, err := tree.Keep(s, []int{root})
	if err != api.OK {
		t.Fatal("P8.2: Keep:", err)
	}
	return s, root
}

// binaryTree has a leaf of one item for each key from 0 on (times step), and
// two kids in each node above: no tree has more pages for as many items. Its
// root is its last page.
func binaryTree(depth int, step uint64) (tree.State, int) {
	var nodes []node
	var level []int
	count := 1 << (depth - 1)
	for i := range count {
		nodes = append(nodes, leafOf(uint64(i)*step))
		level = append(level, i+1)
	}
	for width := uint64(1); len(level) > 1; width *= 2 {
		var above []int
		for i := 0; i < len(level); i += 2 {
			nodes = append(nodes, kidsOf([]uint64{uint64(i+1) * width * step}, level[i], level[i+1]))
			above = append(above, len(nodes))
		}
		level = above
	}
	return stateOf(nodes...), len(nodes)
}

// upTo has the keys from 1 on, times step.
func upTo(count int, step uint64) []uint64 {
	var out []uint64
	for i := range count {
		out = append(out, uint64(i+1)*step)
	}
	return out
}
