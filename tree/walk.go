package tree

import (
	"slices"

	"flagstone/api"
	"flagstone/leaf"
)

// deepest bounds how far a walk goes down; the root is at depth 1.
const deepest = 16

// fault is what a panic bears where a call is to be refused.
type fault struct {
	err api.Errno
}

// refusal does what a call does, and is the error with which it was broken
// off, if it was.
func refusal(do func()) (err api.Errno) {
	defer func() {
		why := recover()
		if why == nil {
			return
		}
		broken, ok := why.(fault)
		if !ok {
			// Not one of ours: to answer as if all went well would hide it.
			panic(why)
		}
		err = broken.err
	}()
	do()
	return api.OK
}

// must breaks off where what a tree that may be has does not hold.
func must(holds bool) {
	if !holds {
		panic(fault{api.ErrState})
	}
}

// pages is what a walker reads, and what a writer reads and adds to.
type pages [][]byte

func (p pages) node(number int) leaf.Node {
	must(number >= 1 && number <= len(p))
	node, err := leaf.Decode(p[number-1])
	must(err == api.OK)
	return node
}

// walker goes through a whole tree once, and looks for items in it then.
type walker struct {
	pages
	met    map[int]leaf.Node
	leaves int // how deep they are; 0 ahead of the first one
}

// walked has met all of root's tree, unless there is an error.
func walked(s State, root int) (*walker, api.Errno) {
	if len(s.Pages) > api.MaxPages {
		return nil, api.ErrCount
	}
	w := &walker{pages: s.Pages, met: map[int]leaf.Node{}}
	if root == 0 {
		return w, api.OK
	}
	err := refusal(func() { w.walk(root, 1) })
	return w, err
}

// walk is the least and the greatest key below a page. Those of leaves bound
// those of the nodes above them: each key of a node stands between leaves.
func (w *walker) walk(number, depth int) (least, greatest uint64) {
	node := w.meet(number, depth)
	if isLeaf(node) {
		must(w.leaves == 0 || w.leaves == depth)
		w.leaves = depth
		return node.Items[0].Key, node.Items[len(node.Items)-1].Key
	}
	for i, kid := range node.Kids {
		low, high := w.walk(kid, depth+1)
		must(i == 0 || low >= node.Items[i-1].Key)
		must(i == len(node.Items) || high < node.Items[i].Key)
		if i == 0 {
			least = low
		}
		greatest = high
	}
	return least, greatest
}

func (w *walker) meet(number, depth int) leaf.Node {
	_, again := w.met[number]
	must(!again && depth <= deepest)
	node := w.node(number)
	w.met[number] = node
	return node
}

func isLeaf(node leaf.Node) bool {
	return len(node.Kids) == 0
}

// floor goes back to a kid ahead where the leaf to which the key leads has
// greater keys alone. (A root 0 was not met: its node has nothing.)
func (w *walker) floor(root int, key uint64) (found api.Item, ok bool) {
	left := []int{root}
search:
	for len(left) > 0 {
		node := w.met[takeLast(&left)]
		way := leaf.Way(node, key)
		switch {
		case !isLeaf(node):
			left = append(left, node.Kids[:way+1]...)
			continue search
		case way > 0:
			found, ok = node.Items[way-1], true
			break search
		}
	}
	return found, ok
}

// itemsFrom is the first n items with keys from key on.
func (w *walker) itemsFrom(root int, key uint64, n int) []api.Item {
	var out []api.Item
	left := []int{root}
search:
	for len(left) > 0 {
		node := w.met[takeLast(&left)]
		if !isLeaf(node) {
			for _, kid := range slices.Backward(node.Kids[leaf.Way(node, key):]) {
				left = append(left, kid)
			}
			continue search
		}
		for _, x := range node.Items {
			if len(out) == n {
				break search
			}
			if x.Key >= key {
				out = append(out, x)
			}
		}
	}
	return out
}

// takeLast takes the last number away, and is it.
func takeLast(l *[]int) int {
	last := len(*l) - 1
	number := (*l)[last]
	*l = (*l)[:last]
	return number
}
