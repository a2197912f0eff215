package tree

import (
	"iter"
	"slices"

	"flagstone/api"
	"flagstone/leaf"
)

const (
	// fewest items or kids of a node that is not the root: with fewer of them
	// it is joined to a neighbour, so that pages do not grow sparse.
	fewest  = 2
	maxKids = api.MaxItems + 1
)

// branch is a page that keys from from on lead to.
type branch struct {
	from uint64
	page int
}

// content is what a node is to have while it is not decided how many pages
// it takes: items of a leaf, or kids.
type content struct {
	items []api.Item
	kids  []branch
}

// writer makes a tree anew where it is another one for key.
type writer struct {
	pages
	key  uint64
	turn func(items []api.Item) []api.Item
}

// changed is s with a tree like root's, but that the items of the leaf to
// which key leads are turned, and the root of that tree.
func changed(s State, root int, key uint64, turn func(items []api.Item) []api.Item) (State, int, api.Errno) {
	w := &writer{pages: copied(s.Pages), key: key, turn: turn}
	top := 0
	err := refusal(func() { top = w.rootOf(w.turned(root)) })
	if err != api.OK {
		return State{}, 0, err
	}
	return State{Pages: w.pages}, top, api.OK
}

func (w *writer) turned(root int) content {
	if root == 0 {
		return content{items: w.turn(nil)}
	}
	return w.change(branch{page: root})
}

// change is what b's node is to have. It is the parent's to lay it, which
// knows a neighbour to which too little can be joined.
func (w *writer) change(b branch) content {
	node := w.node(b.page)
	old := contentOf(node, b.from)
	if isLeaf(node) {
		return content{items: w.turn(old.items)}
	}
	first := leaf.Way(node, w.key)
	end := first + 1
	now := w.change(old.kids[first])
	switch {
	case size(now) >= fewest:
	case first > 0:
		first--
		now = joined(w.read(old.kids[first]), now)
	default:
		// It is the first of two or more.
		now = joined(now, w.read(old.kids[end]))
		end++
	}
	return content{kids: slices.Replace(old.kids, first, end, w.lay(now)...)}
}

func (w *writer) read(b branch) content {
	return contentOf(w.node(b.page), b.from)
}

// rootOf lays c, and nodes above it till one page is left.
func (w *writer) rootOf(c content) int {
	for len(c.items) > 0 || len(c.kids) > 1 {
		c = content{kids: w.lay(c)}
	}
	if len(c.kids) == 0 {
		return 0
	}
	return c.kids[0].page
}

// lay is the new pages that have c.
func (w *writer) lay(c content) []branch {
	var out []branch
	for group := range groups(c.items, api.MaxItems) {
		out = append(out, branch{from: group[0].Key, page: w.add(leaf.Node{Items: group})})
	}
	for group := range groups(c.kids, maxKids) {
		out = append(out, branch{from: group[0].from, page: w.add(nodeOver(group))})
	}
	return out
}

// add is the number of node's page: the lowest free one, or one behind the
// last.
func (w *writer) add(node leaf.Node) int {
	at := slices.IndexFunc(w.pages, func(page []byte) bool { return len(page) == 0 })
	if at < 0 {
		at = len(w.pages)
		if at == api.MaxPages {
			panic(fault{api.ErrSpace})
		}
		w.pages = append(w.pages, nil)
	}
	page, err := leaf.Encode(node)
	must(err == api.OK)
	w.pages[at] = page
	return at + 1
}

// groups hands out l in as few groups of at most most as can be, of which
// none has two more than another one.
func groups[T any](l []T, most int) iter.Seq[[]T] {
	return func(yield func(group []T) bool) {
		rest := l
		for count := (len(l) + most - 1) / most; count > 0; count-- {
			n := (len(rest) + count - 1) / count
			if !yield(rest[:n]) {
				return
			}
			rest = rest[n:]
		}
	}
}

// contentOf is what node has, whose keys are from from on.
func contentOf(node leaf.Node, from uint64) content {
	if isLeaf(node) {
		return content{items: node.Items}
	}
	kids := []branch{{from: from, page: node.Kids[0]}}
	for i, x := range node.Items {
		kids = append(kids, branch{from: x.Key, page: node.Kids[i+1]})
	}
	return content{kids: kids}
}

// nodeOver has each kid's least key as an item, but the first one's.
func nodeOver(kids []branch) leaf.Node {
	var node leaf.Node
	for i, kid := range kids {
		if i > 0 {
			node.Items = append(node.Items, api.Item{Key: kid.from})
		}
		node.Kids = append(node.Kids, kid.page)
	}
	return node
}

func joined(a, b content) content {
	return content{items: slices.Concat(a.items, b.items), kids: slices.Concat(a.kids, b.kids)}
}

func size(c content) int {
	return len(c.items) + len(c.kids)
}
