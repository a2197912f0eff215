package tree_test

import (
	"bytes"
	"slices"
	"testing"

	"flagstone/api"
	"flagstone/tree"
)

// roomy has memory behind its end, in which a call might write.
func roomy[T any](l []T, behind T) []T {
	out := append(make([]T, 0, len(l)+8), l...)
	return append(out, behind, behind)[:len(l)]
}

// whole is l with the memory behind its end.
func whole[T any](l []T) []T {
	return l[:cap(l)]
}

func spoil[T any](l []T, by T) {
	for i := range whole(l) {
		whole(l)[i] = by
	}
}

func roomyState(s tree.State) tree.State {
	out := tree.State{Pages: make([][]byte, 0, len(s.Pages)+8)}
	for _, page := range s.Pages {
		out.Pages = append(out.Pages, roomy(page, 0xe1))
	}
	return tree.State{Pages: roomy(out.Pages, roomy([]byte{1, 2}, 3))}
}

// wholeState is a copy of all that s has, behind its ends too.
func wholeState(s tree.State) [][]byte {
	var out [][]byte
	for _, page := range whole(s.Pages) {
		out = append(out, bytes.Clone(whole(page)))
	}
	return out
}

// spoilState writes over all octets, then over the list.
func spoilState(s tree.State) {
	for _, page := range whole(s.Pages) {
		spoil(page, 0x55)
	}
	spoil(s.Pages, []byte{0x66})
}

// someTrees has trees that may be, and such that may not be.
func someTrees(t *testing.T) []rooted {
	var all []rooted
	for _, some := range []map[string]rooted{treesThatMayBe(), treesThatMayNotBe()} {
		for _, r := range some {
			all = append(all, r)
		}
	}
	s, root := grown(t, upTo(30, 4)...)
	all = append(all, rooted{s, root}, rooted{forest(), 3}, rooted{tree.State{Pages: make([][]byte, 2049)}, 0})
	return append(all, filled(rootedAt(1, leafOf(5, 10)), 2048, 0))
}

// callAll does each call with some keys, and lets go what it answers.
func callAll(s tree.State, root int, roots []int) {
	tree.Check(s, root)
	for _, key := range []uint64{0, 1, 5, 8, 9, 100, most} {
		tree.Put(s, root, item(key))
		tree.Delete(s, root, key)
		tree.Get(s, root, key)
		tree.Floor(s, root, key)
		tree.Range(s, root, key, 3)
	}
	tree.Range(s, root, 0, -1)
	tree.Reach(s, root)
	tree.Keep(s, roots)
	tree.Keep(s, append(slices.Clone(roots), roots...))
}

// P8.4, P2: neither what is handed in nor the memory behind it is changed, be
// it taken or refused.
func TestArgumentsStay(t *testing.T) {
	for _, r := range someTrees(t) {
		s, roots := roomyState(r.s), roomy([]int{r.root, 0}, 77)
		before, rootsBefore := wholeState(s), slices.Clone(whole(roots))
		callAll(s, r.root, roots)
		if after := wholeState(s); !slices.EqualFunc(after, before, bytes.Equal) {
			t.Errorf("P8.4: a state changed: % x; want % x", after, before)
		}
		if !slices.Equal(whole(roots), rootsBefore) {
			t.Errorf("P8.4: roots changed: %v; want %v", whole(roots), rootsBefore)
		}
	}
}

// stateCalls has each call that answers a state.
func stateCalls() map[string]func(s tree.State, root int) tree.State {
	put := func(key uint64) func(s tree.State, root int) tree.State {
		return func(s tree.State, root int) tree.State {
			next, _, _ := tree.Put(s, root, item(key))
			return next
		}
	}
	remove := func(key uint64) func(s tree.State, root int) tree.State {
		return func(s tree.State, root int) tree.State {
			next, _, _, _ := tree.Delete(s, root, key)
			return next
		}
	}
	return map[string]func(s tree.State, root int) tree.State{
		"Put of a new key":               put(9),
		"Put of a key that may be there": put(5),
		"Delete":                         remove(5),
		"Delete of the first":            remove(1),
		"Delete of none":                 remove(1 << 50),
		"Keep": func(s tree.State, root int) tree.State {
			next, _ := tree.Keep(s, []int{root})
			return next
		},
		"Keep of nothing": func(s tree.State, root int) tree.State {
			next, _ := tree.Keep(s, nil)
			return next
		},
	}
}

// P8.4, P2: what becomes of a state later is not seen in what was answered,
// nor the other way round.
func TestStatesShareNothing(t *testing.T) {
	for name, call := range stateCalls() {
		for _, r := range someTrees(t) {
			s := roomyState(r.s)
			before := wholeState(s)
			want := cloned(call(r.s, r.root))
			spoilState(call(s, r.root))
			if !slices.EqualFunc(wholeState(s), before, bytes.Equal) {
				t.Errorf("P8.4: %s: the answer is the state's memory: %s", name, told(r.s))
			}
			next := call(s, r.root)
			spoilState(s)
			if !same(next, want) {
				t.Errorf("P8.4: %s: the answer is the state's memory: %s; want %s", name, told(next), told(want))
			}
		}
	}
}

// P8.4, P2: two pages of one answer share nothing, behind their ends neither.
func TestPagesShareNothing(t *testing.T) {
	for name, call := range stateCalls() {
		for _, r := range someTrees(t) {
			if len(r.s.Pages) > 100 {
				continue
			}
			want := cloned(call(r.s, r.root))
			for i := range want.Pages {
				next := call(r.s, r.root)
				spoil(next.Pages[i], 0x55)
				next.Pages[i] = want.Pages[i]
				if !same(next, want) {
					t.Fatalf("P8.4: %s: page %d is another page's memory: %s; want %s", name, i+1, told(next), told(want))
				}
			}
		}
	}
}

// P8.4, P2, P3: two answers share nothing, and hang on the arguments alone;
// calls for others, taken or refused, are not seen in them.
func TestAnswersShareNothing(t *testing.T) {
	others := func() {
		for _, r := range someTrees(t)[:20] {
			callAll(r.s, r.root, []int{r.root})
		}
	}
	for name, call := range stateCalls() {
		for _, r := range []rooted{threeDeep(), {forest(), 3}, rootedAt(1, leafOf(5)), {}} {
			want := cloned(call(r.s, r.root))
			first, second := call(r.s, r.root), call(r.s, r.root)
			spoilState(first)
			others()
			if third := call(r.s, r.root); !same(second, want) || !same(third, want) {
				t.Errorf("P8.4: %s: %s, then %s; want %s", name, told(second), told(third), told(want))
			}
		}
	}
}

// P8.4, P2: lists of items and of numbers are new memory too.
func TestListsShareNothing(t *testing.T) {
	r := threeDeep()
	p := mustPlain(t, "three deep", r.s, r.root)
	items1, _ := tree.Range(r.s, r.root, 0, 9)
	items2, _ := tree.Range(r.s, r.root, 0, 9)
	spoil(items1, api.Item{Key: 99, Value: 99})
	items3, _ := tree.Range(r.s, r.root, 0, 9)
	if !slices.Equal(items2, p.items) || !slices.Equal(items3, p.items) {
		t.Errorf("P8.4: Range: %v, then %v; want %v", items2, items3, p.items)
	}
	numbers1, _ := tree.Reach(r.s, r.root)
	numbers2, _ := tree.Reach(r.s, r.root)
	spoil(numbers1, -99)
	numbers3, _ := tree.Reach(r.s, r.root)
	if !slices.Equal(numbers2, p.reached) || !slices.Equal(numbers3, p.reached) {
		t.Errorf("P8.4: Reach: %v, then %v; want %v", numbers2, numbers3, p.reached)
	}
	s := roomyState(r.s)
	items, _ := tree.Range(s, r.root, 0, 9)
	spoilState(s)
	if !slices.Equal(items, p.items) {
		t.Errorf("P8.4: Range is the state's memory: %v; want %v", items, p.items)
	}
}

// P1, P2: nil and empty pages, lists and roots are one.
func TestNilAndEmptyAreOne(t *testing.T) {
	for _, r := range []rooted{rootedAt(2, node{}, leafOf(1, 2, 3), node{}, node{}), rootedAt(0, node{}, node{})} {
		empty := cloned(r.s)
		for i, page := range empty.Pages {
			if len(page) == 0 {
				empty.Pages[i] = roomy([]byte{}, 7)
			}
		}
		for name, call := range stateCalls() {
			if a, b := call(r.s, r.root), call(empty, r.root); !same(a, b) {
				t.Errorf("P1: %s: %s of nil pages, %s of empty ones", name, told(a), told(b))
			}
		}
	}
	wantKeep(t, "empty roots", forest(), []int{}, tree.State{}, api.OK)
	wantKeep(t, "no roots", forest(), nil, tree.State{}, api.OK)
}
