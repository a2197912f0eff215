package leaf_test

import (
	"testing"

	"flagstone/api"
	"flagstone/leaf"
)

// P7.1.
func TestCheckTakes(t *testing.T) {
	for name, n := range nodesThatMayBe() {
		wantCheck(t, name, n, api.OK)
	}
}

// P7.1: ErrState, whatever it is; Encode says the same, and nothing beside
// it (P4).
func TestCheckAndEncodeRefuse(t *testing.T) {
	for name, n := range nodesThatMayNotBe() {
		wantCheck(t, name, n, api.ErrState)
		wantEncode(t, name, n, nil, api.ErrState)
	}
	for _, n := range nodesOfWrongKids() {
		wantCheck(t, "a wrong kid", n, api.ErrState)
		wantEncode(t, "a wrong kid", n, nil, api.ErrState)
	}
}

// P7.1: each number from below the least kid to above the greatest.
func TestCheckOfEachKid(t *testing.T) {
	for kid := -3; kid <= 2060; kid++ {
		for _, n := range []leaf.Node{kidsOf([]uint64{5}, kid, 9), kidsOf([]uint64{5}, 9, kid), kidsOf([]uint64{5, 6, 7}, 9, 10, kid, 11)} {
			want := api.ErrState
			if mayBe(n) {
				want = api.OK
			}
			wantCheck(t, "a kid", n, want)
		}
	}
}

// lists has all lists of up to most numbers out of these.
func lists[T any](most int, of []T) [][]T {
	all := [][]T{nil}
	for from := 0; most > 0; most-- {
		end := len(all)
		for _, l := range all[from:end] {
			for _, x := range of {
				all = append(all, append(append([]T{}, l...), x))
			}
		}
		from = end
	}
	return all
}

// P7.1: up to four items and five kids, each number at an edge, held against
// the chapter's words; what Check takes Encode takes, and nothing else.
func TestCheckEverySmallOne(t *testing.T) {
	items := lists(4, []api.Item{{Key: 0}, {Key: 1}, {Key: 2}, {Key: 1<<64 - 1}})
	items = append(items, lists(3, []api.Item{{Key: 0, Value: 1}, {Key: 3}, {Key: 4, Value: 1<<64 - 1}})...)
	kids := lists(5, []int{0, 1, 2, 2048, 2049})
	taken := 0
	for _, i := range items {
		for _, k := range kids {
			n := leaf.Node{Items: i, Kids: k}
			want := api.ErrState
			if mayBe(n) {
				want = api.OK
				taken++
				wantEncode(t, "a small one", n, pageOf(n), api.OK)
			}
			if err := leaf.Check(n); err != want {
				t.Fatalf("P7.1: Check(%+v): %d; want %d", n, err, want)
			}
		}
	}
	if taken == 0 {
		t.Error("the test's own nodes may none of them be")
	}
}

// P7.1, P1: very many items or kids.
func TestCheckOfVeryMany(t *testing.T) {
	many := leaf.Node{Items: make([]api.Item, 1<<20), Kids: make([]int, 1<<20+1)}
	for i := range many.Items {
		many.Items[i].Key = uint64(i)
	}
	for i := range many.Kids {
		many.Kids[i] = i + 1
	}
	for _, n := range []leaf.Node{many, {Items: many.Items}, {Kids: many.Kids}, {Items: many.Items[:3], Kids: many.Kids}, {Items: many.Items, Kids: many.Kids[:4]},
		{Items: many.Items[:256]}, {Items: many.Items[:257], Kids: many.Kids[:258]}, {Items: many.Items[:1], Kids: many.Kids[:258]}} {
		if err := leaf.Check(n); err != api.ErrState {
			t.Errorf("P7.1: Check of %d items and %d kids: %d; want ErrState", len(n.Items), len(n.Kids), err)
		}
		if b, err := leaf.Encode(n); err != api.ErrState || len(b) != 0 {
			t.Errorf("P7.1: Encode of %d items and %d kids: % x, %d; want ErrState", len(n.Items), len(n.Kids), b, err)
		}
	}
	wantCheck(t, "its front", leaf.Node{Items: many.Items[:3], Kids: many.Kids[:4]}, api.OK)
}
