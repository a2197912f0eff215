package refs_test

import (
	"testing"

	"flagstone/api"
	"flagstone/refs"
)

// smallLists has all maps of 3 sectors from virt on, of which each is in a
// hole or stands in one of 3 from phys on.
func smallLists(virt, phys int) [][]api.Extent {
	disks := []map[int]int{{}}
	for v := virt; v < virt+3; v++ {
		for _, old := range disks {
			for k := range 3 {
				disk := map[int]int{v: phys + k}
				for at, place := range old {
					disk[at] = place
				}
				disks = append(disks, disk)
			}
		}
	}
	var out [][]api.Extent
	for _, disk := range disks {
		out = append(out, fewest(disk))
	}
	return out
}

// smallSpans has all spans of 3 sectors from at on, and of one more on either
// side.
func smallSpans(at int) []api.Span {
	var out []api.Span
	for from := -1; from < 4; from++ {
		for n := 1; n <= 4-from; n++ {
			if at+from >= 0 {
				out = append(out, span(at+from, n))
			}
		}
	}
	return out
}

// P9.1 to P9.3: all two small maps beside each other, at both ends of the
// host.
func TestEveryTwoSmallMaps(t *testing.T) {
	for _, phys := range []int{0, 65533} {
		lists := smallLists(phys, phys)
		for _, a := range lists {
			for _, b := range lists {
				smallMaps(t, []refs.Map{{Owner: 0, List: a}, {Owner: 255, List: b}}, phys)
			}
		}
	}
}

func smallMaps(t *testing.T, m []refs.Map, phys int) {
	t.Helper()
	wantCheck(t, m, api.OK)
	wantCounts(t, m, plainCounts(m), api.OK)
	wantUsed(t, m, plainUsed(m), api.OK)
	wantRefs(t, m, plainWho(m, everywhere()), api.OK)
	wantThereAndBack(t, m)
	for _, x := range smallSpans(phys) {
		wantWho(t, m, x, plainWho(m, x), api.OK)
		wantShared(t, m, x, plainShared(m, x), api.OK)
	}
}

// P9.1 to P9.3: some thousand maps of 9 owners that stand close together,
// picked by a rule that has no chance in it.
func TestNineSmallMaps(t *testing.T) {
	lists := smallLists(7, 30)
	at := 0
	for range 3000 {
		var m []refs.Map
		for k := range 9 {
			at = (at*31 + 17*k + 5) % 100003
			m = append(m, refs.Map{Owner: k * (1 + at%28), List: lists[at%len(lists)]})
		}
		for k := 1; k < 9; k++ {
			m[k].Owner = max(m[k].Owner, m[k-1].Owner+1)
		}
		smallMaps(t, m, 30)
	}
}

// smallRefs has all references to few sectors, with owners and lengths that
// may not be among them.
func smallRefs() []refs.Ref {
	var out []refs.Ref
	for _, owner := range []int{-1, 0, 255, 256} {
		for n := range 3 {
			for phys := -1; phys < 2; phys++ {
				for virt := range 3 {
					out = append(out, refs.Ref{Phys: phys, Len: n, Owner: owner, Virt: virt})
				}
			}
		}
	}
	return out
}

// P9.2: each two small references, and each three of which each may be.
func TestBackOfEverySmallList(t *testing.T) {
	var good []refs.Ref
	for _, a := range smallRefs() {
		for _, b := range smallRefs() {
			wantPlainBack(t, a, b)
		}
		if _, err := plainBack([]refs.Ref{a}); err == api.OK {
			good = append(good, a)
		}
	}
	for _, a := range good {
		for _, b := range good {
			for _, c := range good {
				wantPlainBack(t, a, b, c)
			}
		}
	}
}

func wantPlainBack(t *testing.T, l ...refs.Ref) {
	t.Helper()
	want, wantErr := plainBack(l)
	wantBack(t, l, want, wantErr)
}
