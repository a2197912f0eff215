package refs_test

import (
	"slices"
	"testing"

	"flagstone/api"
	"flagstone/refs"
)

// singles has n references of one owner, one sector each, with a gap behind
// each in Virt and in Phys.
func singles(owner, n int) []refs.Ref {
	var out []refs.Ref
	for k := range n {
		out = append(out, refs.Ref{Phys: 2 * k, Len: 1, Owner: owner, Virt: 2 * k})
	}
	return out
}

// neighbours has n references of one owner that become one extent.
func neighbours(owner, n int) []refs.Ref {
	var out []refs.Ref
	for k := range n {
		out = append(out, refs.Ref{Phys: 7 + k, Len: 1, Owner: owner, Virt: 3 + k})
	}
	return out
}

// owners has one reference of each of these.
func owners(list ...int) []refs.Ref {
	var out []refs.Ref
	for _, owner := range list {
		out = append(out, refs.Ref{Phys: 5, Len: 2, Owner: owner, Virt: 9})
	}
	return out
}

// twice has a sector of an owner told twice.
func twice(owner int) []refs.Ref {
	return refsOf(quads{{40, 3, owner, 10}, {50, 3, owner, 12}})
}

func reversed(l []refs.Ref) []refs.Ref {
	out := slices.Clone(l)
	slices.Reverse(out)
	return out
}

// P9.2: the chapter's example, there and back.
func TestBackOfTheExample(t *testing.T) {
	wantBack(t, refsOf(quads{{3, 4, 0, 0}, {3, 4, 1, 9}}), example(), api.OK)
}

// P9.2: no references, ordinary ones in any order, and such as become one.
func TestBack(t *testing.T) {
	for _, c := range []struct {
		name string
		l    quads
		want []refs.Map
	}{
		{"none", nil, nil},
		{"one", quads{{5, 3, 7, 9}}, []refs.Map{mapOf(7, extents{{9, 5, 3}})}},
		{"owners 0 and 255", quads{{5, 3, 255, 9}, {6, 1, 0, 4}}, []refs.Map{mapOf(0, extents{{4, 6, 1}}), mapOf(255, extents{{9, 5, 3}})}},
		{"owners that fall", quads{{5, 3, 9, 9}, {5, 3, 8, 9}, {5, 3, 0, 9}}, []refs.Map{mapOf(0, extents{{9, 5, 3}}), mapOf(8, extents{{9, 5, 3}}), mapOf(9, extents{{9, 5, 3}})}},
		{"owners by turns", quads{{5, 3, 1, 9}, {50, 3, 0, 9}, {60, 3, 1, 0}, {70, 3, 0, 0}}, []refs.Map{mapOf(0, extents{{0, 70, 3}, {9, 50, 3}}), mapOf(1, extents{{0, 60, 3}, {9, 5, 3}})}},
		{"two that become one", quads{{5, 3, 1, 9}, {8, 2, 1, 12}}, []refs.Map{mapOf(1, extents{{9, 5, 5}})}},
		{"two that become one, turned round", quads{{8, 2, 1, 12}, {5, 3, 1, 9}}, []refs.Map{mapOf(1, extents{{9, 5, 5}})}},
		{"three that become one", quads{{5, 3, 1, 9}, {10, 2, 1, 14}, {8, 2, 1, 12}}, []refs.Map{mapOf(1, extents{{9, 5, 7}})}},
		{"touch in Virt alone", quads{{5, 3, 1, 9}, {18, 2, 1, 12}}, []refs.Map{mapOf(1, extents{{9, 5, 3}, {12, 18, 2}})}},
		{"touch in Phys alone", quads{{5, 3, 1, 9}, {8, 2, 1, 13}}, []refs.Map{mapOf(1, extents{{9, 5, 3}, {13, 8, 2}})}},
		{"neighbours of two owners", quads{{5, 3, 1, 9}, {8, 2, 2, 12}}, []refs.Map{mapOf(1, extents{{9, 5, 3}}), mapOf(2, extents{{12, 8, 2}})}},
		{"one place of an owner for two sectors", quads{{5, 3, 1, 9}, {5, 3, 1, 12}, {6, 1, 1, 0}}, []refs.Map{mapOf(1, extents{{0, 6, 1}, {9, 5, 3}, {12, 5, 3}})}},
		{"one sector of two owners", quads{{5, 3, 1, 9}, {5, 3, 2, 9}, {90, 3, 3, 9}}, []refs.Map{mapOf(1, extents{{9, 5, 3}}), mapOf(2, extents{{9, 5, 3}}), mapOf(3, extents{{9, 90, 3}})}},
		{"all sectors", quads{{0, 65536, 0, 0}}, []refs.Map{mapOf(0, extents{{0, 0, 65536}})}},
		{"the last sectors", quads{{65535, 1, 255, 65535}, {65534, 2, 0, 65534}}, []refs.Map{mapOf(0, extents{{65534, 65534, 2}}), mapOf(255, extents{{65535, 65535, 1}})}},
	} {
		t.Run(c.name, func(t *testing.T) {
			wantBack(t, refsOf(c.l), c.want, api.OK)
			wantBack(t, reversed(refsOf(c.l)), c.want, api.OK)
		})
	}
	wantBack(t, []refs.Ref{}, nil, api.OK)
}

// P9.2: 4096 references, and one more.
func TestBackOfMany(t *testing.T) {
	var four []refs.Ref
	var want []refs.Map
	for owner := range 4 {
		four = append(four, singles(owner, 1024)...)
		m, _ := plainBack(singles(owner, 1024))
		want = append(want, m...)
	}
	wantBack(t, four, want, api.OK)
	wantBack(t, reversed(four), want, api.OK)
	wantBack(t, append(four, refs.Ref{Phys: 1, Len: 1, Owner: 4, Virt: 1}), nil, api.ErrCount)

	one := []refs.Map{mapOf(8, extents{{3, 7, 4096}})}
	wantBack(t, neighbours(8, 4096), one, api.OK)
	wantBack(t, reversed(neighbours(8, 4096)), one, api.OK)
	wantBack(t, neighbours(8, 4095), []refs.Map{mapOf(8, extents{{3, 7, 4095}})}, api.OK)
	wantBack(t, neighbours(8, 4097), nil, api.ErrCount)
	wantBack(t, neighbours(8, 9000), nil, api.ErrCount)
}

// P9.2: an owner that is none, the first, the last, or one between.
func TestBackOfAnOwnerThatIsNone(t *testing.T) {
	for _, n := range anySize() {
		if n >= 0 && n <= 255 {
			wantBack(t, owners(n), []refs.Map{mapOf(n, extents{{9, 5, 2}})}, api.OK)
			continue
		}
		wantBack(t, owners(n), nil, api.ErrRange)
		wantBack(t, owners(n, 0, 1), nil, api.ErrRange)
		wantBack(t, owners(0, n, 1), nil, api.ErrRange)
		wantBack(t, owners(0, 1, n), nil, api.ErrRange)
	}
}

// P9.2, P1: each number of a reference of any size beside the others.
func TestBackOfAnySize(t *testing.T) {
	for _, phys := range anySize() {
		for _, n := range anySize() {
			for _, virt := range anySize() {
				r := refs.Ref{Phys: phys, Len: n, Owner: 3, Virt: virt}
				if isIn(phys, n) && isIn(virt, n) {
					wantBack(t, []refs.Ref{r}, []refs.Map{mapOf(3, extents{{virt, phys, n}})}, api.OK)
					continue
				}
				wantBack(t, []refs.Ref{r}, nil, api.ErrRange)
				wantBack(t, append(owners(0, 9), r), nil, api.ErrRange)
				wantBack(t, append([]refs.Ref{r}, owners(0, 9)...), nil, api.ErrRange)
			}
		}
	}
}

// P9.2: extent.Put refuses more than 1024 extents of one owner, also where
// later references would make them fewer, for each is put in order.
func TestBackOfTooManyExtents(t *testing.T) {
	full, err := refs.Back(singles(3, 1024))
	if err != api.OK || len(full) != 1 || len(full[0].List) != 1024 {
		t.Fatalf("P9.2: Back of 1024 that touch nothing: %s, %d", toldMaps(full), err)
	}
	wantBack(t, singles(3, 1025), nil, api.ErrRange)
	wantBack(t, reversed(singles(3, 1025)), nil, api.ErrRange)
	wantBack(t, append(owners(0, 1), singles(3, 1025)...), nil, api.ErrRange)
	between := refsOf(quads{{1, 1, 3, 1}})
	two := append(singles(3, 1025), between...)
	wantBack(t, two, nil, api.ErrRange)
	// The one between first: two of them are one then, and so at all times.
	got, err := refs.Back(append(between, singles(3, 1025)...))
	if err != api.OK || len(got) != 1 || len(got[0].List) != 1024 {
		t.Errorf("P9.2: Back of 1025 and one between them first: %s, %d", toldMaps(got), err)
	}
}

// P9.2: a sector of an owner that is told twice, of one place or of two.
func TestBackOfASectorToldTwice(t *testing.T) {
	for _, l := range []quads{
		{{5, 3, 7, 9}, {5, 3, 7, 9}},
		{{5, 3, 7, 9}, {50, 3, 7, 9}},
		{{5, 3, 7, 9}, {7, 3, 7, 11}},
		{{5, 3, 7, 9}, {50, 3, 7, 11}},
		{{5, 3, 7, 9}, {50, 3, 7, 7}},
		{{5, 3, 7, 9}, {50, 1, 7, 10}},
		{{5, 3, 7, 9}, {6, 1, 7, 10}},
		{{5, 3, 7, 9}, {0, 65536, 7, 0}},
		{{5, 3, 7, 9}, {5, 3, 8, 9}, {9, 3, 9, 9}, {9, 1, 8, 11}},
		{{5, 3, 0, 9}, {90, 1, 0, 40}, {5, 3, 0, 9}},
		{{65535, 1, 255, 65535}, {65535, 1, 255, 65535}},
		{{5, 3, 0, 9}, {5, 1, 1, 0}, {50, 1, 0, 11}, {50, 3, 1, 3}},
	} {
		wantBack(t, refsOf(l), nil, api.ErrTwice)
		wantBack(t, reversed(refsOf(l)), nil, api.ErrTwice)
	}
	wantBack(t, append(neighbours(5, 4095), neighbours(5, 1)...), nil, api.ErrTwice)
}

// P9.2: up to 9 owners.
func TestBackOfManyOwners(t *testing.T) {
	for _, first := range []int{0, 100, 236} {
		for n := range 20 {
			l := owners(from(first, n)...)
			want, wantErr := plainBack(l)
			if (wantErr == api.ErrCount) != (n > 9) {
				t.Fatal("the test itself is wrong")
			}
			wantBack(t, l, want, wantErr)
			wantBack(t, reversed(l), want, wantErr)
		}
	}
	wantBack(t, owners(from(0, 256)...), nil, api.ErrCount)
}

// P9.2, P4: two faults at once, in whichever order they come: the one that
// the chapter names first.
func TestBackOrderOfErrors(t *testing.T) {
	none := owners(-1)
	refused := refsOf(quads{{5, 0, 2, 9}})
	full := singles(99, 1025)
	ten := owners(from(0, 10)...)
	many := neighbours(8, 4097)
	for _, c := range []struct {
		name string
		a, b []refs.Ref
		want api.Errno
	}{
		{"too many, an owner that is none", many, none, api.ErrCount},
		{"too many, one that Put refuses", many, refused, api.ErrCount},
		{"too many, more than 1024 extents", many, full, api.ErrCount},
		{"too many, told twice", many, twice(60), api.ErrCount},
		{"too many, 10 owners", many, ten, api.ErrCount},
		{"an owner that is none, one that Put refuses", none, refused, api.ErrRange},
		{"an owner that is none, told twice", none, twice(0), api.ErrRange},
		{"an owner that is none, 10 owners", none, ten, api.ErrRange},
		{"an owner that is none, more than 1024 extents", none, full, api.ErrRange},
		{"one that Put refuses, told twice", refused, twice(2), api.ErrRange},
		{"one that Put refuses, 10 owners", refused, ten, api.ErrRange},
		{"more than 1024 extents, told twice", full, twice(0), api.ErrRange},
		{"more than 1024 extents, 10 owners", full, ten, api.ErrRange},
		{"told twice, 10 owners", twice(60), ten, api.ErrTwice},
		{"told twice, told twice", twice(0), twice(1), api.ErrTwice},
	} {
		t.Run(c.name, func(t *testing.T) {
			wantBack(t, slices.Concat(c.a, c.b), nil, c.want)
			wantBack(t, slices.Concat(c.b, c.a), nil, c.want)
		})
	}
}

// notEmpty is m without its empty maps.
func notEmpty(m []refs.Map) []refs.Map {
	var out []refs.Map
	for _, x := range m {
		if len(x.List) > 0 {
			out = append(out, x)
		}
	}
	return out
}

// wantThereAndBack asks for Back of Refs.
func wantThereAndBack(t *testing.T, m []refs.Map) {
	t.Helper()
	l, err := refs.Refs(m)
	if err != api.OK {
		t.Fatalf("P9.3: Refs(%s): %d", toldMaps(m), err)
	}
	want, wantErr := notEmpty(m), api.OK
	if len(l) > 4096 {
		want, wantErr = nil, api.ErrCount
	}
	got, err := refs.Back(l)
	if !same(got, want) || err != wantErr {
		t.Fatalf("P9.3: Back of Refs of %s: %s, %d; want %s, %d", toldMaps(m), toldMaps(got), err, toldMaps(want), wantErr)
	}
}

// P9.3: the maps that are not empty, whatever they are; more references than
// Back takes are refused.
func TestBackOfRefs(t *testing.T) {
	for name, m := range mapsThatMayBe() {
		t.Run(name, func(t *testing.T) { wantThereAndBack(t, m) })
	}
	for n := 3; n <= 5; n++ {
		wantThereAndBack(t, nineOf(row(1024, 3, 5))[:n])
	}
}

// P9.3, P9.1: what Back answers may be, and has just the references told.
func TestRefsOfBack(t *testing.T) {
	for _, m := range mapsThatMayBe() {
		l := plainWho(m, everywhere())
		if len(l) > 4096 {
			continue
		}
		back, err := refs.Back(reversed(l))
		if err != api.OK {
			t.Fatalf("P9.2: Back(%s): %d", told(l), err)
		}
		wantCheck(t, back, api.OK)
		wantRefs(t, back, l, api.OK)
	}
}
