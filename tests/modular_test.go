package tests

import (
	"slices"
	"testing"

	"loop.example/orthologics/impl"
)

// knownModular are logics of which it is known whether they are modular, and so, too, whether their heights add up.
func knownModular() []told {
	return []told{
		{"one answer", alone(), true},
		{"no and yes", star(2), true},
		{"yes and no", swapped(), true},
		{"four", sets(2), true},
		{"four with no inside", shuffled(star(4)), true},
		{"sets of three things", sets(3), true},
		{"sets in another order", shuffled(sets(3)), true},
		{"four and four glued", gluedTo(sets(2), sets(2)), true},
		{"four, four and four, glued", gluedTo(gluedTo(sets(2), sets(2)), sets(2)), true},
		{"a star of twelve", star(12), true},
		{"a star of twelve, mixed", inOrder(star(12), mixed(12)), true},
		{"eight, and no and yes, glued", gluedTo(sets(3), star(2)), true},
		{"two by a star of six", pairsOf(star(2), star(6)), true},
		{"a star of six by two", pairsOf(star(6), star(2)), true},
		{"eight and eight pasted", pasted(), true},
		{"eight and eight pasted, mixed", inOrder(pasted(), mixed(12)), true},
		// These keep the law, and are not modular all the same.
		{"four and eight glued", gluedTo(sets(2), sets(3)), false},
		{"eight and four glued", gluedTo(sets(3), sets(2)), false},
		{"eight and four glued, backwards", inOrder(gluedTo(sets(3), sets(2)), backwards(10)), false},
		{"eight and a star of six glued", gluedTo(sets(3), star(6)), false},
		{"four, four and eight, glued", gluedTo(gluedTo(sets(2), sets(2)), sets(3)), false},
		{"the ring", ring(6), false},
		{"the ring with no inside", shuffled(ring(6)), false},
		{"the ring, and no and yes, glued", gluedTo(ring(6), star(2)), false},
		{"a ring of eight", ring(8), false},
		{"a ring of twelve", ring(12), false},
		{"four and the ring glued", gluedTo(sets(2), ring(6)), false},
		{"two by the ring", pairsOf(star(2), ring(6)), false},
		{"the ring by two, mixed", inOrder(pairsOf(ring(6), star(2)), mixed(12)), false},
		{"a lopsided one", lopsided(), false},
	}
}

// Promise 36: modular logics.

func TestModularOkOfKnownLogics(t *testing.T) {
	sameAsTold(t, "ModularOk", impl.ModularOk, knownModular())
}

func TestModularOkOfAllLogics(t *testing.T) {
	for _, l := range modularLogics() {
		if ok := impl.ModularOk(l); ok != wantModular(l) {
			t.Fatalf("ModularOk(%v) = %v", l, ok)
		}
	}
}

func TestSetsAreModularAndModularLogicsKeepTheLaw(t *testing.T) {
	more, less := 0, 0
	for _, l := range modularLogics() {
		boolean, modular, keeps := impl.BooleanOk(l), impl.ModularOk(l), impl.KeepsOk(l)
		if boolean && !modular || modular && !keeps {
			t.Fatalf("%v: as sets are %v, modular %v, the law is kept %v", l, boolean, modular, keeps)
		}
		if modular && !boolean {
			more++
		}
		if keeps && !modular {
			less++
		}
	}
	if more == 0 || less == 0 {
		t.Errorf("modular and not as sets are: %d; not modular, though the law is kept: %d", more, less)
	}
}

func TestModularOkIsToldAsThePartsAre(t *testing.T) {
	eachTwo(impl.TimesOf, func(l, m, product impl.Logic) {
		if impl.ModularOk(product) != (impl.ModularOk(l) && impl.ModularOk(m)) {
			t.Fatalf("%v times %v", l, m)
		}
	})
	// In a glued logic an answer of one part is beside two of the other one, if there is one below another one between no and yes.
	eachTwo(impl.GluedOf, func(l, m, glued impl.Logic) {
		flat := slices.Max(wantHeights(l)) <= 2 && slices.Max(wantHeights(m)) <= 2
		lone := len(l.Not) == 2 || len(m.Not) == 2
		want := wantModular(l) && wantModular(m) && (flat || lone)
		if impl.ModularOk(glued) != want {
			t.Fatalf("%v and %v glued", l, m)
		}
	})
}

// Promise 37: pentagons.

func TestPentagonOfKnownLogics(t *testing.T) {
	tests := []struct {
		what string
		l    impl.Logic
		want []int
	}{
		{"one answer", alone(), nil},
		{"no and yes", star(2), nil},
		{"yes and no", swapped(), nil},
		{"sets of three things", sets(3), nil},
		{"four and four glued", gluedTo(sets(2), sets(2)), nil},
		{"a star of twelve", star(12), nil},
		{"two by a star of six", pairsOf(star(2), star(6)), nil},
		{"eight and eight pasted", pasted(), nil},
		{"the ring", ring(6), []int{1, 2, 3}},
		{"the ring backwards", inOrder(ring(6), backwards(6)), []int{2, 1, 3}},
		// 2, 3 and 1 are in a pentagon, too, with a lower second answer.
		{"the ring in another order", inOrder(ring(6), []int{0, 1, 3, 4, 2, 5}), []int{1, 4, 2}},
		{"the ring, and no and yes, glued", gluedTo(ring(6), star(2)), []int{1, 2, 3}},
		// 4, 5 and 1 are in a pentagon, too, with a lower third answer.
		{"a ring of eight", ring(8), []int{1, 2, 4}},
		{"a ring of twelve", ring(12), []int{1, 2, 6}},
		{"four and eight glued", gluedTo(sets(2), sets(3)), []int{3, 5, 1}},
		{"eight and four glued", gluedTo(sets(3), sets(2)), []int{1, 3, 7}},
		{"eight and a star of six glued", gluedTo(sets(3), star(6)), []int{1, 3, 7}},
		{"four and the ring glued", gluedTo(sets(2), ring(6)), []int{3, 4, 1}},
		{"the ring and four glued", gluedTo(ring(6), sets(2)), []int{1, 2, 3}},
		{"two by the ring", pairsOf(star(2), ring(6)), []int{1, 2, 3}},
		{"the ring by two", pairsOf(ring(6), star(2)), []int{2, 4, 6}},
		{"a lopsided one", lopsided(), []int{1, 2, 3}},
		// 1, 4 and 3 are in a pentagon, too: with a higher second answer and a lower third one.
		{"a lopsided one in another order", exchanged(lopsided()), []int{1, 2, 5}},
	}
	for _, x := range tests {
		samePentagon(t, x.what, x.l, x.want)
	}
}

func TestTheFirstOfAllPentagonsIsTold(t *testing.T) {
	for _, l := range modularLogics() {
		all := append(pentagonsOf(l), nil)
		samePentagon(t, "the first one", l, all[0])
	}
}

func TestTheFirstPentagonIsToldInAllOrders(t *testing.T) {
	everyList(6, 0, 5, func(list []int) {
		if slices.Equal(slices.Sorted(slices.Values(list)), []int{0, 1, 2, 3, 4, 5}) {
			l := inOrder(ring(6), list)
			samePentagon(t, "the ring", l, pentagonsOf(l)[0])
		}
	})
	for _, l := range []impl.Logic{lopsided(), exchanged(lopsided()), gluedTo(sets(3), sets(2)), pairsOf(star(2), ring(6)), pasted()} {
		for _, row := range ordersOf(len(l.Not)) {
			m := inOrder(l, row)
			samePentagon(t, "in another order", m, append(pentagonsOf(m), nil)[0])
		}
	}
}

func TestWhatIsNotModularHasAPentagon(t *testing.T) {
	for _, l := range modularLogics() {
		a, c, b, ok := impl.PentagonOf(l)
		if ok == impl.ModularOk(l) {
			t.Fatalf("%v is modular %v, and has a pentagon %v", l, !ok, ok)
		}
		if !ok {
			continue
		}
		meet, join := impl.AndOf(l, a, b), impl.OrOf(l, a, b)
		if a == c || l.Under[a][c] != 1 || meet != impl.AndOf(l, c, b) || join != impl.OrOf(l, c, b) {
			t.Fatalf("%v: %d, %d and %d are in no pentagon", l, a, c, b)
		}
	}
}

// Promise 38: heights.

func TestHighOfKnownLogics(t *testing.T) {
	tests := []struct {
		what string
		l    impl.Logic
		want []int
	}{
		{"one answer", alone(), []int{0}},
		{"no and yes", star(2), []int{0, 1}},
		{"yes and no", swapped(), []int{1, 0}},
		{"four", sets(2), []int{0, 1, 1, 2}},
		{"sets of three things", sets(3), []int{0, 1, 1, 2, 1, 2, 2, 3}},
		{"four and four glued", gluedTo(sets(2), sets(2)), []int{0, 1, 1, 1, 1, 2}},
		{"a star of twelve", star(12), []int{0, 1, 1, 1, 1, 1, 1, 1, 1, 1, 1, 2}},
		// The rows through four are shorter than those through eight.
		{"four and eight glued", gluedTo(sets(2), sets(3)), []int{0, 1, 1, 1, 1, 2, 1, 2, 2, 3}},
		{"eight and four glued", gluedTo(sets(3), sets(2)), []int{0, 1, 1, 2, 1, 2, 2, 1, 1, 3}},
		{"two by a star of six", pairsOf(star(2), star(6)), []int{0, 1, 1, 1, 1, 2, 1, 2, 2, 2, 2, 3}},
		{"eight and eight pasted", pasted(), []int{0, 1, 1, 1, 1, 1, 2, 2, 2, 2, 2, 3}},
		{"the ring", ring(6), []int{0, 1, 2, 1, 2, 3}},
		{"the ring backwards", inOrder(ring(6), backwards(6)), []int{3, 2, 1, 2, 1, 0}},
		{"the ring with no inside", shuffled(ring(6)), []int{1, 2, 1, 0, 3, 2}},
		{"a ring of eight", ring(8), []int{0, 1, 2, 3, 1, 2, 3, 4}},
		{"a ring of twelve", ring(12), []int{0, 1, 2, 3, 4, 5, 1, 2, 3, 4, 5, 6}},
		{"four and the ring glued", gluedTo(sets(2), ring(6)), []int{0, 1, 1, 1, 2, 1, 2, 3}},
		{"the ring and one of eight", gluedTo(ring(6), ring(8)), []int{0, 1, 2, 1, 2, 1, 2, 3, 1, 2, 3, 4}},
		{"two by the ring", pairsOf(star(2), ring(6)), []int{0, 1, 2, 1, 2, 3, 1, 2, 3, 2, 3, 4}},
		// To 4 lead 0, 1, 2, 4 and 0, 3, 4.
		{"a lopsided one", lopsided(), []int{0, 1, 2, 1, 3, 1, 2, 2, 3, 4}},
		{"a lopsided one, mixed", inOrder(lopsided(), mixed(10)), []int{1, 1, 1, 2, 4, 0, 2, 3, 2, 3}},
	}
	for _, x := range tests {
		if high := heightsOf(x.l); !slices.Equal(high, x.want) {
			t.Errorf("%s: HighOf the answers of %v is %v", x.what, x.l, high)
		}
	}
}

func TestHighOfAllAnswers(t *testing.T) {
	for _, l := range modularLogics() {
		if high := heightsOf(l); !slices.Equal(high, wantHeights(l)) {
			t.Fatalf("HighOf the answers of %v is %v", l, high)
		}
	}
}

func TestNoIsAtTheBottom(t *testing.T) {
	for _, l := range modularLogics() {
		high, atoms := heightsOf(l), wantAtoms(l.Under)
		no, yes := boundsOf(l)
		for a := range l.Not {
			if (high[a] == 0) != (a == no) || (high[a] == 1) != slices.Contains(atoms, a) {
				t.Fatalf("%v: no is %d, the atoms are %v, and HighOf %d is %d", l, no, atoms, a, high[a])
			}
			if a != yes && high[a] >= high[yes] {
				t.Fatalf("%v: %d is as high as yes, %d", l, a, yes)
			}
		}
		eachPair(l, func(a, b int) {
			if a != b && l.Under[a][b] == 1 && high[a] >= high[b] {
				t.Fatalf("%v: %d is below %d, and the heights are %v", l, a, b, high)
			}
		})
	}
}

func TestHeightsOfLogicsThatAreMade(t *testing.T) {
	eachTwo(impl.TimesOf, func(l, m, product impl.Logic) {
		first, second := heightsOf(l), heightsOf(m)
		for p, high := range heightsOf(product) {
			if high != first[p/len(m.Not)]+second[p%len(m.Not)] {
				t.Fatalf("%v times %v: HighOf %d is %d", l, m, p, high)
			}
		}
	})
	eachTwo(impl.GluedOf, func(l, m, glued impl.Logic) {
		want := make([]int, len(glued.Not))
		last := len(glued.Not) - 1
		for _, part := range []struct {
			l     impl.Logic
			first int
		}{{l, 1}, {m, len(l.Not) - 1}} {
			high := heightsOf(part.l)
			for a, to := range gluedNumbers(part.l, part.first, last) {
				want[to] = max(want[to], high[a])
			}
		}
		if high := heightsOf(glued); !slices.Equal(high, want) {
			t.Fatalf("%v and %v glued have the heights %v", l, m, high)
		}
	})
	for _, l := range fewLogics() {
		high := heightsOf(l)
		for _, row := range ordersOf(len(l.Not)) {
			for k, renamed := range heightsOf(impl.Renamed(l, row)) {
				if renamed != high[row[k]] {
					t.Fatalf("%v in the order %v: HighOf %d is %d", l, row, k, renamed)
				}
			}
		}
	}
}

// Promise 39: heights that add up.

func TestAddsUpOkOfKnownLogics(t *testing.T) {
	sameAsTold(t, "AddsUpOk", impl.AddsUpOk, knownModular())
}

func TestHeightsAddUpJustInModularLogics(t *testing.T) {
	for _, l := range modularLogics() {
		ok := impl.AddsUpOk(l)
		if ok != wantAddsUp(l) {
			t.Fatalf("AddsUpOk(%v) = %v", l, ok)
		}
		if ok != impl.ModularOk(l) {
			t.Fatalf("%v: heights add up %v, modular %v", l, ok, !ok)
		}
	}
}

func TestAddsUpOkInAllOrders(t *testing.T) {
	for _, x := range knownModular() {
		for _, row := range ordersOf(len(x.l.Not)) {
			m := impl.Renamed(x.l, row)
			if impl.AddsUpOk(m) != x.want || impl.ModularOk(m) != x.want {
				t.Fatalf("%s in the order %v: heights add up %v, modular %v", x.what, row, impl.AddsUpOk(m), impl.ModularOk(m))
			}
		}
	}
}

// The rules for all functions: fixed results for others, and arguments that are not written to.

func TestModularRefusesBadLogics(t *testing.T) {
	for what, l := range badLogics() {
		if impl.ModularOk(l) || impl.AddsUpOk(l) {
			t.Errorf("%s: ModularOk is %v, AddsUpOk %v", what, impl.ModularOk(l), impl.AddsUpOk(l))
		}
		samePentagon(t, what, l, nil)
		for _, a := range []int{-1, 0, 1, len(l.Not) - 1, len(l.Under) - 1, len(l.Under)} {
			if high := impl.HighOf(l, a); high != -1 {
				t.Errorf("%s: HighOf %d is %d", what, a, high)
			}
		}
	}
}

func TestHighOfRefusesBadNumbers(t *testing.T) {
	for _, l := range modularLogics() {
		for _, a := range badNumbers(len(l.Not)) {
			if high := impl.HighOf(l, a); high != -1 {
				t.Errorf("HighOf(%v, %d) = %d", l, a, high)
			}
		}
	}
}

func TestModularWritesToNoArguments(t *testing.T) {
	untouchedLogics(t, modularLogics(), func(l impl.Logic) {
		impl.ModularOk(l)
		impl.PentagonOf(l)
		impl.HighOf(l, len(l.Not)-1)
		impl.AddsUpOk(l)
	})
}
