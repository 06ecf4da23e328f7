package tests

import (
	"runtime"
	"slices"
	"testing"

	"loop.example/orthologics/impl"
)

// Promise 17: the law.

func TestKeepsOkOfKnownLogics(t *testing.T) {
	for what, l := range keeping() {
		if !impl.KeepsOk(l) {
			t.Errorf("%s: %v keeps the law", what, l)
		}
	}
	for what, l := range breaking() {
		if impl.KeepsOk(l) {
			t.Errorf("%s: %v does not keep the law", what, l)
		}
	}
}

func TestTheLawIsKeptExactlyIfNoPairBreaksIt(t *testing.T) {
	for _, l := range lawLogics() {
		keeps := impl.KeepsOk(l)
		if keeps != wantKeeps(l) {
			t.Fatalf("KeepsOk(%v) = %v", l, keeps)
		}
		if _, _, broken := impl.BreakOf(l); broken == keeps {
			t.Fatalf("%v: the law is kept %v, broken %v", l, keeps, broken)
		}
	}
}

func TestSetsKeepTheLawAndTheRingDoesNot(t *testing.T) {
	six, _ := impl.RingOf(6)
	if impl.KeepsOk(six) {
		t.Error("the ring")
	}
	for things := 0; things <= 3; things++ {
		l, _ := impl.SetsOf(things)
		if !impl.KeepsOk(l) {
			t.Errorf("sets of %d things", things)
		}
		for others := 0; others <= 3; others++ {
			m, _ := impl.SetsOf(others)
			if glued, ok := impl.GluedOf(l, m); ok && !impl.KeepsOk(glued) {
				t.Errorf("sets of %d and of %d things glued", things, others)
			}
		}
		// A ring does not vanish by being glued to others, with no and yes alone, too.
		for _, x := range [][2]impl.Logic{{l, six}, {six, l}} {
			if glued, ok := impl.GluedOf(x[0], x[1]); ok != (things > 0) || impl.KeepsOk(glued) {
				t.Errorf("sets of %d things and the ring glued: %v, %v", things, glued, ok)
			}
		}
	}
}

func TestTheLawIsKeptIfPartsKeepIt(t *testing.T) {
	toldAsParts(t, impl.KeepsOk)
	for _, l := range fewLogics() {
		for _, row := range ordersOf(len(l.Not)) {
			if impl.KeepsOk(impl.Renamed(l, row)) != impl.KeepsOk(l) {
				t.Fatalf("%v in the order %v", l, row)
			}
		}
	}
}

// Promise 18: pairs that break the law.

func TestBreakOfKnownLogics(t *testing.T) {
	tests := []struct {
		what  string
		l     impl.Logic
		first []int
	}{
		{"one answer", alone(), nil},
		{"no and yes", star(2), nil},
		{"yes and no", swapped(), nil},
		{"four", star(4), nil},
		{"a star of twelve", star(12), nil},
		{"sets of three things", sets(3), nil},
		{"eight and four glued", gluedTo(sets(3), sets(2)), nil},
		{"two by a star of six", pairsOf(star(2), star(6)), nil},
		// 1 and 2, 3 and 4.
		{"the ring", ring(6), []int{1, 2}},
		{"the ring backwards", inOrder(ring(6), backwards(6)), []int{2, 1}},
		{"the ring, with 0 and 5 inside", shuffled(ring(6)), []int{0, 5}},
		// 1 and 4, 2 and 3: the first one by the lower answer is the last one by the upper answer.
		{"the ring, a way in the other", inOrder(ring(6), []int{0, 1, 3, 4, 2, 5}), []int{1, 4}},
		// 4 and 1, 3 and 2: here it is the first one by the upper answer that is not told.
		{"the ring, ways turned down", inOrder(ring(6), []int{0, 2, 4, 3, 1, 5}), []int{3, 2}},
		// 1, 2 and 3 are on one way: 1 breaks it with 2 and with 3.
		{"a ring of eight", ring(8), []int{1, 2}},
		{"a ring of eight, 2 and 3 exchanged", inOrder(ring(8), []int{0, 1, 3, 2, 5, 4, 6, 7}), []int{1, 2}},
		{"a ring of eight, 1 and 3 exchanged", inOrder(ring(8), []int{0, 3, 2, 1, 6, 5, 4, 7}), []int{2, 1}},
		{"a ring of twelve", ring(12), []int{1, 2}},
		{"a ring of twelve backwards", inOrder(ring(12), backwards(12)), []int{2, 1}},
		{"the ring and four glued", gluedTo(ring(6), sets(2)), []int{1, 2}},
		{"four and the ring glued", gluedTo(sets(2), ring(6)), []int{3, 4}},
		{"eight and the ring glued", gluedTo(sets(3), ring(6)), []int{7, 8}},
		{"two rings glued", gluedTo(ring(6), ring(6)), []int{1, 2}},
		{"two rings glued, the first one last", inOrder(gluedTo(ring(6), ring(6)), []int{0, 6, 5, 8, 7, 1, 2, 3, 4, 9}), []int{2, 1}},
		// Two by the ring: 1 and 2 are of no, 7 and 8 of yes; 1 and 8 have yes and no in common with 10.
		{"two by the ring", pairsOf(star(2), ring(6)), []int{1, 2}},
		{"the ring by two", pairsOf(ring(6), star(2)), []int{2, 4}},
	}
	for _, x := range tests {
		sameBreak(t, x.what, x.l, x.first)
	}
}

func TestTheFirstOfAllPairsIsTold(t *testing.T) {
	several := 0
	for _, l := range lawLogics() {
		all := breaksOf(l)
		if len(all) == 0 {
			sameBreak(t, "none", l, nil)
			continue
		}
		sameBreak(t, "the first one", l, all[0][:])
		if len(all) > 2 && all[0][0] == all[1][0] && all[0][0] != all[2][0] {
			several++
		}
	}
	if several == 0 {
		t.Error("in no logic the first answer breaks the law with several others, and so does another one")
	}
}

func TestTheFirstPairIsToldInAllOrders(t *testing.T) {
	for _, l := range []impl.Logic{ring(6), ring(8)} {
		n := len(l.Not)
		// Of a ring all orders of names are tried that keep no first and yes last.
		everyList(n-2, 1, n-2, func(list []int) {
			if len(slices.Compact(slices.Sorted(slices.Values(list)))) < n-2 {
				return
			}
			renamed := inOrder(l, append(append([]int{0}, list...), n-1))
			sameBreak(t, "renamed", renamed, breaksOf(renamed)[0][:])
		})
	}
}

func TestWhereverTheLawBreaksThereIsARing(t *testing.T) {
	for _, l := range lawLogics() {
		a, b, ok := impl.BreakOf(l)
		if !ok {
			continue
		}
		no, yes := boundsOf(l)
		want := 1<<a | 1<<b | 1<<l.Not[a] | 1<<l.Not[b] | 1<<no | 1<<yes
		set := impl.MadeBy(l, 1<<a|1<<b)
		if set != want || !impl.SubOk(l, set) {
			t.Fatalf("%v: %d and %d make %b", l, a, b, set)
		}
		part := impl.PartOf(l, set)
		if len(part.Not) != 6 || len(impl.AtomsOf(part.Under)) != 2 || impl.KeepsOk(part) {
			t.Fatalf("%v: %d and %d make %v", l, a, b, part)
		}
	}
}

// Goroutines that end in any order change nothing.
func TestTheFirstPairIsToldTimeAndAgain(t *testing.T) {
	defer runtime.GOMAXPROCS(runtime.GOMAXPROCS(0))
	l := inOrder(ring(12), mixed(12))
	first := breaksOf(l)[0]
	for processors := 1; processors <= 4; processors++ {
		runtime.GOMAXPROCS(processors)
		for range 200 {
			sameBreak(t, "again", l, first[:])
		}
	}
}

func TestNoGoroutineIsLeft(t *testing.T) {
	noneLeft(t, 50, func() {
		impl.BreakOf(ring(12))
		impl.BreakOf(star(12))
		impl.BreakOf(impl.Logic{})
	})
}

// What is returned does not depend on what becomes of the logic later, as it would if goroutines still read it.
func TestLogicsMayChangeBehindTheCall(t *testing.T) {
	for range 100 {
		l := ring(12)
		sameBreak(t, "a ring of twelve", l, []int{1, 2})
		wipe(l)
	}
}

// Promise 19: parts.

func TestSubOkOfKnownLogics(t *testing.T) {
	tests := []struct {
		what    string
		l       impl.Logic
		set     int
		isAPart bool
	}{
		{"one answer", alone(), 1, true},
		{"no and yes", star(2), 3, true},
		{"no", star(2), 1, false},
		{"yes", star(2), 2, false},
		{"no and yes of the ring", ring(6), 33, true},
		{"all of the ring", ring(6), 63, true},
		{"one of the ring with its opposite", ring(6), 51, true},
		{"the other one", ring(6), 45, true},
		{"without the opposite", ring(6), 35, false},
		{"without yes", ring(6), 19, false},
		{"without no", ring(6), 50, false},
		{"opposites alone", ring(6), 18, false},
		{"no of the ring", ring(6), 1, false},
		{"a way", ring(6), 39, false},
		{"all but one", ring(6), 61, false},
		{"one thing, and the others", sets(3), 195, true},
		{"another one", sets(3), 153, true},
		{"all sets", sets(3), 255, true},
		{"no and yes of sets", sets(3), 129, true},
		{"the sets of two of the things", sets(3), 15, false},
		// 1 and 2, with their opposites 6 and 5, have neither 3 nor 4.
		{"two things, and the others", sets(3), 231, false},
		{"no and yes of twelve", star(12), 2049, true},
		{"two pairs of twelve", star(12), 3591, true},
		{"all of twelve", star(12), 4095, true},
		{"all but one of twelve", star(12), 4093, false},
		{"yes first, no last", swapped(), 3, true},
		{"no inside", shuffled(ring(6)), 24, true},
	}
	for _, x := range tests {
		if ok := impl.SubOk(x.l, x.set); ok != x.isAPart {
			t.Errorf("%s: SubOk(%v, %d) = %v", x.what, x.l, x.set, ok)
		}
	}
}

func TestPartsHaveNoAndYes(t *testing.T) {
	onlyParts(lawLogics(), func(l impl.Logic, parts []int) {
		no, yes := boundsOf(l)
		for _, set := range setsToTry(len(l.Not), parts) {
			ok := impl.SubOk(l, set)
			if _, want := slices.BinarySearch(parts, set); ok != want {
				t.Fatalf("SubOk(%v, %b) = %v", l, set, ok)
			}
			if ok && (set>>no&1 == 0 || set>>yes&1 == 0) {
				t.Fatalf("%v: the part %b has not no and yes", l, set)
			}
		}
		if !impl.SubOk(l, 1<<no|1<<yes) || !impl.SubOk(l, 1<<len(l.Not)-1) {
			t.Fatalf("%v: no and yes alone, and all", l)
		}
	})
}

func TestAllSetsOfTwelveAnswers(t *testing.T) {
	onlyParts([]impl.Logic{pairsOf(star(2), ring(6)), shuffled(gluedTo(ring(6), sets(3)))}, func(l impl.Logic, parts []int) {
		for set := range 1 << 12 {
			if _, want := slices.BinarySearch(parts, set); impl.SubOk(l, set) != want {
				t.Fatalf("SubOk(%v, %b) = %v", l, set, !want)
			}
		}
	})
}

// Promise 20: the least part around answers.

func TestMadeByOfKnownLogics(t *testing.T) {
	tests := []struct {
		what      string
		l         impl.Logic
		set, made int
	}{
		{"one answer", alone(), 1, 1},
		{"no", star(2), 1, 3},
		{"yes", star(2), 2, 3},
		{"no and yes", star(2), 3, 3},
		{"no of the ring", ring(6), 1, 33},
		{"yes of the ring", ring(6), 32, 33},
		{"one of the ring", ring(6), 2, 51},
		{"its opposite", ring(6), 16, 51},
		{"the other one", ring(6), 4, 45},
		{"a way", ring(6), 6, 63},
		{"all of the ring", ring(6), 63, 63},
		{"one thing", sets(3), 2, 195},
		{"two of three things", sets(3), 6, 255},
		{"one thing, and the others", sets(3), 66, 195},
		{"two things at once", sets(3), 8, 153},
		{"one of twelve", star(12), 2, 3075},
		{"two of twelve", star(12), 6, 3591},
		{"one of each of two glued", gluedTo(sets(2), ring(6)), 1<<1 | 1<<3, 1<<0 | 1<<1 | 1<<2 | 1<<3 | 1<<6 | 1<<7},
		{"no of twelve, inside", shuffled(star(12)), 1 << 3, 1<<3 | 1<<10},
	}
	for _, x := range tests {
		if made := impl.MadeBy(x.l, x.set); made != x.made {
			t.Errorf("%s: MadeBy(%v, %d) = %d", x.what, x.l, x.set, made)
		}
	}
}

func TestTheLeastPartAroundAnswers(t *testing.T) {
	onlyParts(lawLogics(), func(l impl.Logic, parts []int) {
		for _, set := range setsToTry(len(l.Not), parts) {
			made := impl.MadeBy(l, set)
			if made != wantMade(l, parts, set) || made&set != set {
				t.Fatalf("MadeBy(%v, %b) = %b", l, set, made)
			}
			if !impl.SubOk(l, made) {
				t.Fatalf("%v: %b makes %b, which is no part", l, set, made)
			}
		}
		for _, part := range parts {
			if made := impl.MadeBy(l, part); made != part {
				t.Fatalf("MadeBy(%v, %b) = %b", l, part, made)
			}
		}
		for a, opposite := range l.Not {
			if impl.MadeBy(l, 1<<a) != impl.MadeBy(l, 1<<opposite) {
				t.Fatalf("%v: %d and its opposite make different parts", l, a)
			}
		}
	})
}

// Promise 21: parts as logics.

func TestPartOfKnownLogics(t *testing.T) {
	tests := []struct {
		what string
		l    impl.Logic
		set  int
		part impl.Logic
	}{
		{"one answer", alone(), 1, alone()},
		{"no and yes", star(2), 3, star(2)},
		{"yes and no", swapped(), 3, swapped()},
		{"no and yes of twelve", star(12), 2049, star(2)},
		{"yes and no of twelve", inOrder(star(12), backwards(12)), 2049, swapped()},
		{"four of the ring", ring(6), 51, star(4)},
		{"four others of the ring", ring(6), 45, star(4)},
		{"all of the ring", ring(6), 63, ring(6)},
		{"four of sets", sets(3), 153, star(4)},
		{"six of twelve", star(12), 3591, star(6)},
		// 0 and 7, and 3 to 6 between them.
		{"the ring that was glued", gluedTo(sets(2), ring(6)), 249, ring(6)},
		{"four that were glued", gluedTo(sets(2), ring(6)), 135, star(4)},
		// Yes is 0, and no is 5: the ring that has 4 below 3, and 2 below 1.
		{"the ring backwards", inOrder(ring(6), backwards(6)), 63, inOrder(ring(6), backwards(6))},
		{"four of the ring backwards", inOrder(ring(6), backwards(6)), 51, inOrder(star(4), backwards(4))},
		// No is 3, yes 4; 0 and 1 are opposites.
		{"four in another order", shuffled(ring(6)), 27, impl.Logic{Under: [][]int{{1, 0, 0, 1}, {0, 1, 0, 1}, {1, 1, 1, 1}, {0, 0, 0, 1}}, Not: []int{1, 0, 3, 2}}},
	}
	for _, x := range tests {
		if part := impl.PartOf(x.l, x.set); !sameLogic(part, x.part) {
			t.Errorf("%s: PartOf(%v, %d) = %v", x.what, x.l, x.set, part)
		}
	}
}

func TestPartsOfLogicsAreLogics(t *testing.T) {
	onlyParts(lawLogics(), func(l impl.Logic, parts []int) {
		keeps := impl.KeepsOk(l)
		for _, set := range parts {
			part := impl.PartOf(l, set)
			if !sameLogic(part, wantPart(l, set)) || !impl.LogicOk(part) || !wantLogic(part.Under, part.Not) {
				t.Fatalf("PartOf(%v, %b) = %v", l, set, part)
			}
			if keeps && !impl.KeepsOk(part) {
				t.Fatalf("%v keeps the law, and its part %v does not", l, part)
			}
			newMemory(t, "PartOf", part, l)
		}
	})
}

func TestPartOfOtherSetsIsNothing(t *testing.T) {
	onlyParts(append(fewLogics(), ring(12)), func(l impl.Logic, parts []int) {
		for _, set := range setsToTry(len(l.Not), parts) {
			if _, ok := slices.BinarySearch(parts, set); !ok && !nothing(impl.PartOf(l, set)) {
				t.Fatalf("%v: %b is no part, PartOf is %v", l, set, impl.PartOf(l, set))
			}
		}
	})
}

// The rules for all functions: fixed results for others, and arguments that are not written to.

func TestTheLawRefusesBadLogics(t *testing.T) {
	for what, l := range badLogics() {
		if impl.KeepsOk(l) {
			t.Errorf("%s: KeepsOk", what)
		}
		sameBreak(t, what, l, nil)
		for _, set := range []int{0, 1, 3, 1<<len(l.Not) - 1, 1<<len(l.Under) - 1, 4095, -1} {
			made, part := impl.MadeBy(l, set), impl.PartOf(l, set)
			if impl.SubOk(l, set) || made != -1 || !nothing(part) {
				t.Errorf("%s, %b: SubOk %v, MadeBy %d, PartOf %v", what, set, impl.SubOk(l, set), made, part)
			}
		}
	}
}

func TestTheLawRefusesBadSets(t *testing.T) {
	for _, l := range append(fewLogics(), ring(12)) {
		for _, set := range badSets(len(l.Not)) {
			made, part := impl.MadeBy(l, set), impl.PartOf(l, set)
			if impl.SubOk(l, set) || made != -1 || !nothing(part) {
				t.Fatalf("%v, %b: SubOk %v, MadeBy %d, PartOf %v", l, set, impl.SubOk(l, set), made, part)
			}
		}
	}
}

func TestTheLawWritesToNoArguments(t *testing.T) {
	untouchedLogics(t, lawLogics(), func(l impl.Logic) {
		all := 1<<len(l.Not) - 1
		impl.KeepsOk(l)
		impl.BreakOf(l)
		impl.SubOk(l, all)
		impl.MadeBy(l, 2)
		impl.PartOf(l, all)
		impl.PartOf(l, 1)
	})
}
