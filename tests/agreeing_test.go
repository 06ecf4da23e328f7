package tests

import (
	"slices"
	"testing"

	"loop.example/orthologics/impl"
)

// Promise 22: one answer that agrees with another one.

func TestWithOkOfKnownLogics(t *testing.T) {
	tests := []struct {
		what   string
		l      impl.Logic
		a, b   int
		agrees bool
	}{
		{"one answer", alone(), 0, 0, true},
		{"no with yes", star(2), 0, 1, true},
		{"yes with no", star(2), 1, 0, true},
		{"yes, first, with no", swapped(), 0, 1, true},
		{"an answer with its opposite", sets(2), 1, 2, true},
		{"two things", sets(3), 1, 2, true},
		{"sets that overlap", sets(3), 3, 6, true},
		{"the same set twice", sets(3), 5, 5, true},
		{"answers of different sets", gluedTo(sets(2), sets(2)), 1, 3, false},
		{"turned round", gluedTo(sets(2), sets(2)), 3, 1, false},
		{"answers of the same sets", gluedTo(sets(2), sets(2)), 3, 4, true},
		{"two of eight, glued to four", gluedTo(sets(3), sets(2)), 1, 2, true},
		{"one of eight, one of four", gluedTo(sets(3), sets(2)), 1, 7, false},
		{"no with one of four", gluedTo(sets(3), sets(2)), 0, 7, true},
		{"yes with one of four", gluedTo(sets(3), sets(2)), 9, 7, true},
		{"one of four with no", gluedTo(sets(3), sets(2)), 7, 0, true},
		{"one of four with yes", gluedTo(sets(3), sets(2)), 7, 9, true},
		// One way alone: 1 is below 2, and 3 below 4.
		{"the ring, up", ring(6), 1, 2, true},
		{"the ring, down", ring(6), 2, 1, false},
		{"the other way, up", ring(6), 3, 4, true},
		{"the other way, down", ring(6), 4, 3, false},
		{"both lower ones", ring(6), 1, 3, true},
		{"both lower ones, turned", ring(6), 3, 1, true},
		{"both upper ones", ring(6), 2, 4, false},
		{"both upper ones, turned", ring(6), 4, 2, false},
		{"opposites in the ring", ring(6), 2, 3, true},
		{"the ring backwards, up", inOrder(ring(6), backwards(6)), 4, 3, true},
		{"the ring backwards, down", inOrder(ring(6), backwards(6)), 3, 4, false},
		{"the ring with no inside, up", shuffled(ring(6)), 0, 5, true},
		{"the ring with no inside, down", shuffled(ring(6)), 5, 0, false},
		{"the ring glued, up", gluedTo(sets(2), ring(6)), 3, 4, true},
		{"the ring glued, down", gluedTo(sets(2), ring(6)), 4, 3, false},
		{"the ring glued, one of four", gluedTo(sets(2), ring(6)), 3, 1, false},
		{"two by the ring, up", pairsOf(star(2), ring(6)), 1, 8, true},
		{"two by the ring, down", pairsOf(star(2), ring(6)), 8, 1, false},
		{"two by the ring, no of it", pairsOf(star(2), ring(6)), 8, 6, true},
		{"two of twelve", star(12), 1, 2, false},
		{"opposites of twelve", star(12), 1, 10, true},
	}
	for _, x := range tests {
		if ok := impl.WithOk(x.l, x.a, x.b); ok != x.agrees {
			t.Errorf("%s: WithOk(%v, %d, %d) = %v", x.what, x.l, x.a, x.b, ok)
		}
	}
}

func TestWithOkOfAllAnswers(t *testing.T) {
	for _, l := range lawLogics() {
		g := agreementOf(l)
		eachPair(l, func(a, b int) {
			if ok := impl.WithOk(l, a, b); ok != g.with(a, b) {
				t.Fatalf("WithOk(%v, %d, %d) = %v", l, a, b, ok)
			}
		})
	}
}

func TestWhatIsBelowAgrees(t *testing.T) {
	for _, l := range lawLogics() {
		no, yes := boundsOf(l)
		agrees := withRows(l)
		eachPair(l, func(a, b int) {
			known := a == b || b == l.Not[a] || b == no || b == yes || l.Under[a][b] == 1
			if known && !agrees[a][b] {
				t.Fatalf("%v: %d does not agree with %d", l, a, b)
			}
			if agrees[a][b] != agrees[a][l.Not[b]] {
				t.Fatalf("%v: %d agrees with %d, or with its opposite, alone", l, a, b)
			}
		})
		for b := range l.Not {
			if !agrees[no][b] || !agrees[yes][b] {
				t.Fatalf("%v: no or yes does not agree with %d", l, b)
			}
		}
	}
}

func TestSetsAgreeAndGluedOnesDoNot(t *testing.T) {
	for things := 0; things <= 3; things++ {
		l, _ := impl.SetsOf(things)
		eachPair(l, func(a, b int) {
			if !impl.WithOk(l, a, b) {
				t.Fatalf("the sets %b and %b", a, b)
			}
		})
	}
	for _, x := range [][2]impl.Logic{{sets(2), sets(2)}, {sets(2), sets(3)}, {sets(3), sets(2)}, {sets(2), ring(6)}, {ring(6), sets(3)}} {
		l, _ := impl.GluedOf(x[0], x[1])
		first := len(x[0].Not) - 1
		for a := 1; a < first; a++ {
			for b := first; b < len(l.Not)-1; b++ {
				if impl.WithOk(l, a, b) || impl.WithOk(l, b, a) {
					t.Fatalf("%v: %d and %d are of different logics, and agree", l, a, b)
				}
			}
		}
	}
}

// Promise 23: agreeing both ways.

func TestBothWaysOkOfKnownLogics(t *testing.T) {
	for what, l := range keeping() {
		if !impl.BothWaysOk(l) {
			t.Errorf("%s: in %v answers agree both ways", what, l)
		}
	}
	for what, l := range breaking() {
		if impl.BothWaysOk(l) {
			t.Errorf("%s: in %v answers agree one way alone", what, l)
		}
	}
}

func TestAgreeingBothWaysIsTheLaw(t *testing.T) {
	for _, l := range lawLogics() {
		ok := impl.BothWaysOk(l)
		if want := len(agreementOf(l).oneWay()) == 0; ok != want {
			t.Fatalf("BothWaysOk(%v) = %v", l, ok)
		}
		if ok != impl.KeepsOk(l) || ok != wantKeeps(l) {
			t.Fatalf("%v: the law is kept %v, and BothWaysOk is %v", l, !ok, ok)
		}
	}
}

func TestAgreeingIsToldAsThePartsDo(t *testing.T) {
	toldAsParts(t, impl.BothWaysOk)
}

// Pairs that agree one way alone: those of the ring, and those that a product has of it.
func TestAnswersThatAgreeOneWayAlone(t *testing.T) {
	tests := []struct {
		what string
		l    impl.Logic
		want [][2]int
	}{
		{"one answer", alone(), nil},
		{"no and yes", star(2), nil},
		{"eight", sets(3), nil},
		{"two by a star of six", pairsOf(star(2), star(6)), nil},
		{"the ring", ring(6), [][2]int{{1, 2}, {3, 4}}},
		{"the ring backwards", inOrder(ring(6), backwards(6)), [][2]int{{2, 1}, {4, 3}}},
		{"the ring with no inside", shuffled(ring(6)), [][2]int{{0, 5}, {2, 1}}},
		{"a ring of eight", ring(8), [][2]int{{1, 2}, {1, 3}, {2, 3}, {4, 5}, {4, 6}, {5, 6}}},
		{"four and the ring glued", gluedTo(sets(2), ring(6)), [][2]int{{3, 4}, {5, 6}}},
		{"two by the ring", pairsOf(star(2), ring(6)), [][2]int{{1, 2}, {1, 8}, {3, 4}, {3, 10}, {7, 2}, {7, 8}, {9, 4}, {9, 10}}},
	}
	for _, x := range tests {
		var found [][2]int
		eachPair(x.l, func(a, b int) {
			if impl.WithOk(x.l, a, b) && !impl.WithOk(x.l, b, a) {
				found = append(found, [2]int{a, b})
			}
		})
		if !slices.Equal(found, x.want) {
			t.Errorf("%s: in %v agree one way alone %v", x.what, x.l, found)
		}
	}
}

// Promise 24: the centre.

func TestCentreOfKnownLogics(t *testing.T) {
	tests := []struct {
		what   string
		l      impl.Logic
		centre []int
	}{
		{"one answer", alone(), []int{0}},
		{"no and yes", star(2), []int{0, 1}},
		{"yes and no", swapped(), []int{0, 1}},
		{"sets of two things", sets(2), []int{0, 1, 2, 3}},
		{"sets of three things", sets(3), []int{0, 1, 2, 3, 4, 5, 6, 7}},
		{"sets in another order", shuffled(sets(3)), []int{0, 1, 2, 3, 4, 5, 6, 7}},
		{"four and four glued", gluedTo(sets(2), sets(2)), []int{0, 5}},
		{"eight and four glued", gluedTo(sets(3), sets(2)), []int{0, 9}},
		{"eight, and no and yes, glued", gluedTo(sets(3), star(2)), []int{0, 1, 2, 3, 4, 5, 6, 7}},
		// 1 and 3 agree with all, but not all agree with them.
		{"the ring", ring(6), []int{0, 5}},
		{"the ring with no inside", shuffled(ring(6)), []int{3, 4}},
		{"a ring of twelve", ring(12), []int{0, 11}},
		{"four and the ring glued", gluedTo(sets(2), ring(6)), []int{0, 7}},
		{"two by the ring", pairsOf(star(2), ring(6)), []int{0, 5, 6, 11}},
		{"the ring by two", pairsOf(ring(6), star(2)), []int{0, 1, 10, 11}},
		{"two by a star of six", pairsOf(star(2), star(6)), []int{0, 5, 6, 11}},
		{"a star of six by two", pairsOf(star(6), star(2)), []int{0, 1, 10, 11}},
		{"two by a star of six, renamed", shuffled(pairsOf(star(2), star(6))), []int{3, 4, 9, 10}},
		{"a star of twelve", star(12), []int{0, 11}},
		{"twelve with no inside", shuffled(star(12)), []int{3, 10}},
	}
	for _, x := range tests {
		if centre := impl.CentreOf(x.l); !slices.Equal(centre, x.centre) {
			t.Errorf("%s: CentreOf(%v) = %v", x.what, x.l, centre)
		}
	}
}

func TestTheCentreIsAPart(t *testing.T) {
	for _, l := range lawLogics() {
		no, yes := boundsOf(l)
		centre := impl.CentreOf(l)
		if !slices.Equal(centre, agreementOf(l).centre()) {
			t.Fatalf("CentreOf(%v) = %v", l, centre)
		}
		if !impl.SubOk(l, setOf(centre)) || !isPart(l, tablesOf(l), setOf(centre)) {
			t.Fatalf("%v: the centre %v is no part", l, centre)
		}
		if !slices.Contains(centre, no) || !slices.Contains(centre, yes) {
			t.Fatalf("%v: the centre %v has not no and yes", l, centre)
		}
		newList(t, "CentreOf", l, impl.CentreOf)
	}
}

func TestTheCentreOfSetsIsAll(t *testing.T) {
	for things := 0; things <= 3; things++ {
		l, _ := impl.SetsOf(things)
		for _, row := range ordersOf(len(l.Not)) {
			if centre := impl.CentreOf(impl.Renamed(l, row)); setOf(centre) != 1<<len(l.Not)-1 || !slices.IsSorted(centre) {
				t.Fatalf("sets of %d things in the order %v: %v", things, row, centre)
			}
		}
	}
}

func TestCentresOfProductsArePairsOfCentres(t *testing.T) {
	eachTwo(impl.TimesOf, func(l, m, product impl.Logic) {
		var want []int
		for _, a := range impl.CentreOf(l) {
			for _, b := range impl.CentreOf(m) {
				want = append(want, a*len(m.Not)+b)
			}
		}
		if centre := impl.CentreOf(product); !slices.Equal(centre, want) {
			t.Fatalf("%v times %v has the centre %v", l, m, centre)
		}
	})
}

// Promise 25: what is told apart wholly.

func TestApartFromOfKnownLogics(t *testing.T) {
	tests := []struct {
		what       string
		l          impl.Logic
		a, b, made int
	}{
		{"one answer", alone(), 0, 0, 0},
		{"no and yes", star(2), 0, 1, 1},
		{"yes, first, and no", swapped(), 0, 1, 0},
		{"the same answer twice", sets(2), 1, 1, 3},
		{"an answer and its opposite", sets(2), 1, 2, 3},
		{"two sets", sets(3), 3, 6, 7},
		{"answers of different sets", gluedTo(sets(2), sets(2)), 1, 3, 0},
		{"answers of the same sets", gluedTo(sets(2), sets(2)), 1, 2, 5},
		{"no and an answer", gluedTo(sets(2), sets(2)), 0, 3, 5},
		{"an answer and yes", gluedTo(sets(2), sets(2)), 3, 5, 5},
		{"one of eight, one of four", gluedTo(sets(3), sets(2)), 1, 7, 0},
		// 2 does not agree with 1, and all is told all the same: the law is not kept.
		{"the ring, up", ring(6), 1, 2, 5},
		{"the ring, down", ring(6), 2, 1, 5},
		// 2 and 4 do not agree either way: they meet in no, but each has something with the opposite of the other one.
		{"both upper ones", ring(6), 2, 4, 5},
		{"both lower ones", ring(6), 1, 3, 5},
		{"the same of the ring twice", ring(6), 2, 2, 5},
		{"the ring and four glued", gluedTo(ring(6), sets(2)), 2, 5, 0},
		{"two by the ring", pairsOf(star(2), ring(6)), 2, 7, 11},
		// 6 is the pair of yes and no.
		{"two by a star of six", pairsOf(star(2), star(6)), 1, 2, 6},
		{"opposites in two by a star of six", pairsOf(star(2), star(6)), 1, 10, 11},
		{"two of twelve", star(12), 1, 2, 0},
		{"two of twelve with no inside", shuffled(star(12)), 0, 2, 3},
		{"opposites of twelve with no inside", shuffled(star(12)), 0, 1, 10},
	}
	for _, x := range tests {
		if made := impl.ApartFrom(x.l, x.a, x.b); made != x.made {
			t.Errorf("%s: ApartFrom(%v, %d, %d) = %d", x.what, x.l, x.a, x.b, made)
		}
	}
}

func TestApartFromOfAllAnswers(t *testing.T) {
	for _, l := range lawLogics() {
		g := agreementOf(l)
		eachPair(l, func(a, b int) {
			if made := impl.ApartFrom(l, a, b); made != g.apart(a, b) {
				t.Fatalf("ApartFrom(%v, %d, %d) = %d", l, a, b, made)
			}
		})
	}
}

func TestWhatAgreesIsToldApartWholly(t *testing.T) {
	for _, l := range lawLogics() {
		keeps := wantKeeps(l)
		_, yes := boundsOf(l)
		eachPair(l, func(a, b int) {
			made := impl.ApartFrom(l, a, b)
			if keeps && (made == yes) != impl.WithOk(l, a, b) {
				t.Fatalf("%v: ApartFrom of %d and %d is %d", l, a, b, made)
			}
			for _, same := range [][2]int{{b, a}, {l.Not[a], b}, {a, l.Not[b]}, {l.Not[a], l.Not[b]}} {
				if other := impl.ApartFrom(l, same[0], same[1]); other != made {
					t.Fatalf("%v: ApartFrom of %d and %d is %d, of %v %d", l, a, b, made, same, other)
				}
			}
		})
	}
}

// Promise 26: three answers of which one agrees with both others.

func TestSplitOkOfKnownLogics(t *testing.T) {
	tests := []struct {
		what    string
		l       impl.Logic
		a, b, c int
		splits  bool
	}{
		{"one answer", alone(), 0, 0, 0, true},
		{"no and yes", star(2), 1, 0, 1, true},
		{"three sets", sets(2), 1, 2, 3, true},
		{"sets that overlap", sets(3), 3, 5, 6, true},
		{"glued", gluedTo(sets(2), sets(2)), 1, 3, 4, false},
		{"glued, the first one of the others", gluedTo(sets(2), sets(2)), 3, 1, 4, false},
		{"glued, the opposite second", gluedTo(sets(2), sets(2)), 1, 2, 3, false},
		{"glued, with yes last", gluedTo(sets(2), sets(2)), 1, 2, 5, true},
		{"three of which none agree", star(12), 1, 2, 3, false},
		{"the same answer, first and second", star(12), 1, 1, 3, true},
		{"the same answer, first and third", star(12), 1, 3, 1, true},
		{"the same answer, second and third", star(12), 1, 3, 3, true},
		{"the same answer thrice", star(12), 4, 4, 4, true},
		{"no first", star(12), 0, 2, 3, true},
		{"no second", star(12), 1, 0, 3, true},
		{"no last", star(12), 1, 3, 0, true},
		{"yes first", star(12), 11, 2, 3, true},
		{"yes second", star(12), 1, 11, 3, true},
		{"one of eight and two of four", gluedTo(sets(3), sets(2)), 1, 7, 8, false},
		{"two of eight and one of four", gluedTo(sets(3), sets(2)), 7, 1, 2, true},
		{"two of eight that make yes", gluedTo(sets(3), sets(2)), 7, 1, 6, false},
		{"the lower of eight and four", gluedTo(sets(3), sets(2)), 1, 3, 7, true},
		{"the upper of eight and four", gluedTo(sets(3), sets(2)), 3, 1, 7, false},
		// 1 agrees with 2 and with 3, but the law is not kept: 2 has 1 of 1 and 3, which make yes.
		{"the ring, the upper one first", ring(6), 2, 1, 3, false},
		{"turned", ring(6), 2, 3, 1, false},
		{"the ring, the lower one first", ring(6), 1, 2, 3, true},
		{"the ring, the other lower one first", ring(6), 3, 1, 2, true},
		{"the ring, the other upper one first", ring(6), 4, 1, 3, false},
		{"the ring with no inside, the lower one first", shuffled(ring(6)), 0, 5, 2, true},
		{"the ring with no inside, the upper one first", shuffled(ring(6)), 5, 0, 2, false},
		{"the ring glued", gluedTo(sets(2), ring(6)), 4, 3, 5, false},
		{"two by the ring", pairsOf(star(2), ring(6)), 8, 1, 6, true},
		{"two by the ring, both ways", pairsOf(star(2), ring(6)), 8, 7, 9, false},
	}
	for _, x := range tests {
		if ok := impl.SplitOk(x.l, x.a, x.b, x.c); ok != x.splits {
			t.Errorf("%s: SplitOk(%v, %d, %d, %d) = %v", x.what, x.l, x.a, x.b, x.c, ok)
		}
	}
}

func TestSplitOkOfAllAnswers(t *testing.T) {
	for _, l := range lawLogics() {
		g := agreementOf(l)
		eachTriple(l, func(a, b, c int) {
			if ok := impl.SplitOk(l, a, b, c); ok != g.splits(a, b, c) {
				t.Fatalf("SplitOk(%v, %d, %d, %d) = %v", l, a, b, c, ok)
			}
		})
	}
}

func TestOneThatAgreesWithBothSplits(t *testing.T) {
	for _, l := range lawLogics() {
		if !wantKeeps(l) {
			continue
		}
		agrees := withRows(l)
		eachTriple(l, func(a, b, c int) {
			if !agrees[a][b] || !agrees[a][c] {
				return
			}
			for _, x := range [][3]int{{a, b, c}, {b, a, c}, {b, c, a}} {
				if !impl.SplitOk(l, x[0], x[1], x[2]) {
					t.Fatalf("%v: %d agrees with %d and %d, and %v does not split", l, a, b, c, x)
				}
			}
		})
	}
}

func TestSetsSplit(t *testing.T) {
	for things := 0; things <= 3; things++ {
		l, _ := impl.SetsOf(things)
		eachTriple(l, func(a, b, c int) {
			if !impl.SplitOk(l, a, b, c) {
				t.Fatalf("the sets %b, %b and %b", a, b, c)
			}
		})
	}
}

// The rules for all functions: fixed results for others, and arguments that are not written to.

func TestAgreeingRefusesBadLogics(t *testing.T) {
	for what, l := range badLogics() {
		if impl.BothWaysOk(l) {
			t.Errorf("%s: BothWaysOk", what)
		}
		if centre := impl.CentreOf(l); centre != nil {
			t.Errorf("%s: CentreOf is %v", what, centre)
		}
		for _, a := range []int{-1, 0, 1, len(l.Not) - 1, len(l.Under) - 1, len(l.Under)} {
			for _, b := range []int{0, a} {
				if impl.WithOk(l, a, b) || impl.ApartFrom(l, a, b) != -1 || impl.SplitOk(l, a, b, b) {
					t.Errorf("%s, %d and %d: WithOk %v, ApartFrom %d, SplitOk %v", what, a, b, impl.WithOk(l, a, b), impl.ApartFrom(l, a, b), impl.SplitOk(l, a, b, b))
				}
			}
		}
	}
}

func TestAgreeingRefusesBadNumbers(t *testing.T) {
	for _, l := range append(fewLogics(), ring(12)) {
		someOut(l, 2, func(n []int) {
			if impl.WithOk(l, n[0], n[1]) || impl.ApartFrom(l, n[0], n[1]) != -1 {
				t.Fatalf("%v, %v: WithOk %v, ApartFrom %d", l, n, impl.WithOk(l, n[0], n[1]), impl.ApartFrom(l, n[0], n[1]))
			}
		})
		someOut(l, 3, func(n []int) {
			if impl.SplitOk(l, n[0], n[1], n[2]) {
				t.Fatalf("SplitOk(%v, %v)", l, n)
			}
		})
	}
}

func TestAgreeingWritesToNoArguments(t *testing.T) {
	untouchedLogics(t, lawLogics(), func(l impl.Logic) {
		last := len(l.Not) - 1
		impl.WithOk(l, 0, last)
		impl.BothWaysOk(l)
		impl.CentreOf(l)
		impl.ApartFrom(l, last, 0)
		impl.SplitOk(l, 0, last/2, last)
	})
}
