package tests

import (
	"math"
	"slices"
	"testing"

	"loop.example/orthologics/impl"
)

// tooLarge tells whether a logic of so many answers cannot be made.
func tooLarge(answers int) bool { return answers > impl.MaxAnswers }

// refused fails if a logic that cannot be made is told all the same.
func refused(t *testing.T, what string, l impl.Logic, ok bool) {
	t.Helper()
	if ok || !nothing(l) {
		t.Errorf("%s: %v, %v", what, l, ok)
	}
}

// Promise 12: sets.

func TestSetsAreALogic(t *testing.T) {
	for things := 0; things <= 3; things++ {
		l, ok := impl.SetsOf(things)
		if !ok || !impl.LogicOk(l) || !wantLogic(l.Under, l.Not) {
			t.Fatalf("sets of %d things: %v, %v", things, l, ok)
		}
		if len(l.Not) != 1<<things || len(impl.AtomsOf(l.Under)) != things {
			t.Errorf("sets of %d things: %d answers, atoms %v", things, len(l.Not), impl.AtomsOf(l.Under))
		}
		if !sameLogic(l, sets(things)) {
			t.Errorf("sets of %d things: %v", things, l)
		}
		newMemory(t, "SetsOf", l)
	}
}

func TestSetsOfKnownThings(t *testing.T) {
	none, _ := impl.SetsOf(0)
	if !sameLogic(none, alone()) {
		t.Errorf("sets of nothing: %v", none)
	}
	one, _ := impl.SetsOf(1)
	if !sameLogic(one, star(2)) {
		t.Errorf("sets of one thing: %v", one)
	}
	three, _ := impl.SetsOf(3)
	if !slices.Equal(three.Under[3], []int{0, 0, 0, 1, 0, 0, 0, 1}) || !slices.Equal(three.Not, []int{7, 6, 5, 4, 3, 2, 1, 0}) {
		t.Errorf("sets of three things: %v", three)
	}
	if atoms := impl.AtomsOf(three.Under); !slices.Equal(atoms, []int{1, 2, 4}) {
		t.Errorf("sets of three things: atoms %v", atoms)
	}
}

func TestSetsOfOtherNumbersAreRefused(t *testing.T) {
	for _, things := range []int{-1, -2, 4, 5, 8, 12, 62, 63, 64, 66, math.MinInt, math.MinInt + 2, math.MaxInt} {
		l, ok := impl.SetsOf(things)
		refused(t, "SetsOf", l, ok)
	}
}

// Promise 13: the ring.

func TestTheRingIsALogic(t *testing.T) {
	l, ok := impl.RingOf(6)
	if !ok || !impl.LogicOk(l) || !sameLogic(l, ring(6)) {
		t.Fatalf("the ring: %v, %v", l, ok)
	}
	if atoms := impl.AtomsOf(l.Under); !slices.Equal(atoms, []int{1, 3}) {
		t.Errorf("the ring: atoms %v", atoms)
	}
	under := [][]int{{1, 1, 1, 1, 1, 1}, {0, 1, 1, 0, 0, 1}, {0, 0, 1, 0, 0, 1}, {0, 0, 0, 1, 1, 1}, {0, 0, 0, 0, 1, 1}, {0, 0, 0, 0, 0, 1}}
	if !sameLogic(l, impl.Logic{Under: under, Not: []int{5, 4, 3, 2, 1, 0}}) {
		t.Errorf("the ring: %v", l)
	}
	newMemory(t, "RingOf", l)
}

func TestOtherRingsAreRefused(t *testing.T) {
	for _, answers := range []int{-6, -1, 0, 1, 2, 4, 5, 7, 8, 10, 12, math.MinInt, math.MaxInt} {
		l, ok := impl.RingOf(answers)
		refused(t, "RingOf", l, ok)
	}
}

// Promise 14: glued logics.

func TestGluedLogicsAreLogics(t *testing.T) {
	few := fewLogics()
	for _, l := range few {
		for _, m := range few {
			made, ok := impl.GluedOf(l, m)
			answers := len(l.Not) + len(m.Not) - 2
			if len(l.Not) < 2 || len(m.Not) < 2 || tooLarge(answers) {
				refused(t, "GluedOf", made, ok)
				continue
			}
			if !ok || len(made.Not) != answers || !impl.LogicOk(made) || !wantLogic(made.Under, made.Not) {
				t.Fatalf("%v, %v glued: %v, %v", l, m, made, ok)
			}
			if !sameLogic(made, gluedTo(l, m)) || impl.NoOf(made) != 0 || impl.YesOf(made) != answers-1 {
				t.Fatalf("%v, %v glued: %v", l, m, made)
			}
			newMemory(t, "GluedOf", made, l, m)
		}
	}
}

func TestGluedToTwoAnswersItIsTheFirst(t *testing.T) {
	for _, l := range append(fewLogics(), someLogics()...) {
		if len(l.Not) < 2 {
			continue
		}
		no, yes := boundsOf(l)
		want := inOrder(l, append(append([]int{no}, between(l)...), yes))
		for _, two := range []impl.Logic{star(2), swapped()} {
			right, ok := impl.GluedOf(l, two)
			if !ok || !sameLogic(right, want) {
				t.Fatalf("%v, with two answers on the right: %v, %v", l, right, ok)
			}
			left, ok := impl.GluedOf(two, l)
			if !ok || !sameLogic(left, want) {
				t.Fatalf("%v, with two answers on the left: %v, %v", l, left, ok)
			}
		}
	}
}

func TestGluedOfKnownLogics(t *testing.T) {
	tests := []struct {
		what       string
		l, m, want impl.Logic
	}{
		{"two twice", star(2), star(2), star(2)},
		{"two with yes first, twice", swapped(), swapped(), star(2)},
		// 1 and 2 are opposites, then 3 and 4.
		{"four twice", star(4), star(4), impl.Logic{Under: diamond(6), Not: []int{5, 2, 1, 4, 3, 0}}},
		// shuffled has no at 3, yes at 2, and 0 and 1 between.
		{"four in another order", shuffled(star(4)), star(4), impl.Logic{Under: diamond(6), Not: []int{5, 2, 1, 4, 3, 0}}},
		{"six and six", star(6), star(6), impl.Logic{Under: diamond(10), Not: []int{9, 4, 3, 2, 1, 8, 7, 6, 5, 0}}},
		{"ten and four", star(10), star(4), impl.Logic{Under: diamond(12), Not: []int{11, 8, 7, 6, 5, 4, 3, 2, 1, 10, 9, 0}}},
	}
	for _, x := range tests {
		if made, ok := impl.GluedOf(x.l, x.m); !ok || !sameLogic(made, x.want) {
			t.Errorf("%s: %v, %v", x.what, made, ok)
		}
	}
	// Of the ring's answers 1 is below 2, and 3 below 4; those of four answers that follow compare with none of them.
	made, ok := impl.GluedOf(ring(6), star(4))
	if !ok || impl.OrOf(made, 1, 2) != 2 || impl.OrOf(made, 1, 5) != 7 || impl.AndOf(made, 4, 6) != 0 || made.Not[1] != 4 || made.Not[5] != 6 {
		t.Errorf("the ring and four: %v, %v", made, ok)
	}
}

func TestGluedOfOthersIsRefused(t *testing.T) {
	for _, l := range []impl.Logic{alone(), star(2), swapped(), star(4), ring(6), star(12)} {
		for _, x := range [][2]impl.Logic{{alone(), l}, {l, alone()}} {
			made, ok := impl.GluedOf(x[0], x[1])
			refused(t, "with one answer", made, ok)
		}
		for what, bad := range badLogics() {
			for _, x := range [][2]impl.Logic{{bad, l}, {l, bad}, {bad, bad}} {
				made, ok := impl.GluedOf(x[0], x[1])
				refused(t, what, made, ok)
			}
		}
	}
	// 13 answers there cannot be: glued logics have an even number.
	for _, x := range [][2]impl.Logic{{star(12), star(4)}, {star(4), star(12)}, {sets(3), sets(3)}, {star(10), ring(6)}, {star(12), ring(12)}} {
		made, ok := impl.GluedOf(x[0], x[1])
		refused(t, "too large", made, ok)
	}
}

// Promise 15: products.

func TestProductsOfLogicsAreLogics(t *testing.T) {
	few := fewLogics()
	for _, l := range few {
		for _, m := range few {
			made, ok := impl.TimesOf(l, m)
			answers := len(l.Not) * len(m.Not)
			if tooLarge(answers) {
				refused(t, "TimesOf", made, ok)
				continue
			}
			if !ok || len(made.Not) != answers || !impl.LogicOk(made) || !wantLogic(made.Under, made.Not) {
				t.Fatalf("%v times %v: %v, %v", l, m, made, ok)
			}
			if !sameLogic(made, pairsOf(l, m)) {
				t.Fatalf("%v times %v: %v", l, m, made)
			}
			meetingsArePairs(t, made, l, m)
			newMemory(t, "TimesOf", made, l, m)
		}
	}
}

// meetingsArePairs fails if in the product of l and m two pairs meet elsewhere than their parts do.
func meetingsArePairs(t *testing.T, made impl.Logic, l impl.Logic, m impl.Logic) {
	t.Helper()
	width := len(m.Not)
	for a := range made.Not {
		for b := range made.Not {
			want := impl.AndOf(l, a/width, b/width)*width + impl.AndOf(m, a%width, b%width)
			if and := impl.AndOf(made, a, b); and != want {
				t.Fatalf("%v: %d and %d meet in %d", made, a, b, and)
			}
		}
	}
}

func TestTimesOneAnswerItIsTheSame(t *testing.T) {
	for _, l := range append(fewLogics(), someLogics()...) {
		right, ok := impl.TimesOf(l, alone())
		if !ok || !sameLogic(right, l) {
			t.Fatalf("%v times one answer: %v, %v", l, right, ok)
		}
		left, ok := impl.TimesOf(alone(), l)
		if !ok || !sameLogic(left, l) {
			t.Fatalf("one answer times %v: %v, %v", l, left, ok)
		}
	}
}

func TestTimesOfKnownLogics(t *testing.T) {
	tests := []struct {
		what       string
		l, m, want impl.Logic
	}{
		{"one by one", alone(), alone(), alone()},
		{"two by two", star(2), star(2), sets(2)},
		{"two by four", star(2), star(4), sets(3)},
		{"four by two", star(4), star(2), sets(3)},
		// With yes ahead the pair of no and no is the last of each pair of rows.
		{"two with yes first by two", swapped(), star(2), impl.Logic{Under: [][]int{{1, 1, 0, 0}, {0, 1, 0, 0}, {1, 1, 1, 1}, {0, 1, 0, 1}}, Not: backwards(4)}},
	}
	for _, x := range tests {
		if made, ok := impl.TimesOf(x.l, x.m); !ok || !sameLogic(made, x.want) {
			t.Errorf("%s: %v, %v", x.what, made, ok)
		}
	}
	// The pairs of two and six: 1 to 4 are no with one between, 7 to 10 yes with one.
	made, ok := impl.TimesOf(star(2), ring(6))
	if !ok || len(made.Not) != 12 || made.Not[1] != 10 || made.Under[1][8] != 1 || made.Under[7][2] != 0 || impl.AndOf(made, 8, 5) != 2 || impl.OrOf(made, 6, 3) != 9 {
		t.Errorf("two by six: %v, %v", made, ok)
	}
	made, ok = impl.TimesOf(ring(6), star(2))
	if !ok || len(made.Not) != 12 || made.Not[2] != 9 || made.Under[2][5] != 1 || made.Under[3][4] != 0 || impl.OrOf(made, 1, 2) != 3 {
		t.Errorf("six by two: %v, %v", made, ok)
	}
}

func TestTimesOfOthersIsRefused(t *testing.T) {
	for _, l := range []impl.Logic{alone(), star(2), star(12)} {
		for what, bad := range badLogics() {
			for _, x := range [][2]impl.Logic{{bad, l}, {l, bad}, {bad, bad}} {
				made, ok := impl.TimesOf(x[0], x[1])
				refused(t, what, made, ok)
			}
		}
	}
	for _, x := range [][2]impl.Logic{{star(4), star(4)}, {star(2), star(8)}, {star(8), star(2)}, {star(12), star(2)}, {star(2), star(12)}, {star(12), star(12)}} {
		made, ok := impl.TimesOf(x[0], x[1])
		refused(t, "too large", made, ok)
	}
}

// Promise 16: other names.

func TestNamesDoNotMatter(t *testing.T) {
	for _, l := range append(fewLogics(), someLogics()...) {
		for _, row := range ordersOf(len(l.Not)) {
			made := impl.Renamed(l, row)
			if !sameLogic(made, inOrder(l, row)) || !impl.LogicOk(made) {
				t.Fatalf("%v in the order %v: %v", l, row, made)
			}
			if len(impl.AtomsOf(made.Under)) != len(impl.AtomsOf(l.Under)) {
				t.Fatalf("%v in the order %v: other atoms", l, row)
			}
			newMemory(t, "Renamed", made, l)
		}
	}
}

func TestRenamedMeetingsAreThoseOfTheNamed(t *testing.T) {
	for _, l := range fewLogics() {
		for _, row := range ordersOf(len(l.Not)) {
			made := impl.Renamed(l, row)
			for a := range row {
				if row[impl.NotOf(made, a)] != impl.NotOf(l, row[a]) {
					t.Fatalf("%v in the order %v: the opposite of %d", l, row, a)
				}
				for b := range row {
					if row[impl.AndOf(made, a, b)] != impl.AndOf(l, row[a], row[b]) {
						t.Fatalf("%v in the order %v: the meeting of %d and %d", l, row, a, b)
					}
				}
			}
		}
	}
}

func TestRenamedOfKnownLogics(t *testing.T) {
	tests := []struct {
		what string
		l    impl.Logic
		row  []int
		want impl.Logic
	}{
		{"one answer", alone(), []int{0}, alone()},
		{"two as they are", star(2), []int{0, 1}, star(2)},
		{"two exchanged", star(2), []int{1, 0}, swapped()},
		// A round of three: 1 stands at 0, 2 at 1 and 0 at 2. The other way round no would be 1.
		{"no third", star(4), []int{1, 2, 0, 3}, impl.Logic{Under: [][]int{{1, 0, 0, 1}, {0, 1, 0, 1}, {1, 1, 1, 1}, {0, 0, 0, 1}}, Not: []int{1, 0, 3, 2}}},
		{"the ring turned over", ring(6), []int{0, 3, 4, 1, 2, 5}, ring(6)},
	}
	for _, x := range tests {
		if made := impl.Renamed(x.l, x.row); !sameLogic(made, x.want) {
			t.Errorf("%s: %v", x.what, made)
		}
	}
}

func TestRenamedByOtherRowsIsNothing(t *testing.T) {
	for _, l := range []impl.Logic{star(2), swapped(), star(4), ring(6), shuffled(star(12))} {
		for what, row := range badRowsOf(len(l.Not)) {
			refused(t, what, impl.Renamed(l, row), false)
		}
	}
	for _, row := range [][]int{nil, {}, {1}, {-1}, {0, 0}, {0, 1}} {
		refused(t, "one answer", impl.Renamed(alone(), row), false)
	}
	for what, bad := range badLogics() {
		for _, n := range []int{len(bad.Not), len(bad.Under)} {
			refused(t, what, impl.Renamed(bad, backwards(n)), false)
		}
	}
}

// All rows of numbers just below, among and just past those of four answers.
func TestRenamedByAllSmallRows(t *testing.T) {
	for n := 0; n <= 5; n++ {
		everyList(n, -1, 4, func(row []int) {
			sorted := slices.Sorted(slices.Values(row))
			ok := slices.Equal(sorted, []int{0, 1, 2, 3})
			if made := impl.Renamed(star(4), row); nothing(made) == ok {
				t.Fatalf("%v: %v", row, made)
			}
		})
	}
}

// The rules for all functions: arguments that are not written to.

func TestMakingWritesToNoArguments(t *testing.T) {
	untouchedLogics(t, fewLogics(), func(l impl.Logic) {
		impl.GluedOf(l, star(4))
		impl.GluedOf(star(4), l)
		impl.TimesOf(l, star(2))
		impl.TimesOf(star(2), l)
		row := append(make([]int, 0, len(l.Not)+2), backwards(len(l.Not))...)
		impl.Renamed(l, row)
		behind := row[:cap(row)]
		if !slices.Equal(row, backwards(len(l.Not))) || behind[len(row)] != 0 || behind[len(row)+1] != 0 {
			t.Fatalf("a row became %v", behind)
		}
	})
}

// What was made can be made of again, up to just MaxAnswers answers.
func TestMakingOfWhatWasMade(t *testing.T) {
	l, ok := impl.SetsOf(2)
	for answers := 6; answers <= impl.MaxAnswers; answers += 2 {
		four, _ := impl.SetsOf(2)
		if l, ok = impl.GluedOf(l, four); !ok || len(l.Not) != answers || len(impl.AtomsOf(l.Under)) != answers-2 {
			t.Fatalf("%d answers: %v, %v", answers, l, ok)
		}
	}
	four, _ := impl.SetsOf(2)
	made, ok := impl.GluedOf(l, four)
	refused(t, "fourteen answers", made, ok)
	one, _ := impl.SetsOf(0)
	if made, ok = impl.TimesOf(l, one); !ok || !sameLogic(made, l) {
		t.Errorf("twelve answers times one: %v, %v", made, ok)
	}
}
