package tests

import (
	"testing"

	"loop.example/orthologics/impl"
)

// Promise 7: what a logic is.

func TestYesAndNoAreALogic(t *testing.T) {
	for _, l := range []impl.Logic{star(2), swapped(), alone()} {
		if !impl.LogicOk(l) {
			t.Errorf("%v is a logic", l)
		}
	}
	for _, not := range [][]int{{0, 1}, {0, 0}, {1, 1}, {1}, {1, 0, 0}, nil} {
		for _, rows := range [][][]int{star(2).Under, swapped().Under} {
			if l := (impl.Logic{Under: rows, Not: not}); impl.LogicOk(l) {
				t.Errorf("%v is no logic", l)
			}
		}
	}
}

func TestLogicOkOfKnownLogics(t *testing.T) {
	for _, l := range []impl.Logic{star(4), star(6), star(12), ring(6), ring(8), ring(12), sets(1), sets(2), sets(3), pairsOf(ring(6), star(2)), shuffled(star(12)), shuffled(ring(12))} {
		if !impl.LogicOk(l) {
			t.Errorf("%v is a logic", l)
		}
	}
}

func TestLogicOkRefuses(t *testing.T) {
	for what, l := range badLogics() {
		if impl.LogicOk(l) {
			t.Errorf("%s: %v is no logic", what, l)
		}
	}
}

// There are 1, 2, 0 and 12 logics of 1 to 4 answers with names: two of four answers differ in which ones are no and yes.
func TestAllSmallLogics(t *testing.T) {
	want := []int{1, 2, 0, 12}
	for n := 1; n <= 4; n++ {
		logics := 0
		everyRows(n, func(rows [][]int) {
			if !isOrder(rows) {
				return
			}
			everyList(n, -1, n, func(not []int) {
				ok := impl.LogicOk(impl.Logic{Under: rows, Not: not})
				if ok != wantLogic(rows, not) {
					t.Fatalf("%v, %v: logic %v", rows, not, ok)
				}
				if ok {
					logics++
				}
			})
		})
		if logics != want[n-1] {
			t.Errorf("%d logics of %d answers", logics, n)
		}
	}
}

// With no first, yes last and opposites backwards there are 5 logics of six answers: the star and four rings. Of eight there are
// 69: the star, 8 of sets, 24 rings, 12 rings of six glued with four answers, and 24 with two atoms that are below all but two.
func TestAllMirroredLogics(t *testing.T) {
	for n, want := range map[int]int{2: 1, 4: 1, 6: 5, 8: 69} {
		logics := 0
		mirrored(n, func(rows [][]int) {
			l := impl.Logic{Under: rows, Not: backwards(n)}
			ok := impl.LogicOk(l)
			if ok != wantLogic(rows, l.Not) {
				t.Fatalf("%v: logic %v", rows, ok)
			}
			if ok {
				logics++
			}
		})
		if logics != want {
			t.Errorf("%d logics of %d answers", logics, n)
		}
	}
}

func TestLogicsHaveAnEvenNumberOfAnswers(t *testing.T) {
	lattices := 0
	everyRows(5, func(rows [][]int) {
		if !isOrder(rows) || !wantLattice(rows) {
			return
		}
		lattices++
		// Names of answers do not matter: of all lattices it is enough to try those with no first and yes last.
		if rows[0][1]+rows[0][2]+rows[0][3]+rows[1][4]+rows[2][4]+rows[3][4] != 6 {
			return
		}
		everyList(5, 0, 4, func(not []int) {
			if impl.LogicOk(impl.Logic{Under: rows, Not: not}) {
				t.Fatalf("%v, %v is no logic", rows, not)
			}
		})
	})
	if lattices != 380 {
		t.Errorf("%d lattices", lattices)
	}
	for n := 7; n <= 11; n += 2 {
		if impl.LogicOk(impl.Logic{Under: diamond(n), Not: backwards(n)}) {
			t.Errorf("no logic has %d answers", n)
		}
	}
}

// Promise 8: meetings.

func TestAndOfKnownLogics(t *testing.T) {
	tests := []struct {
		l         impl.Logic
		a, b, and int
	}{
		{alone(), 0, 0, 0},
		{star(2), 0, 1, 0},
		{star(2), 1, 1, 1},
		{swapped(), 0, 1, 1},
		{swapped(), 0, 0, 0},
		{ring(6), 1, 2, 1},
		{ring(6), 2, 1, 1},
		{ring(6), 2, 4, 0},
		{ring(6), 4, 5, 4},
		{sets(3), 3, 6, 2},
		{star(12), 10, 9, 0},
		{star(12), 11, 10, 10},
		{ring(12), 5, 2, 2},
		{ring(12), 5, 10, 0},
	}
	for _, x := range tests {
		if and := impl.AndOf(x.l, x.a, x.b); and != x.and {
			t.Errorf("AndOf(%v, %d, %d) = %d", x.l, x.a, x.b, and)
		}
	}
}

func TestOppositesOfMeetingsAreJoinsOfOpposites(t *testing.T) {
	for _, l := range someLogics() {
		for a := range l.Not {
			for b := range l.Not {
				and := impl.AndOf(l, a, b)
				if want, ok := wantMeet(l.Under, a, b); !ok || and != want {
					t.Fatalf("AndOf(%v, %d, %d) = %d", l, a, b, and)
				}
				if join := impl.OrOf(l, impl.NotOf(l, a), impl.NotOf(l, b)); impl.NotOf(l, and) != join {
					t.Fatalf("%v: the opposites of %d and %d join in %d", l, a, b, join)
				}
				if (and == a) != (l.Under[a][b] == 1) {
					t.Fatalf("%v: %d and %d meet in %d", l, a, b, and)
				}
			}
		}
	}
}

// Promise 9: joins.

func TestOrOfKnownLogics(t *testing.T) {
	tests := []struct {
		l        impl.Logic
		a, b, or int
	}{
		{alone(), 0, 0, 0},
		{star(2), 0, 1, 1},
		{star(2), 0, 0, 0},
		{swapped(), 0, 1, 0},
		{swapped(), 1, 1, 1},
		{ring(6), 1, 2, 2},
		{ring(6), 2, 1, 2},
		{ring(6), 1, 3, 5},
		{ring(6), 0, 3, 3},
		{sets(3), 3, 6, 7},
		{sets(3), 1, 4, 5},
		{star(12), 10, 9, 11},
		{star(12), 0, 10, 10},
		{ring(12), 5, 2, 5},
		{ring(12), 1, 6, 11},
	}
	for _, x := range tests {
		if or := impl.OrOf(x.l, x.a, x.b); or != x.or {
			t.Errorf("OrOf(%v, %d, %d) = %d", x.l, x.a, x.b, or)
		}
	}
}

func TestOppositesOfJoinsAreMeetingsOfOpposites(t *testing.T) {
	for _, l := range someLogics() {
		for a := range l.Not {
			for b := range l.Not {
				or := impl.OrOf(l, a, b)
				if want, ok := wantJoin(l.Under, a, b); !ok || or != want {
					t.Fatalf("OrOf(%v, %d, %d) = %d", l, a, b, or)
				}
				if meet := impl.AndOf(l, impl.NotOf(l, a), impl.NotOf(l, b)); impl.NotOf(l, or) != meet {
					t.Fatalf("%v: the opposites of %d and %d meet in %d", l, a, b, meet)
				}
			}
			if or := impl.OrOf(l, a, impl.NotOf(l, a)); or != impl.YesOf(l) {
				t.Fatalf("%v: %d and its opposite join in %d", l, a, or)
			}
		}
	}
}

// Promise 10: opposites.

func TestNotOfKnownLogics(t *testing.T) {
	tests := []struct {
		l      impl.Logic
		a, not int
	}{
		{alone(), 0, 0},
		{star(2), 0, 1},
		{swapped(), 0, 1},
		{ring(6), 1, 4},
		{ring(6), 3, 2},
		{sets(3), 5, 2},
		{star(12), 11, 0},
		{shuffled(star(4)), 3, 2},
	}
	for _, x := range tests {
		if not := impl.NotOf(x.l, x.a); not != x.not {
			t.Errorf("NotOf(%v, %d) = %d", x.l, x.a, not)
		}
	}
}

func TestOppositesOfOppositesAreAnswers(t *testing.T) {
	for _, l := range someLogics() {
		for a, want := range l.Not {
			not := impl.NotOf(l, a)
			if not != want || impl.NotOf(l, not) != a {
				t.Fatalf("NotOf(%v, %d) = %d", l, a, not)
			}
			if (not == a) != (len(l.Not) == 1) {
				t.Fatalf("%v: %d is its own opposite", l, a)
			}
			if and := impl.AndOf(l, a, not); and != impl.NoOf(l) {
				t.Fatalf("%v: %d and its opposite meet in %d", l, a, and)
			}
		}
	}
}

// Promise 11: answers that are apart.

func TestApartOkOfKnownLogics(t *testing.T) {
	tests := []struct {
		l     impl.Logic
		a, b  int
		apart bool
	}{
		{alone(), 0, 0, true},
		{star(2), 0, 0, true},
		{star(2), 0, 1, true},
		{star(2), 1, 1, false},
		{swapped(), 1, 1, true},
		{swapped(), 0, 0, false},
		{ring(6), 1, 4, true},
		// 1 and 3 are below the opposites of each other; 2 and 4 are not, though they meet in no.
		{ring(6), 1, 3, true},
		{ring(6), 3, 1, true},
		{ring(6), 2, 4, false},
		{ring(6), 1, 2, false},
		{sets(3), 1, 6, true},
		{sets(3), 1, 4, true},
		{sets(3), 3, 6, false},
		{star(12), 1, 10, true},
		{star(12), 1, 9, false},
		{star(12), 11, 0, true},
	}
	for _, x := range tests {
		if apart := impl.ApartOk(x.l, x.a, x.b); apart != x.apart {
			t.Errorf("ApartOk(%v, %d, %d) = %v", x.l, x.a, x.b, apart)
		}
	}
}

func TestApartIsApartBothWays(t *testing.T) {
	for _, l := range someLogics() {
		no := impl.NoOf(l)
		for a := range l.Not {
			for b := range l.Not {
				apart := impl.ApartOk(l, a, b)
				if apart != (l.Under[a][l.Not[b]] == 1) || apart != impl.ApartOk(l, b, a) {
					t.Fatalf("ApartOk(%v, %d, %d) = %v", l, a, b, apart)
				}
				if apart && impl.AndOf(l, a, b) != no {
					t.Fatalf("%v: %d and %d are apart, and do not meet in no", l, a, b)
				}
			}
			if !impl.ApartOk(l, a, impl.NotOf(l, a)) || impl.ApartOk(l, a, a) != (a == no) {
				t.Fatalf("%v: what %d is apart from", l, a)
			}
		}
	}
}

// Promises 54 and 55: no and yes.

func TestNoAndYesOfKnownLogics(t *testing.T) {
	tests := []struct {
		l       impl.Logic
		no, yes int
	}{
		{alone(), 0, 0},
		{star(2), 0, 1},
		{swapped(), 1, 0},
		{ring(6), 0, 5},
		{sets(3), 0, 7},
		{star(12), 0, 11},
		{shuffled(star(12)), 3, 10},
		{shuffled(ring(6)), 3, 4},
	}
	for _, x := range tests {
		if no, yes := impl.NoOf(x.l), impl.YesOf(x.l); no != x.no || yes != x.yes {
			t.Errorf("%v: no %d, yes %d", x.l, no, yes)
		}
	}
}

func TestNoIsBelowAll(t *testing.T) {
	for _, l := range someLogics() {
		no := impl.NoOf(l)
		if least, ok := impl.LeastOf(l.Under); !ok || no != least {
			t.Fatalf("NoOf(%v) = %d", l, no)
		}
		for a := range l.Not {
			if l.Under[no][a] != 1 {
				t.Fatalf("%v: no, %d, is not below %d", l, no, a)
			}
		}
	}
}

func TestYesIsAboveAll(t *testing.T) {
	for _, l := range someLogics() {
		yes := impl.YesOf(l)
		if greatest, ok := impl.LeastOf(impl.TurnedOf(l.Under)); !ok || yes != greatest {
			t.Fatalf("YesOf(%v) = %d", l, yes)
		}
		for a := range l.Not {
			if l.Under[a][yes] != 1 {
				t.Fatalf("%v: yes, %d, is not above %d", l, yes, a)
			}
		}
	}
}

// The rules for all functions: fixed results for others, and arguments that are not written to.

func TestOppositesRefuseBadLogics(t *testing.T) {
	for what, l := range badLogics() {
		if n := impl.AndOf(l, 0, 0); n != -1 {
			t.Errorf("%s: AndOf is %d", what, n)
		}
		if n := impl.OrOf(l, 0, 0); n != -1 {
			t.Errorf("%s: OrOf is %d", what, n)
		}
		if n := impl.NotOf(l, 0); n != -1 {
			t.Errorf("%s: NotOf is %d", what, n)
		}
		if no, yes := impl.NoOf(l), impl.YesOf(l); no != -1 || yes != -1 {
			t.Errorf("%s: NoOf is %d, YesOf %d", what, no, yes)
		}
		if impl.ApartOk(l, 0, 0) {
			t.Errorf("%s: ApartOk", what)
		}
	}
	// Bad numbers of bad logics are no way round.
	if l := (impl.Logic{}); impl.AndOf(l, -1, 5) != -1 || impl.NotOf(l, -1) != -1 || impl.ApartOk(l, -1, 5) {
		t.Error("numbers of no answers of nothing")
	}
}

func TestOppositesRefuseBadNumbers(t *testing.T) {
	for _, l := range []impl.Logic{alone(), star(2), ring(6), star(12)} {
		for _, bad := range badNumbers(len(l.Not)) {
			if n := impl.NotOf(l, bad); n != -1 {
				t.Errorf("NotOf of %d answers, %d: %d", len(l.Not), bad, n)
			}
			for _, x := range [][2]int{{bad, 0}, {0, bad}, {bad, bad}} {
				and, or, apart := impl.AndOf(l, x[0], x[1]), impl.OrOf(l, x[0], x[1]), impl.ApartOk(l, x[0], x[1])
				if and != -1 || or != -1 || apart {
					t.Errorf("%d answers, %v: AndOf %d, OrOf %d, ApartOk %v", len(l.Not), x, and, or, apart)
				}
			}
		}
	}
}

func TestLogicsAreNotWrittenTo(t *testing.T) {
	untouchedLogics(t, someLogics(), func(l impl.Logic) {
		last := len(l.Not) - 1
		impl.LogicOk(l)
		impl.AndOf(l, 0, last)
		impl.OrOf(l, 0, last)
		impl.NotOf(l, last)
		impl.NoOf(l)
		impl.YesOf(l)
		impl.ApartOk(l, 0, last)
	})
}
