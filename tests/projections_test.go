package tests

import (
	"slices"
	"testing"

	"loop.example/orthologics/impl"
)

// Promise 31: projections.

func TestProjectOfKnownLogics(t *testing.T) {
	sameAsKnown(t, "ProjectOf", rowOf(impl.ProjectOf), []known{
		{"one answer", alone(), 0, []int{0}},
		{"no and yes, on no", star(2), 0, []int{0, 0}},
		{"no and yes, on yes", star(2), 1, []int{0, 1}},
		{"yes and no, on yes", swapped(), 0, []int{0, 1}},
		{"yes and no, on no", swapped(), 1, []int{1, 1}},
		{"sets of two things", sets(2), 1, []int{0, 1, 0, 1}},
		{"sets of three things", sets(3), 3, []int{0, 1, 2, 3, 0, 1, 2, 3}},
		{"four and four glued, on no", gluedTo(sets(2), sets(2)), 0, []int{0, 0, 0, 0, 0, 0}},
		{"four and four glued, on yes", gluedTo(sets(2), sets(2)), 5, []int{0, 1, 2, 3, 4, 5}},
		{"four and four glued, on one of the first", gluedTo(sets(2), sets(2)), 1, []int{0, 1, 0, 1, 1, 1}},
		{"four and four glued, on one of the second", gluedTo(sets(2), sets(2)), 3, []int{0, 3, 3, 3, 0, 3}},
		{"eight and four glued, on one of eight", gluedTo(sets(3), sets(2)), 3, []int{0, 1, 2, 3, 0, 1, 2, 3, 3, 3}},
		{"eight and four glued, on one of four", gluedTo(sets(3), sets(2)), 7, []int{0, 7, 7, 7, 7, 7, 7, 7, 0, 7}},
		{"a star of twelve", star(12), 1, []int{0, 1, 1, 1, 1, 1, 1, 1, 1, 1, 0, 1}},
		{"two by a star of six", pairsOf(star(2), star(6)), 7, []int{0, 1, 1, 1, 0, 1, 6, 7, 7, 7, 6, 7}},
		{"the ring, on a lower one", ring(6), 1, []int{0, 1, 1, 0, 0, 1}},
		// 1 is below 2, and not projected to itself: the law is not kept.
		{"the ring, on an upper one", ring(6), 2, []int{0, 2, 2, 0, 0, 2}},
		{"the ring, on the other lower one", ring(6), 3, []int{0, 0, 0, 3, 3, 3}},
		{"the ring backwards", inOrder(ring(6), backwards(6)), 3, []int{3, 5, 5, 3, 3, 5}},
		{"the ring with no inside", shuffled(ring(6)), 1, []int{3, 1, 1, 3, 1, 3}},
		{"a ring of eight", ring(8), 3, []int{0, 3, 3, 3, 0, 0, 0, 3}},
		{"four and the ring glued, on one of the ring", gluedTo(sets(2), ring(6)), 4, []int{0, 4, 4, 4, 4, 0, 0, 4}},
		{"four and the ring glued, on one of four", gluedTo(sets(2), ring(6)), 1, []int{0, 1, 0, 1, 1, 1, 1, 1}},
		{"two by the ring, on one with yes", pairsOf(star(2), ring(6)), 8, []int{0, 2, 2, 0, 0, 2, 6, 8, 8, 6, 6, 8}},
		{"two by the ring, on one with no", pairsOf(star(2), ring(6)), 2, []int{0, 2, 2, 0, 0, 2, 0, 2, 2, 0, 0, 2}},
	})
}

func TestProjectOfAllAnswers(t *testing.T) {
	sameAsRows(t, "ProjectOf", impl.ProjectOf, wantProjections)
}

func TestProjectionsOnAndOfNoAndYes(t *testing.T) {
	for _, l := range lawLogics() {
		no, yes := boundsOf(l)
		for a, opposite := range l.Not {
			for _, x := range []struct{ on, of, want int }{
				{no, a, no}, {yes, a, a}, {a, no, no}, {a, yes, a}, {a, a, a}, {a, opposite, no}, {opposite, a, no},
			} {
				if made := impl.ProjectOf(l, x.on, x.of); made != x.want {
					t.Fatalf("ProjectOf(%v, %d, %d) = %d", l, x.on, x.of, made)
				}
			}
		}
	}
}

func TestProjectedAgainItIsTheSame(t *testing.T) {
	for _, l := range lawLogics() {
		keeps, meetings := wantKeeps(l), tablesOf(l).and
		eachPair(l, func(a, b int) {
			made := impl.ProjectOf(l, a, b)
			// Even where the law is not kept, it is below, and the same if it is projected again.
			if l.Under[made][a] != 1 || impl.ProjectOf(l, a, made) != made {
				t.Fatalf("%v: on %d, %d is projected to %d, and again to %d", l, a, b, made, impl.ProjectOf(l, a, made))
			}
			if keeps && l.Under[b][a] == 1 && made != b {
				t.Fatalf("%v: %d is below %d, and projected to %d", l, b, a, made)
			}
			if keeps && (made == meetings[a][b]) != impl.WithOk(l, a, b) {
				t.Fatalf("%v: on %d, %d is projected to %d, and they meet in %d", l, a, b, made, meetings[a][b])
			}
		})
	}
}

func TestProjectionsOfLogicsThatAreMade(t *testing.T) {
	sameByParts(t, "ProjectOf", impl.ProjectOf)
	sameByNames(t, "ProjectOf", impl.ProjectOf)
	// What is of the other logic makes yes with the opposite.
	sameGlued(t, "ProjectOf", impl.ProjectOf, func(_ impl.Logic, a int) int { return a })
}

// Promise 32: what follows.

func TestHookOfKnownLogics(t *testing.T) {
	sameAsKnown(t, "HookOf", rowOf(impl.HookOf), []known{
		{"one answer", alone(), 0, []int{0}},
		{"no and yes, of no", star(2), 0, []int{1, 1}},
		{"no and yes, of yes", star(2), 1, []int{0, 1}},
		{"yes and no, of yes", swapped(), 0, []int{0, 1}},
		{"yes and no, of no", swapped(), 1, []int{0, 0}},
		{"sets of two things", sets(2), 1, []int{2, 3, 2, 3}},
		{"sets of three things", sets(3), 3, []int{4, 5, 6, 7, 4, 5, 6, 7}},
		{"four and four glued, of no", gluedTo(sets(2), sets(2)), 0, []int{5, 5, 5, 5, 5, 5}},
		{"four and four glued, of yes", gluedTo(sets(2), sets(2)), 5, []int{0, 1, 2, 3, 4, 5}},
		{"four and four glued, of one of the first", gluedTo(sets(2), sets(2)), 1, []int{2, 5, 2, 2, 2, 5}},
		{"eight and four glued, of one of eight", gluedTo(sets(3), sets(2)), 3, []int{4, 5, 6, 9, 4, 5, 6, 4, 4, 9}},
		{"a star of twelve", star(12), 1, []int{10, 11, 10, 10, 10, 10, 10, 10, 10, 10, 10, 11}},
		{"two by a star of six", pairsOf(star(2), star(6)), 7, []int{4, 5, 4, 4, 4, 5, 10, 11, 10, 10, 10, 11}},
		{"the ring, of a lower one", ring(6), 1, []int{4, 5, 5, 4, 4, 5}},
		// It is yes of 2 and 1, though 2 is not below 1: the law is not kept.
		{"the ring, of an upper one", ring(6), 2, []int{3, 5, 5, 3, 3, 5}},
		{"the ring backwards", inOrder(ring(6), backwards(6)), 3, []int{0, 2, 2, 0, 0, 2}},
		{"the ring with no inside", shuffled(ring(6)), 1, []int{0, 4, 4, 0, 4, 0}},
		{"a ring of eight", ring(8), 3, []int{4, 7, 7, 7, 4, 4, 4, 7}},
		{"four and the ring glued, of one of the ring", gluedTo(sets(2), ring(6)), 4, []int{5, 5, 5, 7, 7, 5, 5, 7}},
		{"two by the ring, of one with yes", pairsOf(star(2), ring(6)), 8, []int{3, 5, 5, 3, 3, 5, 9, 11, 11, 9, 9, 11}},
		{"two by the ring, of one with no", pairsOf(star(2), ring(6)), 2, []int{9, 11, 11, 9, 9, 11, 9, 11, 11, 9, 9, 11}},
	})
}

func TestHookOfAllAnswers(t *testing.T) {
	sameAsRows(t, "HookOf", impl.HookOf, wantHooks)
}

func TestWhatIsBelowFollows(t *testing.T) {
	for _, l := range lawLogics() {
		keeps, meetings := wantKeeps(l), tablesOf(l).and
		_, yes := boundsOf(l)
		eachPair(l, func(a, b int) {
			hook := impl.HookOf(l, a, b)
			// Opposites of meetings are joins of opposites in any logic.
			if turned := l.Not[impl.ProjectOf(l, a, l.Not[b])]; hook != turned {
				t.Fatalf("%v: HookOf of %d and %d is %d, and the opposite of the projection %d", l, a, b, hook, turned)
			}
			if keeps && (hook == yes) != (l.Under[a][b] == 1) {
				t.Fatalf("%v: HookOf of %d and %d is %d", l, a, b, hook)
			}
			if both := meetings[a][hook]; keeps && l.Under[both][b] != 1 {
				t.Fatalf("%v: HookOf of %d and %d is %d, which meets the first one in %d", l, a, b, hook, both)
			}
		})
	}
}

func TestHooksOfLogicsThatAreMade(t *testing.T) {
	sameByParts(t, "HookOf", impl.HookOf)
	sameByNames(t, "HookOf", impl.HookOf)
	// What is of the other logic has nothing in common.
	sameGlued(t, "HookOf", impl.HookOf, func(glued impl.Logic, a int) int { return glued.Not[a] })
}

// Promise 33: projections behind each other.

func TestBehindOfKnownLogics(t *testing.T) {
	tests := []struct {
		what       string
		l          impl.Logic
		a, b, c    int
		projection int
	}{
		{"one answer", alone(), 0, 0, 0, 0},
		{"yes and no, no on yes twice", swapped(), 0, 0, 1, 1},
		{"yes and no, yes on no, on yes", swapped(), 1, 0, 0, 1},
		{"three sets", sets(3), 3, 6, 7, 2},
		{"three sets that have nothing in common", sets(3), 3, 6, 5, 0},
		{"yes", gluedTo(sets(2), sets(2)), 1, 3, 5, 3},
		// In the other order it is another answer, or no.
		{"one of the first, then one of the second", gluedTo(sets(2), sets(2)), 1, 3, 4, 3},
		{"one of the second, then one of the first", gluedTo(sets(2), sets(2)), 3, 1, 4, 0},
		{"an opposite first", gluedTo(sets(2), sets(2)), 1, 3, 2, 0},
		{"on an answer, then on its opposite", gluedTo(sets(2), sets(2)), 1, 2, 3, 0},
		{"on the same answer twice", gluedTo(sets(2), sets(2)), 1, 1, 3, 1},
		{"on no first", gluedTo(sets(2), sets(2)), 0, 1, 5, 0},
		{"on no then", gluedTo(sets(2), sets(2)), 1, 0, 5, 0},
		{"on yes first", gluedTo(sets(2), sets(2)), 5, 1, 3, 1},
		{"on yes then", gluedTo(sets(2), sets(2)), 1, 5, 3, 1},
		{"no", gluedTo(sets(2), sets(2)), 1, 3, 0, 0},
		{"on an upper one, then on one below it", gluedTo(sets(3), sets(2)), 3, 1, 7, 1},
		{"on a lower one, then on one above it", gluedTo(sets(3), sets(2)), 1, 3, 7, 1},
		{"on one of four, then on one of eight", gluedTo(sets(3), sets(2)), 7, 3, 1, 3},
		{"on one of eight, then on one of four", gluedTo(sets(3), sets(2)), 3, 7, 1, 7},
		{"three of twelve", star(12), 1, 2, 3, 2},
		{"three of twelve, opposites", star(12), 1, 10, 3, 0},
		// 1 is below 2, and the order matters all the same: the law is not kept.
		{"the ring, up", ring(6), 1, 2, 5, 2},
		{"the ring, down", ring(6), 2, 1, 5, 1},
		{"the ring, on the upper one twice", ring(6), 2, 2, 1, 2},
		{"the ring, one on each way", ring(6), 1, 3, 2, 0},
		{"two by the ring, up", pairsOf(star(2), ring(6)), 7, 8, 11, 8},
		{"two by the ring, with no first", pairsOf(star(2), ring(6)), 2, 7, 11, 1},
	}
	for _, x := range tests {
		if made := impl.BehindOf(x.l, x.a, x.b, x.c); made != x.projection {
			t.Errorf("%s: BehindOf(%v, %d, %d, %d) = %d", x.what, x.l, x.a, x.b, x.c, made)
		}
	}
}

func TestBehindOfAllAnswers(t *testing.T) {
	for _, l := range lawLogics() {
		project := wantProjections(l)
		eachTriple(l, func(a, b, c int) {
			if made := impl.BehindOf(l, a, b, c); made != project[b][project[a][c]] {
				t.Fatalf("BehindOf(%v, %d, %d, %d) = %d", l, a, b, c, made)
			}
		})
	}
}

func TestBehindTheSameOneItIsTheSame(t *testing.T) {
	for _, l := range lawLogics() {
		eachPair(l, func(a, b int) {
			once, twice := impl.ProjectOf(l, a, b), impl.BehindOf(l, a, a, b)
			if once != twice {
				t.Fatalf("%v: on %d, %d is projected to %d, and twice to %d", l, a, b, once, twice)
			}
		})
	}
}

func TestProjectionsAreTurnedAbout(t *testing.T) {
	for _, l := range lawLogics() {
		if !wantKeeps(l) {
			continue
		}
		project, hook := rowsOf(l, impl.ProjectOf), rowsOf(l, impl.HookOf)
		apart := func(a, b int) bool { return l.Under[a][l.Not[b]] == 1 }
		eachTriple(l, func(a, b, c int) {
			if apart(project[a][c], b) != apart(project[a][b], c) {
				t.Fatalf("%v: on %d, %d is projected to %d, and %d to %d", l, a, b, project[a][b], c, project[a][c])
			}
			if (l.Under[project[a][b]][c] == 1) != (l.Under[b][hook[a][c]] == 1) {
				t.Fatalf("%v: on %d, %d is projected to %d, and HookOf with %d is %d", l, a, b, project[a][b], c, hook[a][c])
			}
		})
	}
}

func TestBehindEachOtherTheLowerOneIsLeft(t *testing.T) {
	for _, l := range lawLogics() {
		if !wantKeeps(l) {
			continue
		}
		eachTriple(l, func(a, b, c int) {
			if l.Under[a][b] == 0 {
				return
			}
			up, down, on := impl.BehindOf(l, a, b, c), impl.BehindOf(l, b, a, c), impl.ProjectOf(l, a, c)
			if up != on || down != on {
				t.Fatalf("%v: %d is below %d, and %d is projected on it to %d, behind each other to %d and %d", l, a, b, c, on, up, down)
			}
		})
	}
}

// Promise 34: all projections on an answer.

func TestUpToOfKnownLogics(t *testing.T) {
	turned := inOrder(gluedTo(sets(2), sets(2)), []int{1, 2, 3, 4, 5, 0})
	sameAsKnown(t, "UpToOf", impl.UpToOf, []known{
		{"one answer", alone(), 0, []int{0}},
		{"no and yes, no", star(2), 0, []int{0}},
		{"no and yes, yes", star(2), 1, []int{0, 1}},
		{"yes and no, yes", swapped(), 0, []int{0, 1}},
		{"yes and no, no", swapped(), 1, []int{1}},
		{"sets of three things", sets(3), 5, []int{0, 1, 4, 5}},
		{"no of sets", sets(3), 0, []int{0}},
		{"yes of sets", sets(3), 7, []int{0, 1, 2, 3, 4, 5, 6, 7}},
		{"four and four glued", gluedTo(sets(2), sets(2)), 1, []int{0, 1}},
		{"four and four glued, yes", gluedTo(sets(2), sets(2)), 5, []int{0, 1, 2, 3, 4, 5}},
		{"four and four glued, no last", turned, 0, []int{0, 5}},
		{"four and four glued, no last, yes", turned, 4, []int{0, 1, 2, 3, 4, 5}},
		{"four and four glued, no last, no", turned, 5, []int{5}},
		{"eight and four glued, one of eight", gluedTo(sets(3), sets(2)), 6, []int{0, 2, 4, 6}},
		{"eight and four glued, one of four", gluedTo(sets(3), sets(2)), 7, []int{0, 7}},
		{"a star of twelve", star(12), 1, []int{0, 1}},
		{"a star of twelve, yes", star(12), 11, []int{0, 1, 2, 3, 4, 5, 6, 7, 8, 9, 10, 11}},
		{"two by a star of six", pairsOf(star(2), star(6)), 7, []int{0, 1, 6, 7}},
		{"the ring, a lower one", ring(6), 1, []int{0, 1}},
		// 1 is below 2, and no projection on it: the law is not kept.
		{"the ring, an upper one", ring(6), 2, []int{0, 2}},
		{"the ring, yes", ring(6), 5, []int{0, 1, 2, 3, 4, 5}},
		{"the ring backwards", inOrder(ring(6), backwards(6)), 3, []int{3, 5}},
		{"a ring of eight", ring(8), 3, []int{0, 3}},
		{"four and the ring glued", gluedTo(sets(2), ring(6)), 4, []int{0, 4}},
		{"two by the ring", pairsOf(star(2), ring(6)), 8, []int{0, 2, 6, 8}},
	})
}

func TestAllBelowAreProjections(t *testing.T) {
	for _, l := range lawLogics() {
		project, keeps := wantProjections(l), wantKeeps(l)
		for a := range l.Not {
			list := impl.UpToOf(l, a)
			if !slices.Equal(list, slices.Compact(slices.Sorted(slices.Values(project[a])))) {
				t.Fatalf("UpToOf(%v, %d) = %v", l, a, list)
			}
			if keeps && !slices.Equal(list, belowOf(l, a)) {
				t.Fatalf("%v: UpToOf of %d is %v, and below are %v", l, a, list, belowOf(l, a))
			}
			newList(t, "UpToOf", l, func(l impl.Logic) []int { return impl.UpToOf(l, a) })
		}
	}
}

// Promise 35: what is projected to no.

func TestClearOfKnownLogics(t *testing.T) {
	turned := inOrder(gluedTo(sets(2), sets(2)), []int{1, 2, 3, 4, 5, 0})
	sameAsKnown(t, "ClearOf", impl.ClearOf, []known{
		{"one answer", alone(), 0, []int{0}},
		{"no and yes, no", star(2), 0, []int{0, 1}},
		{"no and yes, yes", star(2), 1, []int{0}},
		{"yes and no, yes", swapped(), 0, []int{1}},
		{"yes and no, no", swapped(), 1, []int{0, 1}},
		{"one of sets", sets(3), 1, []int{0, 2, 4, 6}},
		{"two of sets", sets(3), 5, []int{0, 2}},
		{"no of sets", sets(3), 0, []int{0, 1, 2, 3, 4, 5, 6, 7}},
		{"yes of sets", sets(3), 7, []int{0}},
		{"four and four glued", gluedTo(sets(2), sets(2)), 1, []int{0, 2}},
		{"four and four glued, no", gluedTo(sets(2), sets(2)), 0, []int{0, 1, 2, 3, 4, 5}},
		{"four and four glued, yes", gluedTo(sets(2), sets(2)), 5, []int{0}},
		{"four and four glued, no last", turned, 0, []int{1, 5}},
		{"four and four glued, no last, yes", turned, 4, []int{5}},
		{"four and four glued, no last, no", turned, 5, []int{0, 1, 2, 3, 4, 5}},
		{"eight and four glued, one of eight", gluedTo(sets(3), sets(2)), 1, []int{0, 2, 4, 6}},
		{"eight and four glued, one of four", gluedTo(sets(3), sets(2)), 7, []int{0, 8}},
		{"a star of twelve", star(12), 1, []int{0, 10}},
		{"a star of twelve, no", star(12), 0, []int{0, 1, 2, 3, 4, 5, 6, 7, 8, 9, 10, 11}},
		{"two by a star of six", pairsOf(star(2), star(6)), 7, []int{0, 4}},
		{"two by a star of six, one with no", pairsOf(star(2), star(6)), 1, []int{0, 4, 6, 10}},
		{"the ring, a lower one", ring(6), 1, []int{0, 3, 4}},
		// 4 is not apart from 2: the law is not kept.
		{"the ring, an upper one", ring(6), 2, []int{0, 3, 4}},
		{"the ring backwards", inOrder(ring(6), backwards(6)), 3, []int{1, 2, 5}},
		{"a ring of eight", ring(8), 3, []int{0, 4, 5, 6}},
		{"four and the ring glued, one of the ring", gluedTo(sets(2), ring(6)), 4, []int{0, 5, 6}},
		{"four and the ring glued, one of four", gluedTo(sets(2), ring(6)), 1, []int{0, 2}},
		{"two by the ring, one with yes", pairsOf(star(2), ring(6)), 8, []int{0, 3, 4}},
		{"two by the ring, one with no", pairsOf(star(2), ring(6)), 2, []int{0, 3, 4, 6, 9, 10}},
	})
}

func TestWhatIsClearedAwayIsApart(t *testing.T) {
	for _, l := range lawLogics() {
		project, keeps := wantProjections(l), wantKeeps(l)
		no, _ := boundsOf(l)
		for a := range l.Not {
			var want []int
			for b, made := range project[a] {
				if made == no {
					want = append(want, b)
				}
			}
			list := impl.ClearOf(l, a)
			if !slices.Equal(list, want) {
				t.Fatalf("ClearOf(%v, %d) = %v", l, a, list)
			}
			// An answer is apart from another one if it is below its opposite.
			if keeps && !slices.Equal(list, belowOf(l, l.Not[a])) {
				t.Fatalf("%v: ClearOf of %d is %v, and apart from it are %v", l, a, list, belowOf(l, l.Not[a]))
			}
			newList(t, "ClearOf", l, func(l impl.Logic) []int { return impl.ClearOf(l, a) })
		}
	}
}

// The rules for all functions: fixed results for others, and arguments that are not written to.

// noProjections and noLists fail if a function of chapter 7 makes something of a logic and numbers that are to be refused.
func noProjections(t *testing.T, what string, l impl.Logic, a int, b int, c int) {
	t.Helper()
	for name, made := range map[string]int{"ProjectOf": impl.ProjectOf(l, a, b), "HookOf": impl.HookOf(l, a, b), "BehindOf": impl.BehindOf(l, a, b, c)} {
		if made != -1 {
			t.Fatalf("%s: %s of %v, %d, %d and %d is %d", what, name, l, a, b, c, made)
		}
	}
}

func noLists(t *testing.T, what string, l impl.Logic, a int) {
	t.Helper()
	for name, list := range map[string][]int{"UpToOf": impl.UpToOf(l, a), "ClearOf": impl.ClearOf(l, a)} {
		if list != nil {
			t.Fatalf("%s: %s of %v and %d is %v", what, name, l, a, list)
		}
	}
}

func TestProjectionsRefuseBadLogics(t *testing.T) {
	for what, l := range badLogics() {
		for _, a := range []int{-1, 0, 1, len(l.Not) - 1, len(l.Under) - 1, len(l.Under)} {
			noLists(t, what, l, a)
			for _, b := range []int{0, 1, a} {
				noProjections(t, what, l, a, b, 0)
				noProjections(t, what, l, b, a, a)
			}
		}
	}
}

func TestProjectionsRefuseBadNumbers(t *testing.T) {
	for _, l := range append(fewLogics(), ring(12)) {
		for _, a := range badNumbers(len(l.Not)) {
			noLists(t, "a bad number", l, a)
		}
		someOut(l, 2, func(n []int) { noProjections(t, "bad numbers", l, n[0], n[1], n[1]) })
		someOut(l, 3, func(n []int) {
			if made := impl.BehindOf(l, n[0], n[1], n[2]); made != -1 {
				t.Fatalf("BehindOf(%v, %v) = %d", l, n, made)
			}
		})
	}
}

func TestProjectionsWriteToNoArguments(t *testing.T) {
	untouchedLogics(t, lawLogics(), func(l impl.Logic) {
		last := len(l.Not) - 1
		impl.ProjectOf(l, 0, last)
		impl.HookOf(l, last, 0)
		impl.BehindOf(l, 0, last, last/2)
		impl.UpToOf(l, last/2)
		impl.ClearOf(l, last/2)
	})
}
