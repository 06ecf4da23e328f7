package tests

import (
	"math"
	"math/bits"
	"runtime"
	"slices"
	"testing"
	"time"

	"loop.example/orthologics/impl"
)

// keeping are logics that keep the law, by what they are: sets, stars, and what is made of them.
func keeping() map[string]impl.Logic {
	out := map[string]impl.Logic{
		"one answer":                  alone(),
		"no and yes":                  star(2),
		"yes and no":                  swapped(),
		"sets of two things":          sets(2),
		"sets of three things":        sets(3),
		"a star of six":               star(6),
		"a star of twelve":            star(12),
		"four and four glued":         gluedTo(sets(2), sets(2)),
		"four and eight glued":        gluedTo(sets(2), sets(3)),
		"eight and four glued":        gluedTo(sets(3), sets(2)),
		"eight and six glued":         gluedTo(sets(3), star(6)),
		"two by six":                  pairsOf(star(2), star(6)),
		"a star of six by two":        pairsOf(star(6), star(2)),
		"four, four and eight, glued": gluedTo(gluedTo(sets(2), sets(2)), sets(3)),
	}
	return withOtherNames(out)
}

// breaking are logics that do not keep the law: rings, and logics in which a ring hides.
func breaking() map[string]impl.Logic {
	out := map[string]impl.Logic{
		"the ring":                        ring(6),
		"a ring of eight":                 ring(8),
		"a ring of ten":                   ring(10),
		"a ring of twelve":                ring(12),
		"the ring and four glued":         gluedTo(ring(6), sets(2)),
		"four and the ring glued":         gluedTo(sets(2), ring(6)),
		"the ring and eight glued":        gluedTo(ring(6), sets(3)),
		"eight and the ring glued":        gluedTo(sets(3), ring(6)),
		"a star of eight and the ring":    gluedTo(star(8), ring(6)),
		"two rings glued":                 gluedTo(ring(6), ring(6)),
		"the ring and one of eight":       gluedTo(ring(6), ring(8)),
		"two by the ring":                 pairsOf(star(2), ring(6)),
		"the ring by two":                 pairsOf(ring(6), star(2)),
		"four, the ring, and four":        gluedTo(gluedTo(sets(2), ring(6)), sets(2)),
		"the ring, and no and yes, glued": gluedTo(ring(6), star(2)),
	}
	return withOtherNames(out)
}

// withOtherNames returns the logics, and each of them in some other orders of answers.
func withOtherNames(logics map[string]impl.Logic) map[string]impl.Logic {
	out := map[string]impl.Logic{}
	for what, l := range logics {
		n := len(l.Not)
		out[what] = l
		if n > 1 {
			out[what+", backwards"] = inOrder(l, backwards(n))
			out[what+", mixed"] = inOrder(l, mixed(n))
		}
	}
	return out
}

// lawLogics are all logics with which the law is tested.
func lawLogics() []impl.Logic {
	out := someLogics()
	for _, logics := range []map[string]impl.Logic{keeping(), breaking()} {
		for _, l := range logics {
			out = append(out, l)
		}
	}
	return out
}

// tables are the meetings and the joins of each two answers of a logic, and no.
type tables struct {
	and, or [][]int
	no      int
}

func tablesOf(l impl.Logic) tables {
	t := tables{and: blank(len(l.Not)), or: blank(len(l.Not))}
	t.no, _ = wantLeast(l.Under)
	down, up := downs(l.Under), ups(l.Under)
	for a := range l.Not {
		for b := range l.Not {
			t.and[a][b] = slices.Index(down, down[a]&down[b])
			t.or[a][b] = slices.Index(up, up[a]&up[b])
		}
	}
	return t
}

func wantKeeps(l impl.Logic) bool {
	t := tablesOf(l)
	for a := range l.Not {
		for b := range l.Not {
			if l.Under[a][b] == 1 && t.or[a][t.and[b][l.Not[a]]] != b {
				return false
			}
		}
	}
	return true
}

// breaksOf returns all pairs that break the law, in the order of the first and then of the second answer.
func breaksOf(l impl.Logic) [][2]int {
	t := tablesOf(l)
	var out [][2]int
	for a := range l.Not {
		for b := range l.Not {
			if a != b && l.Under[a][b] == 1 && t.and[b][l.Not[a]] == t.no {
				out = append(out, [2]int{a, b})
			}
		}
	}
	return out
}

// isPart tells whether what answers of a set make is in it.
func isPart(l impl.Logic, t tables, set int) bool {
	in := func(a int) bool { return set>>a&1 == 1 }
	for a := range l.Not {
		if in(a) && !in(l.Not[a]) {
			return false
		}
		for b := range l.Not {
			if in(a) && in(b) && (!in(t.and[a][b]) || !in(t.or[a][b])) {
				return false
			}
		}
	}
	return set > 0 && set < 1<<len(l.Not)
}

// partsOf returns all parts of a logic, in ascending order.
func partsOf(l impl.Logic) []int {
	t := tablesOf(l)
	var out []int
	for set := range 1 << len(l.Not) {
		if isPart(l, t, set) {
			out = append(out, set)
		}
	}
	return out
}

// wantMade is what all parts that have a set have in common.
func wantMade(l impl.Logic, parts []int, set int) int {
	out := 1<<len(l.Not) - 1
	for _, part := range parts {
		if part&set == set {
			out &= part
		}
	}
	return out
}

// wantPart takes the rows and the places of other answers out of a logic.
func wantPart(l impl.Logic, set int) impl.Logic {
	var out impl.Logic
	place := func(a int) int { return bits.OnesCount(uint(set & (1<<a - 1))) }
	for a := range l.Not {
		if set>>a&1 == 0 {
			continue
		}
		var row []int
		for b, held := range l.Under[a] {
			if set>>b&1 == 1 {
				row = append(row, held)
			}
		}
		out.Under = append(out.Under, row)
		out.Not = append(out.Not, place(l.Not[a]))
	}
	return out
}

// setsToTry returns all sets of at least one of at most eight answers, and of more answers those of few or of almost all, and each part with one answer more or less.
func setsToTry(answers int, parts []int) []int {
	var out []int
	all := 1<<answers - 1
	for set := 1; set <= all; set++ {
		if count := bits.OnesCount(uint(set)); answers <= 8 || count <= 2 || count >= answers-1 {
			out = append(out, set)
		}
	}
	if answers > 8 {
		for _, part := range parts {
			out = append(out, part)
			for a := range answers {
				if other := part ^ 1<<a; other != 0 {
					out = append(out, other)
				}
			}
		}
	}
	slices.Sort(out)
	return slices.Compact(out)
}

// badSets are numbers that are not those of sets of at least one of so many answers.
func badSets(answers int) []int {
	all := 1<<answers - 1
	return []int{
		0, -1, -2, -all, -all - 1, -all - 2, math.MinInt, math.MinInt + 1, math.MinInt | all,
		all + 1, all + 2, 1<<answers | 1<<(answers-1) | 1, 2*all + 1, 1<<impl.MaxAnswers | all, 1<<31 | all, 1<<32 | all, 1 << 62, 1<<62 | all, math.MaxInt,
	}
}

// onlyParts calls f with each of the logics, and its parts.
func onlyParts(logics []impl.Logic, f func(l impl.Logic, parts []int)) {
	for _, l := range logics {
		f(l, partsOf(l))
	}
}

// sameBreak fails if BreakOf does not tell this pair, or tells one where there is none (nil).
func sameBreak(t *testing.T, what string, l impl.Logic, want []int) {
	t.Helper()
	a, b, ok := impl.BreakOf(l)
	if len(want) == 0 {
		want = []int{-1, -1}
	}
	if a != want[0] || b != want[1] || ok != (want[0] >= 0) {
		t.Fatalf("%s: BreakOf(%v) = %d, %d, %v; want %v", what, l, a, b, ok, want)
	}
}

// noneLeft fails if there are more goroutines after some rounds of calls than ahead of them.
func noneLeft(t *testing.T, rounds int, calls func()) {
	t.Helper()
	before := runtime.NumGoroutine()
	for range rounds {
		calls()
	}
	// One that has done its work may still be about to end.
	for range 500 {
		if runtime.NumGoroutine() <= before {
			return
		}
		time.Sleep(10 * time.Millisecond)
	}
	t.Errorf("%d goroutines became %d", before, runtime.NumGoroutine())
}

// wipe writes noughts into all lists of a logic.
func wipe(l impl.Logic) {
	for _, list := range listsOf(l) {
		clear(list)
	}
}
