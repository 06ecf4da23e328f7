package tests

import (
	"slices"
	"testing"

	"loop.example/orthologics/impl"
)

// told is what is known to be told of a logic.
type told struct {
	what string
	l    impl.Logic
	want bool
}

// sameAsTold fails if a function tells another thing of a logic than what is known.
func sameAsTold(t *testing.T, name string, f func(l impl.Logic) bool, tests []told) {
	t.Helper()
	for _, x := range tests {
		if ok := f(x.l); ok != x.want {
			t.Errorf("%s: %s(%v) = %v", x.what, name, x.l, ok)
		}
	}
}

// lopsided is a logic of ten answers: 1, 2 and 3 are below 4, and 1 is below 2; of the other five, the opposites of these, 5 is below 6, 7 and 8, and 7 below 8. Rows of different lengths lead to 4.
func lopsided() impl.Logic {
	rows := diamond(10)
	for _, x := range [][2]int{{1, 2}, {1, 4}, {2, 4}, {3, 4}, {5, 6}, {5, 7}, {5, 8}, {7, 8}} {
		rows[x[0]][x[1]] = 1
	}
	return impl.Logic{Under: rows, Not: backwards(10)}
}

// exchanged is the logic with 2 and 4 in each other's places.
func exchanged(l impl.Logic) impl.Logic {
	row := numbersOf(1<<len(l.Not) - 1)
	row[2], row[4] = 4, 2
	return inOrder(l, row)
}

// pasted is a logic of twelve answers of two blocks with three atoms each, of which they have one in common: 1, 2 and 3, and 3, 4 and 5; the opposites stand backwards.
func pasted() impl.Logic {
	rows := diamond(12)
	for _, block := range [][3]int{{1, 2, 3}, {3, 4, 5}} {
		for _, a := range block {
			for _, b := range block {
				if a != b {
					rows[a][11-b] = 1
				}
			}
		}
	}
	return impl.Logic{Under: rows, Not: backwards(12)}
}

// modularLogics are all logics with which modular ones are tested.
func modularLogics() []impl.Logic {
	out := lawLogics()
	for _, l := range []impl.Logic{lopsided(), exchanged(lopsided()), pasted(), gluedTo(lopsided(), star(4)), gluedTo(ring(6), ring(8))} {
		n := len(l.Not)
		out = append(out, l, inOrder(l, backwards(n)), inOrder(l, mixed(n)))
	}
	return out
}

// wantModular tells it from bits alone: what is below the join of a and b, and below c, is just what is below the join of a with what b and c have in common.
func wantModular(l impl.Logic) bool {
	g := agreementOf(l)
	modular := true
	eachTriple(l, func(a, b, c int) {
		if l.Under[a][c] == 1 {
			ahead := g.down[g.leastAbove(g.down[a]|g.down[b])] & g.down[c]
			after := g.down[g.leastAbove(g.down[a]|g.down[b]&g.down[c])]
			modular = modular && ahead == after
		}
	})
	return modular
}

// pentagonsOf returns all answers a, c and b that are in a pentagon, in the order of a, then of c, then of b.
func pentagonsOf(l impl.Logic) [][]int {
	down, up := downs(l.Under), ups(l.Under)
	var out [][]int
	eachTriple(l, func(a, c, b int) {
		if a != c && down[c]>>a&1 == 1 && down[a]&down[b] == down[c]&down[b] && up[a]&up[b] == up[c]&up[b] {
			out = append(out, []int{a, c, b})
		}
	})
	return out
}

// samePentagon fails if PentagonOf does not tell this pentagon, or tells one where there is none (nil).
func samePentagon(t *testing.T, what string, l impl.Logic, want []int) {
	t.Helper()
	a, c, b, ok := impl.PentagonOf(l)
	if len(want) == 0 {
		want = []int{-1, -1, -1}
	}
	if !slices.Equal([]int{a, c, b}, want) || ok != (want[0] >= 0) {
		t.Fatalf("%s: PentagonOf(%v) = %d, %d, %d, %v; want %v", what, l, a, c, b, ok, want)
	}
}

// wantHeights takes away, again and again, all answers below which no other ones are left: as often as this was done ahead of it, so high is an answer.
func wantHeights(l impl.Logic) []int {
	down := downs(l.Under)
	out := make([]int, len(down))
	left := 1<<len(down) - 1
	for round := 0; left != 0; round++ {
		gone := 0
		for _, a := range numbersOf(left) {
			if down[a]&left == 1<<a {
				out[a], gone = round, gone|1<<a
			}
		}
		left &^= gone
	}
	return out
}

// heightsOf are the heights of all answers of a logic, as HighOf tells them.
func heightsOf(l impl.Logic) []int {
	out := make([]int, len(l.Not))
	for a := range out {
		out[a] = impl.HighOf(l, a)
	}
	return out
}

// wantAddsUp adds the heights of each two answers of a logic, and those of what they make.
func wantAddsUp(l impl.Logic) bool {
	high, made := wantHeights(l), tablesOf(l)
	addsUp := true
	eachPair(l, func(a, b int) {
		addsUp = addsUp && high[a]+high[b] == high[made.and[a][b]]+high[made.or[a][b]]
	})
	return addsUp
}
