package tests

import (
	"slices"
	"testing"

	"loop.example/orthologics/impl"
)

// ofTwo makes an answer of a logic of two of them, and listOf makes a list of one.
type ofTwo func(l impl.Logic, a int, b int) int
type listOf func(l impl.Logic, a int) []int

// rowOf lists what a function makes of one answer and of each one.
func rowOf(f ofTwo) listOf {
	return func(l impl.Logic, a int) []int {
		out := make([]int, len(l.Not))
		for b := range out {
			out[b] = f(l, a, b)
		}
		return out
	}
}

// rowsOf has, for each two answers of a logic, what a function makes of them.
func rowsOf(l impl.Logic, f ofTwo) [][]int {
	out := make([][]int, len(l.Not))
	for a := range out {
		out[a] = rowOf(f)(l, a)
	}
	return out
}

// wantProjections and wantHooks are made of tables of meetings and joins.
func wantProjections(l impl.Logic) [][]int {
	t := tablesOf(l)
	return rowsOf(l, func(l impl.Logic, a int, b int) int { return t.and[a][t.or[l.Not[a]][b]] })
}

func wantHooks(l impl.Logic) [][]int {
	t := tablesOf(l)
	return rowsOf(l, func(l impl.Logic, a int, b int) int { return t.or[l.Not[a]][t.and[a][b]] })
}

// belowOf lists all answers of a logic that are below one, itself among them.
func belowOf(l impl.Logic, a int) []int { return numbersOf(downs(l.Under)[a]) }

// known is a list that is made of one answer of a logic.
type known struct {
	what string
	l    impl.Logic
	a    int
	want []int
}

// sameAsKnown fails if a function makes other lists than those that are known.
func sameAsKnown(t *testing.T, name string, f listOf, tests []known) {
	t.Helper()
	for _, x := range tests {
		if list := f(x.l, x.a); !slices.Equal(list, x.want) {
			t.Errorf("%s: %s of %d in %v is %v", x.what, name, x.a, x.l, list)
		}
	}
}

// sameAsRows fails if a function makes of two answers of a logic another one than rows have.
func sameAsRows(t *testing.T, name string, f ofTwo, rows func(l impl.Logic) [][]int) {
	t.Helper()
	for _, l := range lawLogics() {
		want := rows(l)
		eachPair(l, func(a, b int) {
			if made := f(l, a, b); made != want[a][b] {
				t.Fatalf("%s(%v, %d, %d) = %d", name, l, a, b, made)
			}
		})
	}
}

// sameByParts fails if a function makes of pairs in a product other ones than the pairs of what it makes in both logics.
func sameByParts(t *testing.T, name string, f ofTwo) {
	t.Helper()
	eachTwo(impl.TimesOf, func(l, m, product impl.Logic) {
		width := len(m.Not)
		first, second := rowsOf(l, f), rowsOf(m, f)
		eachPair(product, func(p, q int) {
			if made := f(product, p, q); made != first[p/width][q/width]*width+second[p%width][q%width] {
				t.Fatalf("%v times %v: %s of %d and %d is %d", l, m, name, p, q, made)
			}
		})
	})
}

// sameMoved fails if a function makes of answers that have other numbers in a larger or renamed logic another one than in the logic itself.
func sameMoved(t *testing.T, name string, f ofTwo, l impl.Logic, moved impl.Logic, to []int) {
	t.Helper()
	eachPair(l, func(a, b int) {
		if made := f(moved, to[a], to[b]); made != to[f(l, a, b)] {
			t.Fatalf("%v is %v with the numbers %v: %s of %d and %d is %d", l, moved, to, name, to[a], to[b], made)
		}
	})
}

// sameByNames fails if what a function makes depends on the numbers of answers.
func sameByNames(t *testing.T, name string, f ofTwo) {
	t.Helper()
	for _, l := range fewLogics() {
		for _, row := range ordersOf(len(l.Not)) {
			to := make([]int, len(row))
			for k, a := range row {
				to[a] = k
			}
			sameMoved(t, name, f, l, impl.Renamed(l, row), to)
		}
	}
}

// gluedNumbers are the numbers that the answers of a logic have in a glued one, if those between no and yes begin there at the first.
func gluedNumbers(part impl.Logic, first int, last int) []int {
	no, yes := boundsOf(part)
	to := make([]int, len(part.Not))
	to[no], to[yes] = 0, last
	for i, a := range between(part) {
		to[a] = first + i
	}
	return to
}

// sameGlued fails if a function makes of answers of one of two glued logics another one than in that logic, or of answers of both, neither no nor yes, another one than across tells of the first.
func sameGlued(t *testing.T, name string, f ofTwo, across func(glued impl.Logic, a int) int) {
	t.Helper()
	eachTwo(impl.GluedOf, func(l, m, glued impl.Logic) {
		last, second := len(glued.Not)-1, len(l.Not)-1
		sameMoved(t, name, f, l, glued, gluedNumbers(l, 1, last))
		sameMoved(t, name, f, m, glued, gluedNumbers(m, second, last))
		for a := 1; a < second; a++ {
			for b := second; b < last; b++ {
				if f(glued, a, b) != across(glued, a) || f(glued, b, a) != across(glued, b) {
					t.Fatalf("%v and %v glued: %s of %d and %d is %d, turned it is %d", l, m, name, a, b, f(glued, a, b), f(glued, b, a))
				}
			}
		}
	})
}
