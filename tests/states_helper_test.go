package tests

import (
	"slices"
	"testing"

	"loop.example/orthologics/impl"
)

// roundOf is a logic of twelve answers: of 1 to 5, which stand in a round, each is apart from both that are next to it, and with either makes yes. One of each two neighbours would have to be told yes, and just one: of five in a round that cannot be.
func roundOf() impl.Logic {
	rows := diamond(12)
	for a := range 5 {
		next := (a + 1) % 5
		rows[1+a][11-(1+next)], rows[1+next][11-(1+a)] = 1, 1
	}
	return impl.Logic{Under: rows, Not: backwards(12)}
}

// crowded are the sets of three things, 1, 2 and 3, with 4 between 1 and the opposite of 2, and 5 between 1 and the opposite of 3: so what 1 is told, neither 2 nor 3 is, and there is one state alone.
func crowded() impl.Logic {
	rows := diamond(12)
	for _, x := range [][2]int{{1, 4}, {1, 5}, {1, 8}, {1, 9}, {4, 9}, {5, 8}, {2, 7}, {2, 8}, {2, 10}, {7, 10}, {3, 6}, {3, 9}, {3, 10}, {6, 10}} {
		rows[x[0]][x[1]] = 1
	}
	return impl.Logic{Under: rows, Not: backwards(12)}
}

// stateLogics are all logics with which states are tested.
func stateLogics() []impl.Logic {
	out := modularLogics()
	for _, l := range []impl.Logic{roundOf(), crowded()} {
		out = append(out, l, inOrder(l, backwards(12)), inOrder(l, mixed(12)))
	}
	return out
}

// allOf calls f with each logic of so many answers, at least four, that has no first, yes last, and the opposites backwards. Of two answers and their opposites nothing compares, or one of the first two is below one of the second two, and so for the opposites.
func allOf(answers int, f func(l impl.Logic)) {
	var couples [][2]int
	for a := 1; a < answers/2; a++ {
		for b := a + 1; b < answers/2; b++ {
			couples = append(couples, [2]int{a, b})
		}
	}
	last := answers - 1
	everyList(len(couples), 0, 4, func(ways []int) {
		l := star(answers)
		for k, x := range couples {
			lower, upper := []int{x[0], last - x[0]}, []int{x[1], last - x[1]}
			if way := ways[k] - 1; way >= 0 {
				a, b := lower[way%2], upper[way/2]
				l.Under[a][b], l.Under[last-b][last-a] = 1, 1
			}
		}
		if wantLogic(l.Under, l.Not) {
			f(l)
		}
	})
}

// isState tells whether a set of answers is a state, as it is defined.
func isState(l impl.Logic, t tables, set int) bool {
	in := func(a int) bool { return set>>a&1 == 1 }
	for a := range l.Not {
		if in(a) == in(l.Not[a]) {
			return false
		}
		for b := range l.Not {
			apart := l.Under[a][l.Not[b]] == 1
			if apart && (in(a) && in(b) || in(t.or[a][b]) != (in(a) != in(b))) {
				return false
			}
		}
	}
	return in(l.Not[t.no])
}

// wantStates are all states of a logic, in ascending order: all sets of its answers are tried.
func wantStates(l impl.Logic) []int {
	t := tablesOf(l)
	var out []int
	for set := range 1 << len(l.Not) {
		if isState(l, t, set) {
			out = append(out, set)
		}
	}
	return out
}

// wantFull tells whether for each two answers of which the first one is not below the second one a state has the first one alone.
func wantFull(l impl.Logic) bool {
	states := wantStates(l)
	full := true
	eachPair(l, func(a, b int) {
		first := func(state int) bool { return state>>a&1 == 1 && state>>b&1 == 0 }
		full = full && (l.Under[a][b] == 1 || slices.ContainsFunc(states, first))
	})
	return full
}

// choicesOf returns all sets that have of each answer and its opposite just one.
func choicesOf(l impl.Logic) []int {
	var out []int
	for set := range 1 << len(l.Not) {
		if set|imageOf(l.Not, set) == 1<<len(l.Not)-1 && set&imageOf(l.Not, set) == 0 {
			out = append(out, set)
		}
	}
	return out
}

// moved returns the set of the numbers that the answers of a set have in another logic.
func moved(set int, to []int) int {
	out := 0
	for _, a := range numbersOf(set) {
		out |= 1 << to[a]
	}
	return out
}

// gluedStates are, for each state of one logic and each of another one, what both tell of the glued logic.
func gluedStates(l impl.Logic, m impl.Logic) []int {
	last := len(l.Not) + len(m.Not) - 3
	first, second := gluedNumbers(l, 1, last), gluedNumbers(m, len(l.Not)-1, last)
	var out []int
	for _, s := range wantStates(l) {
		for _, t := range wantStates(m) {
			out = append(out, moved(s, first)|moved(t, second))
		}
	}
	slices.Sort(out)
	return out
}

// productStates are, for each state of one of two logics, all pairs whose part in this one is told yes.
func productStates(l impl.Logic, m impl.Logic) []int {
	told := func(is func(a, b int) bool) int {
		out := 0
		for p := range len(l.Not) * len(m.Not) {
			if is(p/len(m.Not), p%len(m.Not)) {
				out |= 1 << p
			}
		}
		return out
	}
	var out []int
	for _, s := range wantStates(l) {
		out = append(out, told(func(a, b int) bool { return s>>a&1 == 1 }))
	}
	for _, s := range wantStates(m) {
		out = append(out, told(func(a, b int) bool { return s>>b&1 == 1 }))
	}
	slices.Sort(out)
	return out
}

// sameStates fails if StatesOf does not tell these states.
func sameStates(t *testing.T, what string, l impl.Logic, want []int) {
	t.Helper()
	if states := impl.StatesOf(l); !slices.Equal(states, want) {
		t.Fatalf("%s: StatesOf(%v) = %v; want %v", what, l, states, want)
	}
}

// toldByAll is how many states tell each answer of a logic yes, as ToldBy tells it.
func toldByAll(l impl.Logic) []int {
	out := make([]int, len(l.Not))
	for a := range out {
		out[a] = impl.ToldBy(l, a)
	}
	return out
}
