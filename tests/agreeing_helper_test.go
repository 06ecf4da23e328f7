package tests

import (
	"slices"
	"testing"

	"loop.example/orthologics/impl"
)

// agreement tells from bits alone what agrees: down has for each answer the answers below it, so that no meeting is looked for.
type agreement struct {
	down []int
	not  []int
}

func agreementOf(l impl.Logic) agreement { return agreement{downs(l.Under), l.Not} }

// leastAbove returns the answer above all answers of a set that is below all such ones.
func (g agreement) leastAbove(set int) int {
	common := 1<<len(g.down) - 1
	for _, down := range g.down {
		if set&^down == 0 {
			common &= down
		}
	}
	return slices.Index(g.down, common)
}

// decided are all answers that are below an answer or below its opposite.
func (g agreement) decided(a int) int { return g.down[a] | g.down[g.not[a]] }

func (g agreement) with(a int, b int) bool {
	return g.leastAbove(g.down[a]&g.decided(b)) == a
}

func (g agreement) apart(a int, b int) int {
	return g.leastAbove(g.decided(a) & g.decided(b))
}

func (g agreement) splits(a int, b int, c int) bool {
	either := g.down[b] | g.down[c]
	return g.down[a]&g.down[g.leastAbove(either)] == g.down[g.leastAbove(g.down[a]&either)]
}

// oneWay returns all pairs of which the first answer agrees with the second one, and not the other way round.
func (g agreement) oneWay() [][2]int {
	var out [][2]int
	for a := range g.down {
		for b := range g.down {
			if g.with(a, b) && !g.with(b, a) {
				out = append(out, [2]int{a, b})
			}
		}
	}
	return out
}

func (g agreement) centre() []int {
	var out []int
	for a := range g.down {
		central := true
		for b := range g.down {
			central = central && g.with(a, b) && g.with(b, a)
		}
		if central {
			out = append(out, a)
		}
	}
	return out
}

// withRows are, for each answer of a logic, those with which it agrees, as WithOk tells it.
func withRows(l impl.Logic) [][]bool {
	out := make([][]bool, len(l.Not))
	for a := range out {
		out[a] = make([]bool, len(l.Not))
		for b := range out[a] {
			out[a][b] = impl.WithOk(l, a, b)
		}
	}
	return out
}

// setOf is the sum of 2 to the power of each of the numbers.
func setOf(numbers []int) int {
	set := 0
	for _, a := range numbers {
		set |= 1 << a
	}
	return set
}

// eachPair and eachTriple call f with each two or three answers of a logic, the same ones among them.
func eachPair(l impl.Logic, f func(a, b int)) {
	everyList(2, 0, len(l.Not)-1, func(list []int) { f(list[0], list[1]) })
}

func eachTriple(l impl.Logic, f func(a, b, c int)) {
	everyList(3, 0, len(l.Not)-1, func(list []int) { f(list[0], list[1], list[2]) })
}

// someOut calls f with rows of so many numbers of which at least one is no answer of the logic, in each place and in several ones at once, and with answers, no and yes among them, in the others.
func someOut(l impl.Logic, places int, f func(numbers []int)) {
	for _, bad := range badNumbers(len(l.Not)) {
		for good := range l.Not {
			everyList(places, 0, 1, func(out []int) {
				numbers := slices.Repeat([]int{good}, places)
				for k := range out {
					if out[k] == 1 {
						numbers[k] = bad
					}
				}
				if slices.Contains(out, 1) {
					f(numbers)
				}
			})
		}
	}
}

// newList fails if a list that a function makes of a logic shares memory with the logic or with what the function returns again.
func newList(t *testing.T, what string, l impl.Logic, f func(l impl.Logic) []int) {
	t.Helper()
	rows, not := copied(l.Under), slices.Clone(l.Not)
	first, second := f(l), f(l)
	kept := slices.Clone(second)
	full := first[:cap(first)]
	for i := range full {
		full[i] = 99
	}
	if !slices.Equal(second, kept) || !slices.Equal(f(l), kept) {
		t.Fatalf("%s(%v): two results share memory", what, l)
	}
	if !sameRows(l.Under, rows) || !slices.Equal(l.Not, not) {
		t.Fatalf("%s(%v) shares memory with the logic", what, l)
	}
}
