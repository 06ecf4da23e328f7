package tests

import (
	"slices"

	"loop.example/orthologics/impl"
)

// together is, for each answer of a logic, the set of those with which it agrees both ways.
func (g agreement) together() []int {
	out := make([]int, len(g.not))
	for a := range out {
		for b := range out {
			if g.with(a, b) && g.with(b, a) {
				out[a] |= 1 << b
			}
		}
	}
	return out
}

// agreeIn tells, of what agrees with each answer, whether all answers of a set of at least one agree.
func agreeIn(together []int, set int) bool {
	for a, with := range together {
		if set>>a&1 == 1 && set&^with != 0 {
			return false
		}
	}
	return set > 0 && set < 1<<len(together)
}

// wantBlocks takes, of all sets of answers, those that agree, and of these the ones that do so no longer with any other answer.
func wantBlocks(l impl.Logic) []int {
	together := agreementOf(l).together()
	var out []int
	for set := range 1 << len(together) {
		if !agreeIn(together, set) {
			continue
		}
		larger := func(a int) bool { return set>>a&1 == 0 && agreeIn(together, set|1<<a) }
		if !slices.ContainsFunc(numbersOf(1<<len(together)-1), larger) {
			out = append(out, set)
		}
	}
	return out
}

// numbersOf returns the numbers of the answers of a set.
func numbersOf(set int) []int {
	var out []int
	for a := 0; set>>a > 0; a++ {
		if set>>a&1 == 1 {
			out = append(out, a)
		}
	}
	return out
}

// inOne tells whether all answers of a set are in one of some blocks.
func inOne(blocks []int, set int) bool {
	return slices.ContainsFunc(blocks, func(block int) bool { return set&^block == 0 })
}

// howMany returns how many of some blocks have an answer.
func howMany(blocks []int, a int) int {
	count := 0
	for _, block := range blocks {
		count += block >> a & 1
	}
	return count
}

// movedTo returns sets of answers as they are told after the answers were put in the order of a row, in ascending order.
func movedTo(blocks []int, row []int) []int {
	var out []int
	for _, block := range blocks {
		moved := 0
		for k, a := range row {
			moved |= (block >> a & 1) << k
		}
		out = append(out, moved)
	}
	slices.Sort(out)
	return out
}

// splitsAll tells, from bits alone, whether each three answers of a logic may be taken apart.
func splitsAll(l impl.Logic) bool {
	g := agreementOf(l)
	all := true
	eachTriple(l, func(a, b, c int) { all = all && g.splits(a, b, c) })
	return all
}

// gluedBlocks are the blocks of two logics after these were glued: those of both, but for no and yes alone if there is more.
func gluedBlocks(l impl.Logic, m impl.Logic) []int {
	last := len(l.Not) + len(m.Not) - 3
	var out []int
	add := func(part impl.Logic, first int) {
		inner := between(part)
		if len(inner) == 0 && last > 1 {
			return
		}
		for _, block := range wantBlocks(part) {
			moved := 1 | 1<<last
			for i, a := range inner {
				moved |= (block >> a & 1) << (first + i)
			}
			out = append(out, moved)
		}
	}
	add(l, 1)
	add(m, len(l.Not)-1)
	slices.Sort(out)
	return slices.Compact(out)
}

// productBlocks are, for each block of one logic and each of another one, the pairs of their answers.
func productBlocks(l impl.Logic, m impl.Logic) []int {
	var out []int
	for _, first := range wantBlocks(l) {
		for _, second := range wantBlocks(m) {
			pairs := 0
			for _, a := range numbersOf(first) {
				pairs |= second << (a * len(m.Not))
			}
			out = append(out, pairs)
		}
	}
	slices.Sort(out)
	return out
}
