package tests

import (
	"math"
	"math/bits"
	"slices"
	"testing"

	"loop.example/orthologics/impl"
)

// backwards returns the numbers of n answers, the last one first.
func backwards(n int) []int {
	not := make([]int, n)
	for a := range not {
		not[a] = n - 1 - a
	}
	return not
}

// alone is the logic of one answer; swapped is that of no and yes, with yes first.
func alone() impl.Logic { return impl.Logic{Under: [][]int{{1}}, Not: []int{0}} }
func swapped() impl.Logic {
	return impl.Logic{Under: [][]int{{1, 0}, {1, 1}}, Not: []int{1, 0}}
}

// star is a logic of n answers, an even number, of which all but no and yes do not compare.
func star(n int) impl.Logic { return impl.Logic{Under: diamond(n), Not: backwards(n)} }

// sets is the logic of the sets of so many things.
func sets(things int) impl.Logic {
	return impl.Logic{Under: within(things), Not: backwards(1 << things)}
}

// ring is a logic of n answers, an even number, with two ways from no to yes that are equally long.
func ring(n int) impl.Logic {
	rows := diamond(n)
	for a := 1; a < n-1; a++ {
		for b := a + 1; b < n-1; b++ {
			if (a < n/2) == (b < n/2) {
				rows[a][b] = 1
			}
		}
	}
	return impl.Logic{Under: rows, Not: backwards(n)}
}

// pairsOf is the logic of the pairs of an answer of one logic and one of another one.
func pairsOf(l impl.Logic, m impl.Logic) impl.Logic {
	width := len(m.Not)
	rows := blank(len(l.Not) * width)
	not := make([]int, len(rows))
	for a := range rows {
		not[a] = l.Not[a/width]*width + m.Not[a%width]
		for b := range rows {
			rows[a][b] = l.Under[a/width][b/width] * m.Under[a%width][b%width]
		}
	}
	return impl.Logic{Under: rows, Not: not}
}

// shuffled is the logic with its answers renumbered as the rows are in renumbered.
func shuffled(l impl.Logic) impl.Logic {
	n := len(l.Not)
	not := make([]int, n)
	for a, opposite := range l.Not {
		not[(5*a+3)%n] = (5*opposite + 3) % n
	}
	return impl.Logic{Under: renumbered(l.Under), Not: not}
}

// mirrored calls f with all rows of n answers, an even number, of which 0 is below all, the last one above all, and whose opposites, backwards, are turned round; f must not keep them.
func mirrored(n int, f func(rows [][]int)) {
	var free [][2]int
	for a := 1; a < n-1; a++ {
		for b := 1; b < n-1; b++ {
			// Of a pair and that of its opposites turned round one is enough: both are set at once.
			if a != b && a+b < n-1 {
				free = append(free, [2]int{a, b})
			}
		}
	}
	for code := range 1 << len(free) {
		rows := diamond(n)
		for k, x := range free {
			rows[x[0]][x[1]] = code >> k & 1
			rows[n-1-x[1]][n-1-x[0]] = code >> k & 1
		}
		f(rows)
	}
}

// everyList calls f with all lists of n numbers in least..most; f must not keep them.
func everyList(n int, least int, most int, f func(list []int)) {
	list := make([]int, n)
	var fill func(k int)
	fill = func(k int) {
		if k == n {
			f(list)
			return
		}
		for list[k] = least; list[k] <= most; list[k]++ {
			fill(k + 1)
		}
	}
	fill(0)
}

// imageOf returns, as bits, the opposites of answers that are told as bits.
func imageOf(not []int, set int) int {
	out := 0
	for a, opposite := range not {
		out |= (set >> a & 1) << opposite
	}
	return out
}

// turnsBack tells whether each number in a list is a place of it, at which stands the place of the number.
func turnsBack(not []int) bool {
	for a, opposite := range not {
		if opposite < 0 || opposite >= len(not) || not[opposite] != a {
			return false
		}
	}
	return true
}

// wantLogic tells, from the bits, whether rows in which each answer is below itself are a lattice, and a list is that of its opposites.
func wantLogic(rows [][]int, not []int) bool {
	if !isOrder(rows) || !wantLattice(rows) || len(not) != len(rows) || !turnsBack(not) {
		return false
	}
	down, up := downs(rows), ups(rows)
	for a, opposite := range not {
		// What is below the answer has just those opposites that are above its opposite; and just no is below both.
		if imageOf(not, down[a]) != up[opposite] || bits.OnesCount(uint(down[a]&down[opposite])) != 1 {
			return false
		}
	}
	return true
}

// someLogics are all logics of at most four answers, all of six and of eight whose answers stand against their opposites backwards, and larger ones, up to twelve answers; some of them renumbered.
func someLogics() []impl.Logic {
	out := []impl.Logic{alone(), star(2), swapped(), star(4), shuffled(star(4))}
	for _, n := range []int{6, 8} {
		mirrored(n, func(rows [][]int) {
			l := impl.Logic{Under: copied(rows), Not: backwards(n)}
			if wantLogic(l.Under, l.Not) {
				out = append(out, l, shuffled(l))
			}
		})
	}
	out = append(out, star(10), ring(10))
	for _, l := range []impl.Logic{star(12), ring(12), pairsOf(star(2), star(6)), pairsOf(ring(6), star(2))} {
		out = append(out, l, shuffled(l))
	}
	return out
}

// openLogic has ten answers with opposites as they should be, but 1 and 2 have 3 and 4 above them, and no join: it is no lattice.
func openLogic() impl.Logic {
	rows := diamond(10)
	for _, low := range []int{1, 2} {
		for _, high := range []int{3, 4} {
			rows[low][high], rows[9-high][9-low] = 1, 1
		}
	}
	return impl.Logic{Under: rows, Not: backwards(10)}
}

// otherNot returns the logic with one of its opposites changed.
func otherNot(l impl.Logic, a int, opposite int) impl.Logic {
	not := slices.Clone(l.Not)
	not[a] = opposite
	return impl.Logic{Under: copied(l.Under), Not: not}
}

// badLogics are no logics, by what is wrong with them.
func badLogics() map[string]impl.Logic {
	return map[string]impl.Logic{
		"nothing":                        {},
		"nothing, with empty lists":      {Under: [][]int{}, Not: []int{}},
		"opposites without answers":      {Not: []int{0}},
		"thirteen answers":               {Under: diamond(13), Not: backwards(13)},
		"fourteen answers":               star(14),
		"sixteen answers":                sets(4),
		"no opposites":                   {Under: within(2)},
		"one alone without an opposite":  {Under: [][]int{{1}}},
		"an opposite too few":            {Under: within(2), Not: []int{3, 2, 1}},
		"an opposite too many":           {Under: within(2), Not: []int{3, 2, 1, 0, 4}},
		"one alone, two opposites":       {Under: [][]int{{1}}, Not: []int{0, 0}},
		"an opposite past the end":       otherNot(star(4), 3, 4),
		"an opposite far past the end":   otherNot(star(4), 0, math.MaxInt),
		"an opposite below 0":            otherNot(star(4), 3, -1),
		"an opposite far below 0":        otherNot(star(12), 0, math.MinInt),
		"one alone, past the end":        otherNot(alone(), 0, 1),
		"one alone, below 0":             otherNot(alone(), 0, -1),
		"the last opposite past the end": otherNot(star(12), 11, 12),
		"two lattices apart":             {Under: blank(2), Not: []int{1, 0}},
		"no joins":                       openLogic(),
		"a fork":                         {Under: fork(), Not: []int{0, 2, 1}},
		"a roof":                         {Under: roof(), Not: []int{1, 0, 2}},
		"rows that are no order":         {Under: with(within(2), 3, 0, 1), Not: backwards(4)},
		"an entry of 2":                  {Under: with(within(2), 0, 3, 2), Not: backwards(4)},
		// Three answers between no and yes, each the opposite of the one before it.
		"opposites in a round":        {Under: diamond(5), Not: []int{4, 2, 3, 1, 0}},
		"opposites in a large round":  {Under: diamond(12), Not: []int{11, 2, 3, 4, 5, 6, 7, 8, 9, 10, 1, 0}},
		"one opposite of two":         {Under: diamond(5), Not: []int{4, 2, 1, 1, 0}},
		"opposites not turned round":  {Under: ring(6).Under, Not: []int{5, 3, 4, 1, 2, 0}},
		"one pair not turned round":   {Under: ring(8).Under, Not: []int{7, 5, 6, 4, 3, 1, 2, 0}},
		"opposites of sets as others": {Under: within(3), Not: []int{7, 6, 3, 2, 5, 4, 1, 0}},
		"no and yes their own":        {Under: diamond(4), Not: []int{0, 2, 1, 3}},
		"all their own":               {Under: diamond(4), Not: []int{0, 1, 2, 3}},
		"one its own":                 {Under: diamond(5), Not: []int{4, 3, 2, 1, 0}},
		"two their own":               {Under: within(2), Not: []int{3, 1, 2, 0}},
		"yes its own":                 {Under: chain(2), Not: []int{0, 1}},
		"three in a row":              {Under: chain(3), Not: backwards(3)},
		"four in a row":               {Under: chain(4), Not: backwards(4)},
		"twelve in a row":             {Under: chain(12), Not: backwards(12)},
	}
}

// untouchedLogic runs f and fails if the logic, or what lies behind its lists, is another one then.
func untouchedLogic(t *testing.T, l impl.Logic, f func(l impl.Logic)) {
	t.Helper()
	full := append(make([]int, 0, len(l.Not)+2), l.Not...)
	untouched(t, l.Under, func(rows [][]int) { f(impl.Logic{Under: rows, Not: full}) })
	behind := full[:cap(full)]
	if !slices.Equal(full, l.Not) || behind[len(full)] != 0 || behind[len(full)+1] != 0 {
		t.Fatalf("opposites %v became %v", l.Not, behind)
	}
}

// untouchedLogics runs f with each of the logics and with each one that is none, and fails if it is written to.
func untouchedLogics(t *testing.T, logics []impl.Logic, f func(l impl.Logic)) {
	t.Helper()
	for _, l := range badLogics() {
		logics = append(logics, l)
	}
	for _, l := range logics {
		untouchedLogic(t, l, f)
	}
}
