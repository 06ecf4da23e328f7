package tests

import (
	"math"
	"slices"
	"testing"

	"loop.example/orthologics/impl"
)

func sameLogic(l impl.Logic, m impl.Logic) bool {
	return sameRows(l.Under, m.Under) && slices.Equal(l.Not, m.Not)
}

func nothing(l impl.Logic) bool { return len(l.Under) == 0 && len(l.Not) == 0 }

// boundsOf returns the numbers of the answers of a logic below and above which are all.
func boundsOf(l impl.Logic) (int, int) {
	no, _ := wantLeast(l.Under)
	return no, l.Not[no]
}

// between returns the numbers of all answers of a logic but no and yes.
func between(l impl.Logic) []int {
	no, yes := boundsOf(l)
	var out []int
	for a := range l.Not {
		if a != no && a != yes {
			out = append(out, a)
		}
	}
	return out
}

// gluedTo is one logic glued to another one, both of at least two answers: each part is written into the rows of a star for itself.
func gluedTo(l impl.Logic, m impl.Logic) impl.Logic {
	n := len(l.Not) + len(m.Not) - 2
	out := impl.Logic{Under: diamond(n), Not: backwards(n)}
	write := func(part impl.Logic, first int) {
		inner := between(part)
		for i, a := range inner {
			out.Not[first+i] = first + slices.Index(inner, part.Not[a])
			for j, b := range inner {
				out.Under[first+i][first+j] = part.Under[a][b]
			}
		}
	}
	write(l, 1)
	write(m, len(l.Not)-1)
	return out
}

// inOrder returns the logic with its answers in the order of the numbers in a row: each one is told its new number first.
func inOrder(l impl.Logic, row []int) impl.Logic {
	to := make([]int, len(row))
	for k, a := range row {
		to[a] = k
	}
	out := impl.Logic{Under: blank(len(row)), Not: make([]int, len(row))}
	for a := range row {
		out.Not[to[a]] = to[l.Not[a]]
		for b := range row {
			out.Under[to[a]][to[b]] = l.Under[a][b]
		}
	}
	return out
}

// fewLogics are some logics of each number of answers that there is, and some of them with no and yes elsewhere.
func fewLogics() []impl.Logic {
	out := []impl.Logic{alone(), star(2), swapped(), star(4), shuffled(star(4)), star(6), shuffled(star(6)), ring(6), shuffled(ring(6)), sets(3), shuffled(sets(3)), ring(8)}
	for _, l := range []impl.Logic{pairsOf(star(2), star(4)), gluedTo(ring(6), star(4)), gluedTo(ring(6), sets(3)), pairsOf(star(2), ring(6)), star(12)} {
		out = append(out, l, inOrder(l, backwards(len(l.Not))), inOrder(l, mixed(len(l.Not))))
	}
	return out
}

// eachTwo calls f with each two of a few logics, in both orders, and with what a function makes of them, if it can.
func eachTwo(makes func(l impl.Logic, m impl.Logic) (impl.Logic, bool), f func(l, m, made impl.Logic)) {
	few := fewLogics()
	for _, l := range few {
		for _, m := range few {
			if made, ok := makes(l, m); ok {
				f(l, m, made)
			}
		}
	}
}

// toldAsParts fails if glued logics or products are told to be so though a part of theirs is not, or are not though both are.
func toldAsParts(t *testing.T, told func(l impl.Logic) bool) {
	t.Helper()
	for what, makes := range map[string]func(impl.Logic, impl.Logic) (impl.Logic, bool){"glued": impl.GluedOf, "a product": impl.TimesOf} {
		eachTwo(makes, func(l, m, made impl.Logic) {
			if told(made) != (told(l) && told(m)) {
				t.Fatalf("%v and %v, %s", l, m, what)
			}
		})
	}
}

// mixed returns the numbers of n answers in an order that has its first and last numbers inside, and that turned back is another one, for n above 4.
func mixed(n int) []int {
	out := []int{}
	for a := 1; a < n; a += 2 {
		out = append(out, a)
	}
	for a := 0; a < n; a += 2 {
		out = append(out, a)
	}
	return out
}

// ordersOf returns rows of the numbers of n answers, each once: all of them for at most 4, and some for more.
func ordersOf(n int) [][]int {
	var out [][]int
	if n <= 4 {
		everyList(n, 0, n-1, func(list []int) {
			if len(slices.Compact(slices.Sorted(slices.Values(list)))) == n {
				out = append(out, slices.Clone(list))
			}
		})
		return out
	}
	straight := slices.Clone(backwards(n))
	slices.Reverse(straight)
	round := append(slices.Clone(straight[n-3:]), straight[:n-3]...)
	exchanged := slices.Clone(straight)
	exchanged[0], exchanged[2] = 2, 0
	return append(out, straight, backwards(n), mixed(n), round, exchanged)
}

// badRowsOf are rows that are not all of the numbers of so many answers, at least two, each once.
func badRowsOf(answers int) map[string][]int {
	row := backwards(answers)
	put := func(place int, number int) []int {
		out := slices.Clone(row)
		out[place] = number
		return out
	}
	return map[string][]int{
		"nil":                      nil,
		"an empty row":             {},
		"without the last number":  row[1:],
		"without the first number": row[:answers-1],
		"longer by a new number":   append([]int{answers}, row...),
		"longer by a number twice": append(slices.Clone(row), 0),
		"a row twice":              append(slices.Clone(row), row...),
		"the first number twice":   put(0, 0),
		"the last number twice":    put(answers-1, answers-1),
		"one number alone":         make([]int, answers),
		"a number past the end":    put(0, answers),
		"far past the end":         put(0, math.MaxInt),
		"a number below 0":         put(answers-1, -1),
		"far below 0":              put(answers-1, math.MinInt),
		"numbers from 1 on":        append([]int{answers}, row[:answers-1]...),
	}
}

func listsOf(l impl.Logic) [][]int { return append([][]int{l.Not}, l.Under...) }

// newMemory fails if a list of a logic that was made shares memory, up to its capacity, with another one of it or with one of the others; or if its rows do.
func newMemory(t *testing.T, what string, made impl.Logic, others ...impl.Logic) {
	t.Helper()
	lists := listsOf(made)
	for _, l := range others {
		lists = append(lists, listsOf(l)...)
	}
	before := copied(lists)
	for k := range listsOf(made) {
		full := lists[k][:cap(lists[k])]
		kept := slices.Clone(full)
		for i := range full {
			full[i] = 99
		}
		for j := range lists {
			if j != k && !slices.Equal(lists[j], before[j]) {
				t.Fatalf("%s: the lists %d and %d share memory", what, k, j)
			}
		}
		copy(full, kept)
	}
	rows := made.Under[:cap(made.Under)]
	kept := slices.Clone(rows)
	clear(rows)
	for _, l := range others {
		if len(l.Under[0]) == 0 {
			t.Fatalf("%s: the rows share memory", what)
		}
	}
	copy(rows, kept)
}
