package tests

import (
	"math"
	"slices"
	"testing"

	"loop.example/orthologics/impl"
)

// blank returns rows in which each of n answers is below itself alone.
func blank(n int) [][]int {
	rows := make([][]int, n)
	for a := range rows {
		rows[a] = make([]int, n)
		rows[a][a] = 1
	}
	return rows
}

// chain returns n answers, each below all after it.
func chain(n int) [][]int {
	rows := blank(n)
	for a := range rows {
		for b := a; b < n; b++ {
			rows[a][b] = 1
		}
	}
	return rows
}

// diamond returns n answers of which 0 is below all, the last one above all, and no others compare.
func diamond(n int) [][]int {
	rows := blank(n)
	for a := range rows {
		rows[0][a], rows[a][n-1] = 1, 1
	}
	return rows
}

// within returns the order of the sets of so many things.
func within(things int) [][]int {
	rows := blank(1 << things)
	for a := range rows {
		for b := range rows {
			if a&b == a {
				rows[a][b] = 1
			}
		}
	}
	return rows
}

// fork has a least answer and no greatest one, roof a greatest one and no least one.
func fork() [][]int { return [][]int{{1, 1, 1}, {0, 1, 0}, {0, 0, 1}} }
func roof() [][]int { return [][]int{{1, 0, 1}, {0, 1, 1}, {0, 0, 1}} }

// crown has 0 and 1 below 2 and 3: both are below both, and neither of them is the greatest or the least one.
func crown() [][]int {
	return [][]int{{1, 0, 1, 1}, {0, 1, 1, 1}, {0, 0, 1, 0}, {0, 0, 0, 1}}
}

// bounded is the crown with a least answer, 0, and a greatest one, 5; it is no lattice all the same.
func bounded() [][]int {
	return [][]int{
		{1, 1, 1, 1, 1, 1},
		{0, 1, 0, 1, 1, 1},
		{0, 0, 1, 1, 1, 1},
		{0, 0, 0, 1, 0, 1},
		{0, 0, 0, 0, 1, 1},
		{0, 0, 0, 0, 0, 1},
	}
}

// renumbered returns the rows with the answer 5a+3 mod n in the place of a, so that the order does not follow the numbers; n must not be a multiple of 5.
func renumbered(rows [][]int) [][]int {
	n := len(rows)
	to := func(a int) int { return (5*a + 3) % n }
	out := blank(n)
	for a := range rows {
		for b := range rows {
			out[to(a)][to(b)] = rows[a][b]
		}
	}
	return out
}

// everyRows calls f with all rows of n answers in which each is below itself; f must not keep them.
func everyRows(n int, f func(rows [][]int)) {
	rows := blank(n)
	for code := range 1 << (n * (n - 1)) {
		rest := code
		for a := range n {
			for b := range n {
				if a != b {
					rows[a][b] = rest & 1
					rest >>= 1
				}
			}
		}
		f(rows)
	}
}

// downs returns for each answer, as bits, the answers below it; ups those above it.
func downs(rows [][]int) []int {
	out := make([]int, len(rows))
	for a := range rows {
		for b := range rows {
			out[a] |= rows[b][a] << b
		}
	}
	return out
}

func ups(rows [][]int) []int {
	out := make([]int, len(rows))
	for a := range rows {
		for b := range rows {
			out[a] |= rows[a][b] << b
		}
	}
	return out
}

// isOrder tells, from the bits, whether rows in which each answer is below itself are an order.
func isOrder(rows [][]int) bool {
	down := downs(rows)
	for a := range down {
		for b := range down {
			held := down[a]>>b&1 == 1
			if held && down[b]&^down[a] != 0 || held && a != b && down[b]>>a&1 == 1 {
				return false
			}
		}
	}
	return true
}

// at returns the only place of bits in sets, and whether there is one; -1 and false if not.
func at(sets []int, want int) (int, bool) {
	i := slices.Index(sets, want)
	return i, i >= 0
}

// wantMeet: what is below the meeting is just what is below both.
func wantMeet(rows [][]int, a int, b int) (int, bool) {
	down := downs(rows)
	return at(down, down[a]&down[b])
}

func wantJoin(rows [][]int, a int, b int) (int, bool) {
	up := ups(rows)
	return at(up, up[a]&up[b])
}

func wantLeast(rows [][]int) (int, bool) {
	return at(ups(rows), 1<<len(rows)-1)
}

func wantLattice(rows [][]int) bool {
	for a := range rows {
		for b := range rows {
			_, meets := wantMeet(rows, a, b)
			_, joins := wantJoin(rows, a, b)
			if !meets || !joins {
				return false
			}
		}
	}
	return true
}

// wantAtoms are, but for the least answer, those below which there is nothing but that and they themselves.
func wantAtoms(rows [][]int) []int {
	least, ok := wantLeast(rows)
	if !ok {
		return nil
	}
	var out []int
	for a, down := range downs(rows) {
		if a != least && down == 1<<a|1<<least {
			out = append(out, a)
		}
	}
	return out
}

// someOrders are all orders of at most four answers, and some larger ones, up to twelve answers.
func someOrders() [][][]int {
	var out [][][]int
	for n := 1; n <= 4; n++ {
		everyRows(n, func(rows [][]int) {
			if isOrder(rows) {
				out = append(out, copied(rows))
			}
		})
	}
	out = append(out, bounded(), renumbered(bounded()), within(3), renumbered(within(3)))
	out = append(out, chain(7), chain(12), renumbered(chain(12)), diamond(6), diamond(12), renumbered(diamond(12)))
	return append(out, blank(12))
}

func copied(rows [][]int) [][]int {
	var out [][]int
	for _, row := range rows {
		out = append(out, slices.Clone(row))
	}
	return out
}

func sameRows(a [][]int, b [][]int) bool {
	return slices.EqualFunc(a, b, slices.Equal[[]int])
}

// with returns a copy of the rows with one entry changed.
func with(rows [][]int, a int, b int, entry int) [][]int {
	out := copied(rows)
	out[a][b] = entry
	return out
}

// badRows are rows that are no orders, by what is wrong with them.
func badRows() map[string][][]int {
	short, long, none := chain(3), chain(3), chain(3)
	short[1] = short[1][:2]
	long[2] = append(long[2], 1)
	none[0] = nil
	return map[string][][]int{
		"nil":                             nil,
		"no rows":                         {},
		"one empty row":                   {{}},
		"thirteen answers":                chain(13),
		"thirteen answers apart":          blank(13),
		"a short row":                     short,
		"a long row":                      long,
		"a row of nothing":                none,
		"all rows too short":              {{1}, {0}},
		"all rows too long":               {{1, 1, 1}, {0, 1, 1}},
		"an entry of 2":                   with(chain(3), 0, 2, 2),
		"an entry of -1":                  with(chain(3), 2, 0, -1),
		"an entry of 2 on itself":         with(chain(3), 1, 1, 2),
		"a large entry":                   with(chain(3), 0, 1, math.MaxInt),
		"a lone answer with 2":            {{2}},
		"a lone answer not below itself":  {{0}},
		"one not below itself":            with(chain(3), 1, 1, 0),
		"the last one not below itself":   with(chain(12), 11, 11, 0),
		"two below each other":            {{1, 1}, {1, 1}},
		"the last two below each other":   with(chain(12), 11, 10, 1),
		"below one below, not below":      {{1, 1, 0}, {0, 1, 1}, {0, 0, 1}},
		"below one below, twelve answers": with(chain(12), 0, 11, 0),
	}
}

// badNumbers are numbers of no answers of an order of so many.
func badNumbers(answers int) []int {
	return []int{-1, -2, math.MinInt, answers, answers + 1, impl.MaxAnswers + 1, math.MaxInt}
}

// untouched runs f and fails if the rows, or what lies behind them, are others then.
func untouched(t *testing.T, rows [][]int, f func(rows [][]int)) {
	t.Helper()
	full := make([][]int, len(rows), len(rows)+2)
	for a := range rows {
		full[a] = append(make([]int, 0, len(rows[a])+2), rows[a]...)
	}
	f(full)
	behind := full[:cap(full)]
	if !sameRows(full, rows) || behind[len(rows)] != nil || behind[len(rows)+1] != nil {
		t.Fatalf("rows %v became %v", rows, behind)
	}
	for _, row := range full {
		n := len(row)
		if row[:n+2][n] != 0 || row[:n+2][n+1] != 0 {
			t.Fatalf("written behind a row of %v", rows)
		}
	}
}
