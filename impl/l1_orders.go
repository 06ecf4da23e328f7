package impl

import "iter"

// MaxAnswers is the maximum number of answers of an order.
const MaxAnswers = 12

// order is a struct around square rows; but for OrderOk, which tests that, they are those of an order.
type order struct {
	under [][]int
}

// orderWith returns the order of rows, and whether they are one that has all of the answers.
func orderWith(under [][]int, answers ...int) (order, bool) {
	if !OrderOk(under) {
		return order{}, false
	}
	for _, a := range answers {
		if a < 0 || a >= len(under) {
			return order{}, false
		}
	}
	return order{under}, true
}

// rowsOk reports whether rows are square and hold nothing but 0 and 1.
func rowsOk(under [][]int) bool {
	for _, row := range under {
		if len(row) != len(under) {
			return false
		}
		for _, n := range row {
			if n != 0 && n != 1 {
				return false
			}
		}
	}
	return true
}

func (o order) below(a int, b int) bool {
	return o.under[a][b] == 1
}

func (o order) belowBoth(c int, a int, b int) bool {
	return o.below(c, a) && o.below(c, b)
}

// pairs yields each two answers, in both orders, and each one with itself.
func (o order) pairs() iter.Seq2[int, int] {
	return func(yield func(int, int) bool) {
		for a := range o.under {
			for b := range o.under {
				if !yield(a, b) {
					return
				}
			}
		}
	}
}

// takesAlong reports whether all that are below one answer are below another one.
func (o order) takesAlong(a int, b int) bool {
	for c := range o.under {
		if o.below(c, a) && !o.below(c, b) {
			return false
		}
	}
	return true
}

func (o order) aboveAllBelowBoth(m int, a int, b int) bool {
	for c := range o.under {
		if o.belowBoth(c, a, b) && !o.below(c, m) {
			return false
		}
	}
	return true
}

func (o order) meet(a int, b int) (int, bool) {
	for m := range o.under {
		if o.belowBoth(m, a, b) && o.aboveAllBelowBoth(m, a, b) {
			return m, true
		}
	}
	return -1, false
}

func (o order) belowAll(a int) bool {
	for b := range o.under {
		if !o.below(a, b) {
			return false
		}
	}
	return true
}

func (o order) least() (int, bool) {
	for a := range o.under {
		if o.belowAll(a) {
			return a, true
		}
	}
	return -1, false
}

func (o order) countBelow(a int) int {
	count := 0
	for _, row := range o.under {
		count += row[a]
	}
	return count
}

func (o order) turned() order {
	rows := make([][]int, len(o.under))
	for a := range rows {
		rows[a] = make([]int, len(o.under))
		for b := range rows[a] {
			rows[a][b] = o.under[b][a]
		}
	}
	return order{rows}
}

// OrderOk reports whether rows tell for each two of 1..MaxAnswers answers, by their numbers from 0 on, whether the first one is below the second one, or is it: 1 or 0; each below itself; no two different ones below each other; and below each answer all that are below one below it.
func OrderOk(under [][]int) bool {
	if len(under) < 1 || len(under) > MaxAnswers || !rowsOk(under) {
		return false
	}
	o := order{under}
	for a, b := range o.pairs() {
		bothWays := o.below(a, b) && o.below(b, a)
		if bothWays != (a == b) {
			return false
		}
		if o.below(a, b) && !o.takesAlong(a, b) {
			return false
		}
	}
	return true
}

// MeetOf returns the answer below two answers of an order (OrderOk) that is above all that are below both, and true; -1 and false if there is none, and for others.
func MeetOf(under [][]int, a int, b int) (int, bool) {
	o, ok := orderWith(under, a, b)
	if !ok {
		return -1, false
	}
	return o.meet(a, b)
}

// JoinOf returns the answer above two answers of an order (OrderOk) that is below all that are above both, and true; -1 and false if there is none, and for others.
func JoinOf(under [][]int, a int, b int) (int, bool) {
	o, ok := orderWith(under, a, b)
	if !ok {
		return -1, false
	}
	return o.turned().meet(a, b)
}

// LatticeOk reports whether each two answers of an order (OrderOk) meet and join (MeetOf, JoinOf); false for others.
func LatticeOk(under [][]int) bool {
	down, ok := orderWith(under)
	if !ok {
		return false
	}
	up := down.turned()
	for a, b := range down.pairs() {
		_, meets := down.meet(a, b)
		_, joins := up.meet(a, b)
		if !meets || !joins {
			return false
		}
	}
	return true
}

// LeastOf returns the answer that is below all answers of an order (OrderOk), and true; -1 and false if there is none, and for others.
func LeastOf(under [][]int) (int, bool) {
	o, ok := orderWith(under)
	if !ok {
		return -1, false
	}
	return o.least()
}

// TurnedOf returns an order (OrderOk) turned round: one answer is below another one if it was above it; nil for others.
func TurnedOf(under [][]int) [][]int {
	o, ok := orderWith(under)
	if !ok {
		return nil
	}
	return o.turned().under
}

// AtomsOf returns the numbers of all answers of an order (OrderOk) that has a least one (LeastOf) that are other ones than it, and above just it and themselves, in ascending order; nil for others.
func AtomsOf(under [][]int) []int {
	o, ok := orderWith(under)
	if !ok {
		return nil
	}
	if _, ok := o.least(); !ok {
		return nil
	}
	var atoms []int
	for a := range under {
		// The least answer is below all: two below an answer are that one and the answer itself.
		if o.countBelow(a) == 2 {
			atoms = append(atoms, a)
		}
	}
	return atoms
}
