package tests

import (
	"slices"
	"testing"

	"loop.example/orthologics/impl"
)

func TestConstantOfOrders(t *testing.T) {
	if impl.MaxAnswers != 12 {
		t.Fatal(impl.MaxAnswers)
	}
}

// Promise 1: what an order is.

func TestOneAnswerIsAnOrder(t *testing.T) {
	if !impl.OrderOk([][]int{{1}}) {
		t.Fatal("one answer alone")
	}
}

func TestOrderOkOfKnownOrders(t *testing.T) {
	for _, rows := range [][][]int{chain(2), chain(12), blank(2), blank(12), fork(), roof(), crown(), bounded(), within(3), diamond(12), renumbered(chain(12))} {
		if !impl.OrderOk(rows) {
			t.Errorf("%v is an order", rows)
		}
	}
}

func TestOrderOkRefuses(t *testing.T) {
	for what, rows := range badRows() {
		if impl.OrderOk(rows) {
			t.Errorf("%s: %v is no order", what, rows)
		}
	}
}

// There are 1, 3, 19, 219 and 4231 orders of 1 to 5 answers with names, and 1, 2, 6, 36 and 380 lattices among them.
func TestAllSmallOrdersAndLattices(t *testing.T) {
	wantOrders, wantLattices := []int{1, 3, 19, 219, 4231}, []int{1, 2, 6, 36, 380}
	for n := 1; n <= 5; n++ {
		orders, lattices := 0, 0
		everyRows(n, func(rows [][]int) {
			ok := impl.OrderOk(rows)
			if ok != isOrder(rows) {
				t.Fatalf("%v: order %v", rows, ok)
			}
			if ok {
				orders++
			}
			if impl.LatticeOk(rows) {
				lattices++
			}
		})
		if orders != wantOrders[n-1] || lattices != wantLattices[n-1] {
			t.Errorf("%d answers: %d orders, %d lattices", n, orders, lattices)
		}
	}
}

func TestTurnedIsAnOrder(t *testing.T) {
	for _, rows := range someOrders() {
		turned := impl.TurnedOf(rows)
		if !impl.OrderOk(rows) || !impl.OrderOk(turned) {
			t.Fatalf("%v turned is %v", rows, turned)
		}
	}
}

// Promise 2: meetings.

func TestMeetOfKnownOrders(t *testing.T) {
	tests := []struct {
		rows       [][]int
		a, b, meet int
		ok         bool
	}{
		{[][]int{{1}}, 0, 0, 0, true},
		{chain(12), 4, 9, 4, true},
		{chain(12), 11, 0, 0, true},
		{fork(), 1, 2, 0, true},
		{roof(), 0, 1, -1, false},
		{roof(), 0, 2, 0, true},
		{crown(), 2, 3, -1, false},
		{bounded(), 3, 4, -1, false},
		{bounded(), 1, 2, 0, true},
		{bounded(), 4, 5, 4, true},
		{diamond(12), 3, 10, 0, true},
		{within(3), 6, 5, 4, true},
		{blank(12), 10, 11, -1, false},
		{blank(12), 11, 11, 11, true},
	}
	for _, x := range tests {
		if meet, ok := impl.MeetOf(x.rows, x.a, x.b); meet != x.meet || ok != x.ok {
			t.Errorf("MeetOf(%v, %d, %d) = %d, %v", x.rows, x.a, x.b, meet, ok)
		}
	}
}

func TestMeetIsGreatestBelowBoth(t *testing.T) {
	for _, rows := range someOrders() {
		for a := range rows {
			for b := range rows {
				meet, ok := impl.MeetOf(rows, a, b)
				want, wantOk := wantMeet(rows, a, b)
				if meet != want || ok != wantOk {
					t.Fatalf("MeetOf(%v, %d, %d) = %d, %v", rows, a, b, meet, ok)
				}
				if back, backOk := impl.MeetOf(rows, b, a); back != meet || backOk != ok {
					t.Fatalf("MeetOf(%v, %d, %d) = %d, %v", rows, b, a, back, backOk)
				}
				if ok {
					checkGreatestBelow(t, rows, a, b, meet)
				}
			}
			if self, ok := impl.MeetOf(rows, a, a); self != a || !ok {
				t.Fatalf("MeetOf(%v, %d, %d) = %d, %v", rows, a, a, self, ok)
			}
		}
	}
}

func checkGreatestBelow(t *testing.T, rows [][]int, a int, b int, meet int) {
	t.Helper()
	if rows[meet][a] != 1 || rows[meet][b] != 1 {
		t.Fatalf("%v: %d is not below %d and %d", rows, meet, a, b)
	}
	for c := range rows {
		if rows[c][a] == 1 && rows[c][b] == 1 && rows[c][meet] != 1 {
			t.Fatalf("%v: %d is below %d and %d, not below %d", rows, c, a, b, meet)
		}
	}
}

// Promise 3: joins.

func TestJoinOfKnownOrders(t *testing.T) {
	tests := []struct {
		rows       [][]int
		a, b, join int
		ok         bool
	}{
		{[][]int{{1}}, 0, 0, 0, true},
		{chain(12), 4, 9, 9, true},
		{chain(12), 11, 0, 11, true},
		{roof(), 0, 1, 2, true},
		{fork(), 1, 2, -1, false},
		{fork(), 0, 2, 2, true},
		{crown(), 0, 1, -1, false},
		{bounded(), 1, 2, -1, false},
		{bounded(), 3, 4, 5, true},
		{bounded(), 0, 1, 1, true},
		{diamond(12), 3, 10, 11, true},
		{within(3), 4, 1, 5, true},
		{blank(12), 10, 11, -1, false},
		{blank(12), 11, 11, 11, true},
	}
	for _, x := range tests {
		if join, ok := impl.JoinOf(x.rows, x.a, x.b); join != x.join || ok != x.ok {
			t.Errorf("JoinOf(%v, %d, %d) = %d, %v", x.rows, x.a, x.b, join, ok)
		}
	}
}

func TestJoinIsMeetTurnedRound(t *testing.T) {
	for _, rows := range someOrders() {
		turned := impl.TurnedOf(rows)
		for a := range rows {
			for b := range rows {
				join, ok := impl.JoinOf(rows, a, b)
				want, wantOk := wantJoin(rows, a, b)
				if join != want || ok != wantOk {
					t.Fatalf("JoinOf(%v, %d, %d) = %d, %v", rows, a, b, join, ok)
				}
				if meet, meets := impl.MeetOf(turned, a, b); meet != join || meets != ok {
					t.Fatalf("%v, %d, %d: join %d, meeting turned round %d", rows, a, b, join, meet)
				}
				if rows[a][b] == 1 && join != b {
					t.Fatalf("%v: %d is below %d, and they join in %d", rows, a, b, join)
				}
			}
		}
	}
}

// Promise 4: lattices.

func TestLatticeOkOfKnownOrders(t *testing.T) {
	for _, rows := range [][][]int{{{1}}, chain(2), chain(12), diamond(12), within(3), renumbered(diamond(12))} {
		if !impl.LatticeOk(rows) {
			t.Errorf("%v is a lattice", rows)
		}
	}
	for _, rows := range [][][]int{blank(2), blank(12), fork(), roof(), crown(), bounded(), renumbered(bounded())} {
		if impl.LatticeOk(rows) {
			t.Errorf("%v is no lattice", rows)
		}
	}
}

func TestLatticesHaveLeastAndGreatest(t *testing.T) {
	for _, rows := range someOrders() {
		turned, ok := impl.TurnedOf(rows), impl.LatticeOk(rows)
		if ok != wantLattice(rows) || ok != impl.LatticeOk(turned) {
			t.Fatalf("%v: lattice %v", rows, ok)
		}
		if ok {
			checkLattice(t, rows, turned)
		}
	}
}

func checkLattice(t *testing.T, rows [][]int, turned [][]int) {
	t.Helper()
	_, least := impl.LeastOf(rows)
	_, greatest := impl.LeastOf(turned)
	if !least || !greatest {
		t.Fatalf("%v: least %v, greatest %v", rows, least, greatest)
	}
	for a := range rows {
		for b := range rows {
			join, joins := impl.JoinOf(rows, a, b)
			meet, meets := impl.MeetOf(rows, a, join)
			if !joins || !meets || meet != a {
				t.Fatalf("%v: %d and its join with %d meet in %d", rows, a, b, meet)
			}
		}
	}
}

// Promise 5: the least answer.

func TestLeastOfKnownOrders(t *testing.T) {
	tests := []struct {
		rows  [][]int
		least int
		ok    bool
	}{
		{[][]int{{1}}, 0, true},
		{chain(12), 0, true},
		{impl.TurnedOf(chain(12)), 11, true},
		{renumbered(chain(12)), 3, true},
		{fork(), 0, true},
		{roof(), -1, false},
		{crown(), -1, false},
		{bounded(), 0, true},
		{blank(2), -1, false},
		{blank(12), -1, false},
	}
	for _, x := range tests {
		if least, ok := impl.LeastOf(x.rows); least != x.least || ok != x.ok {
			t.Errorf("LeastOf(%v) = %d, %v", x.rows, least, ok)
		}
	}
}

func TestLeastIsBelowAll(t *testing.T) {
	for _, rows := range someOrders() {
		least, ok := impl.LeastOf(rows)
		if want, wantOk := wantLeast(rows); least != want || ok != wantOk {
			t.Fatalf("LeastOf(%v) = %d, %v", rows, least, ok)
		}
		if !ok {
			continue
		}
		for a := range rows {
			meet, meets := impl.MeetOf(rows, least, a)
			if rows[least][a] != 1 || !meets || meet != least {
				t.Fatalf("%v: %d and the least answer meet in %d", rows, a, meet)
			}
		}
	}
}

// Promise 6: atoms.

func TestAtomsOfKnownOrders(t *testing.T) {
	tests := []struct {
		rows  [][]int
		atoms []int
	}{
		{[][]int{{1}}, nil},
		{chain(2), []int{1}},
		{chain(12), []int{1}},
		{renumbered(chain(12)), []int{8}},
		{fork(), []int{1, 2}},
		{roof(), nil},
		{crown(), nil},
		{bounded(), []int{1, 2}},
		{within(3), []int{1, 2, 4}},
		{diamond(12), []int{1, 2, 3, 4, 5, 6, 7, 8, 9, 10}},
		{blank(12), nil},
		// 2 has two answers below it, and there is no least one.
		{with(blank(3), 0, 2, 1), nil},
	}
	for _, x := range tests {
		if atoms := impl.AtomsOf(x.rows); !slices.Equal(atoms, x.atoms) {
			t.Errorf("AtomsOf(%v) = %v", x.rows, atoms)
		}
	}
}

func TestAllButTheLeastAreAboveAtoms(t *testing.T) {
	for _, rows := range someOrders() {
		atoms := impl.AtomsOf(rows)
		if !slices.Equal(atoms, wantAtoms(rows)) || !slices.IsSorted(atoms) {
			t.Fatalf("AtomsOf(%v) = %v", rows, atoms)
		}
		least, ok := impl.LeastOf(rows)
		if !ok {
			continue
		}
		for a := range rows {
			above := func(atom int) bool { return rows[atom][a] == 1 }
			if a != least && !slices.ContainsFunc(atoms, above) {
				t.Fatalf("%v: %d is above no atom", rows, a)
			}
		}
		checkAtoms(t, rows, atoms, least)
	}
}

func checkAtoms(t *testing.T, rows [][]int, atoms []int, least int) {
	t.Helper()
	for _, a := range atoms {
		for b := range rows {
			if rows[b][a] == 1 && b != a && b != least {
				t.Fatalf("%v: %d is below the atom %d", rows, b, a)
			}
		}
		for _, b := range atoms {
			if meet, ok := impl.MeetOf(rows, a, b); a != b && (!ok || meet != least) {
				t.Fatalf("%v: the atoms %d and %d meet in %d", rows, a, b, meet)
			}
		}
	}
}

// Promise 53: turned orders.

func TestTurnedOfKnownOrders(t *testing.T) {
	tests := []struct{ rows, turned [][]int }{
		{[][]int{{1}}, [][]int{{1}}},
		{chain(3), [][]int{{1, 0, 0}, {1, 1, 0}, {1, 1, 1}}},
		{fork(), [][]int{{1, 0, 0}, {1, 1, 0}, {1, 0, 1}}},
		{blank(12), blank(12)},
	}
	for _, x := range tests {
		if turned := impl.TurnedOf(x.rows); !sameRows(turned, x.turned) {
			t.Errorf("TurnedOf(%v) = %v", x.rows, turned)
		}
	}
}

func TestTurnedTwiceIsAsBefore(t *testing.T) {
	for _, rows := range someOrders() {
		turned := impl.TurnedOf(rows)
		if len(turned) != len(rows) {
			t.Fatalf("TurnedOf(%v) = %v", rows, turned)
		}
		for a := range rows {
			for b := range rows {
				if turned[a][b] != rows[b][a] {
					t.Fatalf("TurnedOf(%v) = %v", rows, turned)
				}
			}
		}
		if twice := impl.TurnedOf(turned); !sameRows(twice, rows) {
			t.Fatalf("%v turned twice is %v", rows, twice)
		}
	}
}

// The rules for all functions: fixed results for others, and memory of their own.

func TestOrdersRefuseBadRows(t *testing.T) {
	for what, rows := range badRows() {
		if n, ok := impl.MeetOf(rows, 0, 0); n != -1 || ok {
			t.Errorf("%s: MeetOf is %d, %v", what, n, ok)
		}
		if n, ok := impl.JoinOf(rows, 0, 0); n != -1 || ok {
			t.Errorf("%s: JoinOf is %d, %v", what, n, ok)
		}
		if impl.LatticeOk(rows) {
			t.Errorf("%s: LatticeOk", what)
		}
		if n, ok := impl.LeastOf(rows); n != -1 || ok {
			t.Errorf("%s: LeastOf is %d, %v", what, n, ok)
		}
		if turned := impl.TurnedOf(rows); len(turned) != 0 {
			t.Errorf("%s: TurnedOf is %v", what, turned)
		}
		if atoms := impl.AtomsOf(rows); len(atoms) != 0 {
			t.Errorf("%s: AtomsOf is %v", what, atoms)
		}
	}
}

func TestOrdersRefuseBadNumbers(t *testing.T) {
	calls := map[string]func([][]int, int, int) (int, bool){"MeetOf": impl.MeetOf, "JoinOf": impl.JoinOf}
	for name, call := range calls {
		for _, rows := range [][][]int{{{1}}, chain(3), chain(12)} {
			for _, bad := range badNumbers(len(rows)) {
				for _, x := range [][2]int{{bad, 0}, {0, bad}, {bad, bad}} {
					if n, ok := call(rows, x[0], x[1]); n != -1 || ok {
						t.Errorf("%s of %d answers, %v: %d, %v", name, len(rows), x, n, ok)
					}
				}
			}
		}
	}
}

func TestOrdersAreNotWrittenTo(t *testing.T) {
	orders := append(someOrders(), crown(), chain(13))
	for _, rows := range append(orders, with(chain(3), 1, 1, 2)) {
		untouched(t, rows, func(rows [][]int) {
			impl.OrderOk(rows)
			impl.MeetOf(rows, 0, len(rows)-1)
			impl.JoinOf(rows, 0, len(rows)-1)
			impl.LatticeOk(rows)
			impl.LeastOf(rows)
			impl.AtomsOf(rows)
			turned := impl.TurnedOf(rows)
			for a := range turned {
				turned[a][0] = 7
				turned[a] = append(turned[a], 7)
			}
		})
	}
}

func TestTurnedRowsAreApart(t *testing.T) {
	for _, rows := range [][][]int{{{1}}, blank(5), chain(12)} {
		turned := impl.TurnedOf(rows)
		want := copied(turned)
		for a := range turned {
			// Spare capacity of one row must not be that of the next one.
			_ = append(turned[a], 7, 7, 7)
			if !sameRows(turned, want) {
				t.Fatalf("rows of %v share memory", want)
			}
			turned[a] = []int{}
			want[a] = []int{}
		}
	}
}
