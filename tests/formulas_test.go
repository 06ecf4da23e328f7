package tests

import (
	"slices"
	"testing"

	"loop.example/orthologics/impl"
)

// Promise 44: what a formula is.

func TestFormulaOkOfKnownTexts(t *testing.T) {
	for _, s := range ordinary() {
		if !impl.FormulaOk(s) {
			t.Errorf("FormulaOk(%q) is false", s)
		}
	}
	for what, s := range noFormulas() {
		if impl.FormulaOk(s) {
			t.Errorf("%s: FormulaOk(%q)", what, s)
		}
	}
}

func TestFormulaOkOfAllShortTexts(t *testing.T) {
	count := map[int]int{}
	try := func(s string) {
		ok := impl.FormulaOk(s)
		if ok != isFormula(s) {
			t.Fatalf("FormulaOk(%q) = %v", s, ok)
		}
		if ok {
			count[len(s)]++
		}
	}
	for size := range 6 {
		eachText("abc01!(&|) d", size, try)
	}
	// The numbers of formulas of 0 to 5 bytes.
	for size, want := range []int{0, 5, 5, 5, 5, 55} {
		if count[size] != want {
			t.Errorf("%d formulas of %d bytes", count[size], size)
		}
	}
	for size := 6; size <= 8; size++ {
		eachText("a!(&)", size, try)
	}
	for sign := range 256 {
		try(string([]byte{byte(sign)}))
		for other := range 256 {
			try(string([]byte{byte(sign), byte(other)}))
		}
	}
}

func TestFormulaOkOfAllShortFormulas(t *testing.T) {
	formulas := shortFormulas(9)
	for _, s := range formulas {
		if !impl.FormulaOk(s) {
			t.Fatalf("FormulaOk(%q) is false", s)
		}
	}
	if len(formulas) != 2795 {
		t.Errorf("%d formulas of at most 9 bytes", len(formulas))
	}
}

func TestFormulaOkWithOneByteChanged(t *testing.T) {
	for _, s := range ordinary() {
		eachChange(s, func(changed string) {
			if ok := impl.FormulaOk(changed); ok != isFormula(changed) {
				t.Fatalf("FormulaOk(%q) = %v", changed, ok)
			}
		})
	}
}

func TestOppositesOfFormulasAreFormulas(t *testing.T) {
	for _, s := range slices.Concat(ordinary(), shortFormulas(7)) {
		if impl.FormulaOk("!"+s) != (len(s) < impl.MaxFormula) {
			t.Fatalf("FormulaOk(%q)", "!"+s)
		}
	}
	for what, s := range noFormulas() {
		if impl.FormulaOk("!" + s) {
			t.Errorf("%s: FormulaOk(%q)", what, "!"+s)
		}
	}
	for size := range 5 {
		eachText("ab01!(&|) d", size, func(s string) {
			if impl.FormulaOk("!"+s) != impl.FormulaOk(s) {
				t.Fatalf("FormulaOk(%q) = %v", s, impl.FormulaOk(s))
			}
		})
	}
}

func TestFormulasHaveAtMostMaxFormulaBytes(t *testing.T) {
	for _, s := range longFormulas() {
		if len(s) != impl.MaxFormula || !impl.FormulaOk(s) {
			t.Errorf("%d bytes: FormulaOk(%q) is %v", len(s), s, impl.FormulaOk(s))
		}
	}
	for leaves := 1; leaves <= 20; leaves++ {
		for _, s := range []string{leaningLeft(leaves), leaningRight(leaves), balanced(0, leaves)} {
			for marks := range 65 {
				long := marked(marks, s)
				if ok := impl.FormulaOk(long); ok != (len(long) <= 60) {
					t.Fatalf("%d bytes: FormulaOk(%q) = %v", len(long), long, ok)
				}
			}
		}
	}
}

// Promise 45: values are answers.

func TestValueOfKnownFormulas(t *testing.T) {
	glued := gluedTo(sets(2), sets(2))
	tests := []struct {
		what     string
		l        impl.Logic
		s        string
		standFor [3]int
		value    int
	}{
		{"the first letter", glued, "a", [3]int{1, 3, 4}, 1},
		{"the second letter", glued, "b", [3]int{1, 3, 4}, 3},
		{"the third letter", glued, "c", [3]int{1, 3, 4}, 4},
		{"no", glued, "0", [3]int{1, 3, 4}, 0},
		{"yes", glued, "1", [3]int{1, 3, 4}, 5},
		{"the opposite of no", glued, "!0", [3]int{1, 3, 4}, 5},
		{"the opposite of yes", glued, "!1", [3]int{1, 3, 4}, 0},
		{"no, which is last", swapped(), "0", [3]int{0, 0, 0}, 1},
		{"yes, which is first", swapped(), "1", [3]int{1, 1, 1}, 0},
		{"an opposite", glued, "!a", [3]int{1, 3, 4}, 2},
		{"the opposite of an opposite", glued, "!!a", [3]int{1, 3, 4}, 1},
		{"59 marks", glued, marked(59, "c"), [3]int{1, 3, 4}, 3},
		{"58 marks", glued, marked(58, "c"), [3]int{1, 3, 4}, 4},
		{"a meeting", sets(3), "(a&b)", [3]int{3, 6, 0}, 2},
		{"a join", sets(3), "(a|b)", [3]int{1, 4, 0}, 5},
		{"a meeting across", glued, "(a&b)", [3]int{1, 3, 0}, 0},
		{"a join across", glued, "(a|b)", [3]int{1, 3, 0}, 5},
		{"a meeting with yes", glued, "(a&1)", [3]int{1, 3, 0}, 1},
		{"a join with no", glued, "(0|b)", [3]int{1, 3, 0}, 3},
		{"the opposite of a meeting", sets(3), "!(a&b)", [3]int{3, 6, 0}, 5},
		{"a meeting with an opposite first", sets(3), "(!a&b)", [3]int{3, 6, 0}, 4},
		{"a meeting with an opposite second", sets(3), "(a&!b)", [3]int{3, 6, 0}, 1},
		{"a join with an opposite", glued, "(a|!b)", [3]int{1, 3, 0}, 5},
		{"a meeting ahead of a join", sets(3), "((a&b)|c)", [3]int{4, 6, 1}, 5},
		{"a join ahead of a meeting", sets(3), "(a&(b|c))", [3]int{4, 6, 1}, 4},
		{"a join in a meeting", glued, "(a&(b|c))", [3]int{1, 3, 4}, 1},
		{"a join of meetings", glued, "((a&b)|(a&c))", [3]int{1, 3, 4}, 0},
		{"what an answer and another one make", ring(6), "(a|b)", [3]int{1, 2, 0}, 2},
		{"the same where the law is broken", ring(6), lawLonger, [3]int{1, 2, 0}, 1},
		{"the same where it is kept", sets(3), lawLonger, [3]int{1, 3, 0}, 3},
		{"a letter in the logic of one answer", alone(), "a", [3]int{0, 0, 0}, 0},
		{"yes in the logic of one answer", alone(), "1", [3]int{0, 0, 0}, 0},
		{"four meetings in one block", sets(2), fourMeetings, [3]int{1, 2, 0}, 3},
		{"four meetings across", glued, fourMeetings, [3]int{1, 3, 0}, 0},
		{"twelve answers", star(12), "(a|(b&c))", [3]int{9, 10, 2}, 9},
		{"twelve answers, with yes", star(12), "((a|b)&c)", [3]int{9, 10, 2}, 2},
		{"the last of twelve", star(12), "(a&!0)", [3]int{11, 0, 0}, 11},
	}
	for _, x := range tests {
		if value := impl.ValueOf(x.l, x.s, x.standFor[0], x.standFor[1], x.standFor[2]); value != x.value {
			t.Errorf("%s: ValueOf(%v, %q, %v) = %d", x.what, x.l, x.s, x.standFor, value)
		}
	}
}

func TestValueOfAllShortFormulas(t *testing.T) {
	formulas := shortFormulas(7)
	for _, l := range []impl.Logic{alone(), swapped(), star(4), shuffled(star(4)), shuffled(ring(6))} {
		for _, s := range formulas {
			sameValues(t, l, s, valuesOf(l, s))
		}
	}
}

func TestValueOfOrdinaryFormulas(t *testing.T) {
	logics := fewLogics()
	for _, s := range ordinary() {
		for _, l := range logics {
			if len(l.Not) <= 8 {
				sameValues(t, l, s, valuesOf(l, s))
			}
		}
	}
	for _, l := range []impl.Logic{shuffled(gluedTo(sets(3), ring(6))), inOrder(crowded(), backwards(12)), pasted()} {
		for _, s := range []string{fourMeetings, lawLonger, splitParts, "(b&(!b|(a&(!a|c))))"} {
			sameValues(t, l, s, valuesOf(l, s))
		}
	}
}

func TestValuesOfOppositesAreOpposites(t *testing.T) {
	for _, l := range []impl.Logic{alone(), swapped(), shuffled(star(4)), sets(3), shuffled(ring(6)), gluedTo(sets(2), sets(2))} {
		for _, s := range ordinary() {
			eachPair(l, func(a, b int) {
				value := impl.ValueOf(l, s, a, b, l.Not[a])
				if value < 0 || value >= len(l.Not) {
					t.Fatalf("ValueOf(%v, %q, %d, %d, %d) = %d", l, s, a, b, l.Not[a], value)
				}
				opposite := impl.ValueOf(l, "!"+s, a, b, l.Not[a])
				if len(s) < 60 && opposite != impl.NotOf(l, value) || len(s) == 60 && opposite != -1 {
					t.Fatalf("%q in %v for %d, %d and %d is %d, and its opposite %d", s, l, a, b, l.Not[a], value, opposite)
				}
			})
		}
	}
}

func TestLettersAloneAreWhatTheyStandFor(t *testing.T) {
	for _, l := range fewLogics() {
		no, yes := boundsOf(l)
		eachTriple(l, func(a, b, c int) {
			for s, want := range map[string]int{"a": a, "b": b, "c": c, "0": no, "1": yes} {
				if value := impl.ValueOf(l, s, a, b, c); value != want {
					t.Fatalf("ValueOf(%v, %q, %d, %d, %d) = %d", l, s, a, b, c, value)
				}
			}
		})
	}
}

// What is made of answers by functions of the chapters before, formulas are.
func TestFormulasAreWhatOtherFunctionsMake(t *testing.T) {
	for _, l := range fewLogics() {
		eachTriple(l, func(a, b, c int) {
			for s, made := range map[string]int{
				"(a&b)":               impl.AndOf(l, a, b),
				"(a|b)":               impl.OrOf(l, a, b),
				"(a&(!a|b))":          impl.ProjectOf(l, a, b),
				"(!a|(a&b))":          impl.HookOf(l, a, b),
				"(b&(!b|(a&(!a|c))))": impl.BehindOf(l, a, b, c),
				fourMeetings:          impl.ApartFrom(l, a, b),
			} {
				if value := impl.ValueOf(l, s, a, b, c); value != made {
					t.Fatalf("ValueOf(%v, %q, %d, %d, %d) = %d; want %d", l, s, a, b, c, value, made)
				}
			}
		})
	}
}

func TestValuesDoNotDependOnNames(t *testing.T) {
	for _, s := range mixedFormulas() {
		sameByNames(t, s, withLetters(s))
	}
}

func TestValuesOfPairsArePairsOfValues(t *testing.T) {
	for _, s := range mixedFormulas() {
		sameByParts(t, s, withLetters(s))
	}
}

func TestGluedLogicsHaveTheValuesOfBoth(t *testing.T) {
	for _, s := range mixedFormulas() {
		eachTwo(impl.GluedOf, func(l, m, glued impl.Logic) {
			last := len(glued.Not) - 1
			sameMoved(t, s, withLetters(s), l, glued, gluedNumbers(l, 1, last))
			sameMoved(t, s, withLetters(s), m, glued, gluedNumbers(m, len(l.Not)-1, last))
		})
	}
}

// Promise 46: what always holds.

func TestAlwaysOkOfKnownFormulas(t *testing.T) {
	tests := []struct {
		s      string
		logics []told
	}{
		// Of one answer all is yes.
		{"a", []told{{"one answer", alone(), true}, {"no and yes", star(2), false}, {"yes and no", swapped(), false}, {"twelve", star(12), false}}},
		{"!b", []told{{"one answer", alone(), true}, {"no and yes", star(2), false}, {"yes and no", swapped(), false}, {"twelve", star(12), false}}},
		{"0", []told{{"one answer", alone(), true}, {"no and yes", star(2), false}, {"yes and no", swapped(), false}, {"the ring", ring(6), false}}},
		{"1", []told{{"one answer", alone(), true}, {"no and yes", star(2), true}, {"yes and no", swapped(), true}, {"the ring", ring(6), true}}},
		{"!1", []told{{"one answer", alone(), true}, {"no and yes", star(2), false}, {"yes and no", swapped(), false}, {"twelve", star(12), false}}},
		{"!0", []told{{"one answer", alone(), true}, {"no and yes", star(2), true}, {"yes and no", swapped(), true}, {"twelve", star(12), true}}},
		{"(a|b)", []told{{"one answer", alone(), true}, {"no and yes", star(2), false}, {"four", sets(2), false}, {"the ring", ring(6), false}}},
		{"(c|1)", []told{{"no and yes", star(2), true}, {"four", sets(2), true}, {"the ring", ring(6), true}, {"twelve", ring(12), true}}},
		{"(a|(b|!a))", []told{{"no and yes", star(2), true}, {"four", sets(2), true}, {"the ring", ring(6), true}, {"twelve", ring(12), true}}},
		{"(a|(b|!c))", []told{{"one answer", alone(), true}, {"no and yes", star(2), false}, {"four", sets(2), false}, {"the ring", ring(6), false}}},
		// In the ring the four meetings always make yes, though not all answers agree.
		{fourMeetings, []told{{"one answer", alone(), true}, {"eight", sets(3), true}, {"glued", gluedTo(sets(2), sets(2)), false}, {"the ring", ring(6), true}}},
		// In the ring both are not the same; but just the lower one of two is left, which makes yes with the opposite of the upper one.
		{"(!(a&(b|c))|((a&b)|(a&c)))", []told{{"eight", sets(3), true}, {"six", star(6), false}, {"the ring", ring(6), true}}},
		{"(!(a|b)|" + lawLonger + ")", []told{{"eight", sets(3), true}, {"six", star(6), true}, {"the ring", ring(6), true}}},
	}
	for _, x := range tests {
		always := func(l impl.Logic) bool { return impl.AlwaysOk(l, x.s) }
		sameAsTold(t, "AlwaysOk of "+x.s+" in", always, x.logics)
	}
}

func TestAnAnswerOrItsOppositeAlwaysHolds(t *testing.T) {
	for _, l := range stateLogics() {
		for _, s := range []string{"(a|!a)", "!(a&!a)", "(!b|b)", "(c|!c)", "(!!c|!c)", "!(!c&c)", "(" + lawLonger + "|!" + lawLonger + ")"} {
			if !impl.AlwaysOk(l, s) {
				t.Fatalf("AlwaysOk(%v, %q)", l, s)
			}
		}
	}
}

func TestWhatAlwaysHoldsIsYesForAnyAnswers(t *testing.T) {
	formulas := shortFormulas(7)
	for _, l := range []impl.Logic{alone(), star(2), swapped(), shuffled(star(4)), star(6), shuffled(ring(6)), sets(3), ring(8), inOrder(ring(12), mixed(12))} {
		_, yes := boundsOf(l)
		for _, s := range append(formulas, ordinary()...) {
			want := otherThan(valuesOf(l, s), yes) == 0
			if always := impl.AlwaysOk(l, s); always != want {
				t.Fatalf("AlwaysOk(%v, %q) = %v", l, s, always)
			}
		}
		for _, s := range append(ordinary(), "(a|!a)", "(a|(!b|!a))") {
			if len(l.Not) <= 8 && impl.AlwaysOk(l, s) {
				sameValues(t, l, s, slices.Repeat([]int{yes}, len(l.Not)*len(l.Not)*len(l.Not)))
			}
		}
	}
}

// A join of letters and opposites is no for one choice alone, of no and yes; with two answers it is yes for all others.
func TestOneChoiceIsEnough(t *testing.T) {
	for _, l := range []impl.Logic{star(2), swapped(), shuffled(star(4)), shuffled(ring(6)), sets(3), inOrder(star(12), mixed(12))} {
		no, yes := boundsOf(l)
		everyList(3, 0, 1, func(told []int) {
			signs := [3]string{"a", "b", "c"}
			choice := [3]int{no, no, no}
			for k, isYes := range told {
				if isYes == 1 {
					signs[k], choice[k] = "!"+signs[k], yes
				}
			}
			s := "(" + signs[0] + "|(" + signs[1] + "|" + signs[2] + "))"
			if impl.AlwaysOk(l, s) || impl.SameOk(l, s, "1") || impl.SameOk(l, "0", "!"+s) {
				t.Errorf("%q always holds in %v", s, l)
			}
			eachTriple(l, func(a, b, c int) {
				isNo := [3]int{a, b, c} == choice
				if value := impl.ValueOf(l, s, a, b, c); (value == no) != isNo {
					t.Errorf("ValueOf(%v, %q, %d, %d, %d) = %d", l, s, a, b, c, value)
				}
			})
		})
	}
}

// These formulas are yes for all of more than 1700 choices of three of twelve answers but for two or four, by whatever numbers and letters.
func TestFewChoicesAreEnough(t *testing.T) {
	tests := []struct {
		l     impl.Logic
		s     string
		other int
	}{
		{crowded(), "((!(!(c|a)|!(c|b))|!b)|!(!b|(!(!(c|b)&a)&a)))", 2},
		{gluedTo(lopsided(), star(4)), "(!(!(!a|c)&(c|b))|(a&(b|!a)))", 4},
	}
	for _, x := range tests {
		for _, letters := range lettersInOrder() {
			s := otherLetters(x.s, letters)
			for _, row := range append(ordersOf(12), turnedBy(5), turnedBy(8)) {
				l := inOrder(x.l, row)
				_, yes := boundsOf(l)
				if other := otherThan(valuesOf(l, s), yes); other != x.other {
					t.Fatalf("%q is not yes for %d choices in %v", s, other, l)
				}
				if impl.AlwaysOk(l, s) || impl.SameOk(l, s, "1") || impl.SameOk(l, "!"+s, "0") {
					t.Fatalf("%q always holds in %v", s, l)
				}
			}
		}
	}
}

func TestFourMeetingsAlwaysHoldIfAllAgree(t *testing.T) {
	for _, l := range stateLogics() {
		_, yes := boundsOf(l)
		always := impl.AlwaysOk(l, fourMeetings)
		if always != (otherThan(valuesOf(l, fourMeetings), yes) == 0) {
			t.Fatalf("AlwaysOk(%v, %q) = %v", l, fourMeetings, always)
		}
		if !impl.KeepsOk(l) {
			continue
		}
		agree := true
		for _, row := range withRows(l) {
			agree = agree && !slices.Contains(row, false)
		}
		if always != agree || always != (len(impl.BlocksOf(l)) == 1) {
			t.Fatalf("%v has the blocks %b, and four meetings are told %v", l, impl.BlocksOf(l), always)
		}
	}
}

func TestOfProductsHoldsWhatHoldsOfBoth(t *testing.T) {
	for _, s := range append(mixedFormulas(), fourMeetings, "(a|(b|!a))", "(!(a|b)|"+lawLonger+")") {
		eachTwo(impl.TimesOf, func(l, m, product impl.Logic) {
			if impl.AlwaysOk(product, s) != (impl.AlwaysOk(l, s) && impl.AlwaysOk(m, s)) {
				t.Fatalf("%v times %v: AlwaysOk of %q is %v", l, m, s, impl.AlwaysOk(product, s))
			}
			if impl.SameOk(product, s, lawLonger) != (impl.SameOk(l, s, lawLonger) && impl.SameOk(m, s, lawLonger)) {
				t.Fatalf("%v times %v: SameOk of %q and %q is %v", l, m, s, lawLonger, impl.SameOk(product, s, lawLonger))
			}
		})
	}
}

// Promise 47: what is the same.

func TestSameOkOfKnownFormulas(t *testing.T) {
	tests := []struct {
		s      string
		t      string
		logics []told
	}{
		{"a", "a", []told{{"one answer", alone(), true}, {"no and yes", star(2), true}, {"twelve", star(12), true}}},
		{"a", "b", []told{{"one answer", alone(), true}, {"no and yes", star(2), false}, {"twelve", star(12), false}}},
		{"a", "!a", []told{{"one answer", alone(), true}, {"no and yes", star(2), false}, {"twelve", star(12), false}}},
		{"b", "!!b", []told{{"one answer", alone(), true}, {"yes and no", swapped(), true}, {"twelve", star(12), true}}},
		{"0", "1", []told{{"one answer", alone(), true}, {"yes and no", swapped(), false}, {"twelve", star(12), false}}},
		{"0", "!1", []told{{"one answer", alone(), true}, {"yes and no", swapped(), true}, {"twelve", star(12), true}}},
		{"0", "(a&!a)", []told{{"one answer", alone(), true}, {"yes and no", swapped(), true}, {"the ring", ring(6), true}}},
		{"1", "c", []told{{"one answer", alone(), true}, {"no and yes", star(2), false}, {"the ring", ring(6), false}}},
		{"(a&b)", "(b&a)", []told{{"no and yes", star(2), true}, {"six", star(6), true}, {"the ring", ring(6), true}}},
		{"(a&b)", "(a|b)", []told{{"one answer", alone(), true}, {"no and yes", star(2), false}, {"the ring", ring(6), false}}},
		{"(a&(b&c))", "((a&b)&c)", []told{{"no and yes", star(2), true}, {"six", star(6), true}, {"the ring", ring(6), true}}},
		{"(a&(a|b))", "a", []told{{"no and yes", star(2), true}, {"six", star(6), true}, {"the ring", ring(6), true}}},
		{"!(a&b)", "(!a|!b)", []told{{"no and yes", star(2), true}, {"six", star(6), true}, {"the ring", ring(6), true}}},
		{lawLonger, lawShorter, []told{{"one answer", alone(), true}, {"eight", sets(3), true}, {"six", star(6), true}, {"the ring", ring(6), false}}},
		{splitWhole, splitParts, []told{{"one answer", alone(), true}, {"eight", sets(3), true}, {"six", star(6), false}, {"the ring", ring(6), false}}},
		{"((a&b)|(a&!b))", "a", []told{{"one answer", alone(), true}, {"eight", sets(3), true}, {"six", star(6), false}, {"the ring", ring(6), false}}},
		// They differ where c is above neither.
		{"(a&b)", splitWhole, []told{{"one answer", alone(), true}, {"no and yes", star(2), false}, {"the ring", ring(6), false}}},
	}
	for _, x := range tests {
		sameAsTold(t, "SameOk of "+x.s+" and "+x.t+" in", func(l impl.Logic) bool { return impl.SameOk(l, x.s, x.t) }, x.logics)
		sameAsTold(t, "SameOk of "+x.t+" and "+x.s+" in", func(l impl.Logic) bool { return impl.SameOk(l, x.t, x.s) }, x.logics)
	}
}

func TestSameOkOfEachTwoFormulas(t *testing.T) {
	formulas := append(ordinary(), shortFormulas(3)...)
	for _, l := range []impl.Logic{alone(), swapped(), shuffled(star(4)), star(6), shuffled(ring(6)), shuffled(sets(3)), inOrder(crowded(), mixed(12))} {
		values := map[string][]int{}
		for _, s := range formulas {
			values[s] = valuesOf(l, s)
		}
		for _, s := range formulas {
			for _, other := range formulas {
				if same := impl.SameOk(l, s, other); same != slices.Equal(values[s], values[other]) {
					t.Fatalf("SameOk(%v, %q, %q) = %v", l, s, other, same)
				}
			}
		}
	}
}

func TestFormulasTellLogics(t *testing.T) {
	for _, l := range stateLogics() {
		for _, x := range []struct {
			s, t string
			want bool
		}{
			{lawLonger, lawShorter, impl.KeepsOk(l)},
			{splitWhole, splitParts, impl.BooleanOk(l)},
			{"!(a&b)", "(!a|!b)", true},
			// With the meeting of a and b in the place of what is below a.
			{"(a&((a&b)|c))", splitParts, impl.ModularOk(l)},
		} {
			for _, letters := range lettersInOrder() {
				s, other := otherLetters(x.s, letters), otherLetters(x.t, letters)
				if impl.SameOk(l, s, other) != x.want || impl.SameOk(l, other, s) != x.want {
					t.Fatalf("SameOk(%v, %q, %q) = %v", l, s, other, !x.want)
				}
			}
		}
	}
}

func TestFormulasTellAllLogicsOfTenAnswers(t *testing.T) {
	allOf(10, func(l impl.Logic) {
		if same := impl.SameOk(l, lawLonger, lawShorter); same != wantKeeps(l) {
			t.Fatalf("%v: the law is told %v", l, same)
		}
		// Ten are no power of 2, as sets would be.
		if impl.SameOk(l, splitWhole, splitParts) || !impl.SameOk(l, "!(a&b)", "(!a|!b)") {
			t.Fatalf("%v is told as sets", l)
		}
	})
}

// Promise 48: duals.

func TestDualOfKnownFormulas(t *testing.T) {
	for s, dual := range map[string]string{
		"a":              "a",
		"b":              "b",
		"c":              "c",
		"0":              "1",
		"1":              "0",
		"!a":             "!a",
		"!0":             "!1",
		"!!1":            "!!0",
		"(a&b)":          "(a|b)",
		"(c|a)":          "(c&a)",
		"(1&0)":          "(0|1)",
		"(a&!(b|0))":     "(a|!(b&1))",
		"!((a&b)|(a&c))": "!((a|b)&(a|c))",
		fourMeetings:     "((a|b)&((a|!b)&((!a|b)&(!a|!b))))",
		lawLonger:        "(a&(!a|(a&b)))",
		marked(59, "1"):  marked(59, "0"),
	} {
		if made := impl.DualOf(s); made != dual {
			t.Errorf("DualOf(%q) = %q", s, made)
		}
	}
}

func TestDualOfAllFormulas(t *testing.T) {
	for _, s := range append(shortFormulas(8), ordinary()...) {
		dual := impl.DualOf(s)
		if dual != wantDual(s) || !impl.FormulaOk(dual) {
			t.Fatalf("DualOf(%q) = %q", s, dual)
		}
		if again := impl.DualOf(dual); again != s {
			t.Fatalf("the dual of the dual of %q is %q", s, again)
		}
	}
	for _, s := range mixedFormulas() {
		eachChange(s, func(changed string) {
			want := ""
			if isFormula(changed) {
				want = wantDual(changed)
			}
			if dual := impl.DualOf(changed); dual != want {
				t.Fatalf("DualOf(%q) = %q", changed, dual)
			}
		})
	}
}

func TestDualsHaveOppositeValuesOfOpposites(t *testing.T) {
	for _, l := range []impl.Logic{alone(), swapped(), shuffled(star(4)), star(6), shuffled(ring(6)), sets(3), ring(8)} {
		for _, s := range ordinary() {
			dual := impl.DualOf(s)
			eachTriple(l, func(a, b, c int) {
				value := impl.ValueOf(l, s, a, b, c)
				turned := impl.ValueOf(l, dual, impl.NotOf(l, a), impl.NotOf(l, b), impl.NotOf(l, c))
				if turned < 0 || turned != impl.NotOf(l, value) {
					t.Fatalf("%v, %d, %d and %d: %q is %d, and %q of the opposites %d", l, a, b, c, s, value, dual, turned)
				}
			})
		}
	}
}

// What is the same has duals that are.
func TestDualsOfSameFormulasAreTheSame(t *testing.T) {
	formulas := append(mixedFormulas(), lawShorter, splitWhole, "(b|a)", "((a|b)&a)", "a", "!0")
	for _, l := range fewLogics() {
		for _, s := range formulas {
			for _, other := range formulas {
				if impl.SameOk(l, s, other) != impl.SameOk(l, impl.DualOf(s), impl.DualOf(other)) {
					t.Fatalf("%q and %q in %v", s, other, l)
				}
			}
		}
	}
}

// The rules for all functions: fixed results for others, and arguments that are not written to.

func TestFormulasRefuseBadLogics(t *testing.T) {
	for what, l := range badLogics() {
		for _, s := range append(mixedFormulas(), "a", "0", "1", "(a|!a)", "", "(a") {
			if impl.AlwaysOk(l, s) || impl.SameOk(l, s, s) || impl.SameOk(l, s, "1") {
				t.Errorf("%s: %q is told", what, s)
			}
			for _, a := range []int{-1, 0, 1, len(l.Not) - 1, len(l.Under) - 1, len(l.Under)} {
				if value := impl.ValueOf(l, s, a, a, a); value != -1 {
					t.Errorf("%s: ValueOf %q for %d is %d", what, s, a, value)
				}
			}
		}
	}
}

// A letter stands for an answer, even if the formula does not have it.
func TestValueOfRefusesBadNumbers(t *testing.T) {
	for _, l := range append(fewLogics(), ring(12)) {
		someOut(l, 3, func(n []int) {
			for _, s := range []string{"a", "b", "c", "0", "1", "!a", "(b&b)", "(c|1)", "(a|(b&c))", "(a", ""} {
				if value := impl.ValueOf(l, s, n[0], n[1], n[2]); value != -1 {
					t.Fatalf("ValueOf(%v, %q, %v) = %d", l, s, n, value)
				}
			}
		})
	}
}

func TestFormulasRefuseOtherTexts(t *testing.T) {
	for what, s := range noFormulas() {
		if dual := impl.DualOf(s); dual != "" {
			t.Errorf("%s: DualOf(%q) = %q", what, s, dual)
		}
		for _, l := range []impl.Logic{alone(), swapped(), star(4), ring(6), star(12)} {
			if value := impl.ValueOf(l, s, 0, 0, len(l.Not)-1); value != -1 {
				t.Errorf("%s: ValueOf(%v, %q) = %d", what, l, s, value)
			}
			if impl.AlwaysOk(l, s) {
				t.Errorf("%s: AlwaysOk(%v, %q)", what, l, s)
			}
			for _, other := range []string{"a", "0", "1", lawLonger, "", s} {
				if impl.SameOk(l, s, other) || impl.SameOk(l, other, s) {
					t.Errorf("%s: SameOk(%v) of %q and %q", what, l, s, other)
				}
			}
		}
	}
}

func TestFormulasWriteToNoArguments(t *testing.T) {
	untouchedLogics(t, stateLogics(), func(l impl.Logic) {
		impl.ValueOf(l, lawLonger, 0, len(l.Not)-1, 0)
		impl.AlwaysOk(l, "(a|!a)")
		impl.SameOk(l, "!(a&b)", "(!a|!b)")
	})
}
