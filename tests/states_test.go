package tests

import (
	"math"
	"math/bits"
	"runtime"
	"slices"
	"testing"

	"loop.example/orthologics/impl"
)

// Promise 40: what states tell.

func TestStateOkOfKnownSets(t *testing.T) {
	tests := []struct {
		what  string
		l     impl.Logic
		set   []int
		state bool
	}{
		{"one answer alone, told yes", alone(), []int{0}, false},
		{"one answer alone, told no", alone(), nil, false},
		{"yes", star(2), []int{1}, true},
		{"no", star(2), []int{0}, false},
		{"no and yes", star(2), []int{0, 1}, false},
		{"nothing", star(2), nil, false},
		{"yes, which is first", swapped(), []int{0}, true},
		{"no, which is last", swapped(), []int{1}, false},
		{"one of four", sets(2), []int{1, 3}, true},
		{"the other one of four", sets(2), []int{2, 3}, true},
		{"without yes", sets(2), []int{1}, false},
		{"no instead of yes", sets(2), []int{0, 1}, false},
		{"yes alone", sets(2), []int{3}, false},
		{"an answer and its opposite", sets(2), []int{1, 2, 3}, false},
		{"all of four", sets(2), []int{0, 1, 2, 3}, false},
		{"the sets of one thing", sets(3), []int{1, 3, 5, 7}, true},
		// One of each answer and its opposite is told yes, and yes is.
		{"none of three things", sets(3), []int{3, 5, 6, 7}, false},
		{"each of three things", sets(3), []int{1, 2, 4, 7}, false},
		{"two things, without both together", sets(3), []int{1, 2, 5, 7}, false},
		{"two things, with both together", sets(3), []int{1, 2, 3, 7}, false},
		{"one of each four", gluedTo(sets(2), sets(2)), []int{1, 4, 5}, true},
		{"both of one four", gluedTo(sets(2), sets(2)), []int{1, 2, 5}, false},
		{"one four alone", gluedTo(sets(2), sets(2)), []int{1, 5}, false},
		{"a way of the ring", ring(6), []int{1, 2, 5}, true},
		{"the other way", ring(6), []int{3, 4, 5}, true},
		{"both lower ones", ring(6), []int{1, 3, 5}, false},
		{"both upper ones", ring(6), []int{2, 4, 5}, false},
		{"both ways", ring(6), []int{1, 2, 3, 4, 5}, false},
		{"a way without yes", ring(6), []int{1, 2}, false},
		{"the ring backwards", inOrder(ring(6), backwards(6)), []int{0, 1, 2}, true},
		{"five of twelve", star(12), []int{1, 2, 3, 4, 5, 11}, true},
		{"five others of twelve", star(12), []int{1, 2, 8, 4, 6, 11}, true},
		{"four of twelve", star(12), []int{1, 2, 3, 4, 11}, false},
		{"six of twelve", star(12), []int{1, 2, 3, 4, 5, 6, 11}, false},
		{"five of twelve, and no", star(12), []int{0, 1, 2, 3, 4, 5}, false},
		{"all of twelve", star(12), []int{0, 1, 2, 3, 4, 5, 6, 7, 8, 9, 10, 11}, false},
		{"five in a round, two of them", roundOf(), []int{1, 3, 6, 7, 9, 11}, false},
	}
	for _, x := range tests {
		if ok := impl.StateOk(x.l, setOf(x.set)); ok != x.state {
			t.Errorf("%s: StateOk(%v, %v) = %v", x.what, x.l, x.set, ok)
		}
	}
}

func TestStateOkOfManySets(t *testing.T) {
	for _, l := range stateLogics() {
		made := tablesOf(l)
		for _, set := range append(setsToTry(len(l.Not), wantStates(l)), choicesOf(l)...) {
			if ok := impl.StateOk(l, set); ok != isState(l, made, set) {
				t.Fatalf("StateOk(%v, %b) = %v", l, set, ok)
			}
		}
	}
}

func TestStateOkOfAllSetsOfTwelveAnswers(t *testing.T) {
	for _, l := range []impl.Logic{shuffled(pairsOf(star(2), star(6))), gluedTo(sets(3), ring(6)), crowded(), pasted()} {
		states := wantStates(l)
		for set := range 1 << 12 {
			if _, want := slices.BinarySearch(states, set); impl.StateOk(l, set) != want {
				t.Fatalf("StateOk(%v, %b) = %v", l, set, !want)
			}
		}
	}
}

func TestStatesAreNoneWithOneAnswerMoreOrLess(t *testing.T) {
	for _, l := range stateLogics() {
		for _, state := range wantStates(l) {
			for a := range l.Not {
				if impl.StateOk(l, state^1<<a) {
					t.Fatalf("StateOk(%v, %b) with %d turned round", l, state^1<<a, a)
				}
			}
		}
	}
}

func TestStatesGoUp(t *testing.T) {
	for _, l := range stateLogics() {
		keeps := impl.KeepsOk(l)
		up := ups(l.Under)
		for _, state := range impl.StatesOf(l) {
			for _, a := range numbersOf(state) {
				if keeps && up[a]&^state != 0 {
					t.Fatalf("%v: %b tells %d yes, and not all above it", l, state, a)
				}
				for _, b := range numbersOf(state) {
					if impl.ApartOk(l, a, b) {
						t.Fatalf("%v: %b tells %d and %d yes, which are apart", l, state, a, b)
					}
				}
			}
		}
	}
}

// Promise 41: all states.

func TestStatesOfKnownLogics(t *testing.T) {
	tests := []struct {
		what   string
		l      impl.Logic
		states []int
	}{
		{"one answer", alone(), nil},
		{"no and yes", star(2), []int{2}},
		{"yes and no", swapped(), []int{1}},
		{"sets of two things", sets(2), []int{10, 12}},
		{"four with no inside", shuffled(star(4)), []int{5, 6}},
		{"sets of three things", sets(3), []int{170, 204, 240}},
		{"a star of six", star(6), []int{38, 42, 52, 56}},
		{"four and four glued", gluedTo(sets(2), sets(2)), []int{42, 44, 50, 52}},
		{"eight and four glued", gluedTo(sets(3), sets(2)), []int{682, 716, 752, 810, 844, 880}},
		{"two by a star of six", pairsOf(star(2), star(6)), []int{38 * 65, 42 * 65, 52 * 65, 56 * 65, 63 * 64}},
		// 3 is told yes, or one of 1 and 2 and one of 4 and 5.
		{"eight and eight pasted", pasted(), []int{2898, 2978, 3412, 3492, 3784}},
		{"the ring", ring(6), []int{38, 56}},
		{"the ring backwards", inOrder(ring(6), backwards(6)), []int{7, 25}},
		{"the ring, and no and yes, glued", gluedTo(ring(6), star(2)), []int{38, 56}},
		{"a ring of eight", ring(8), []int{142, 240}},
		{"a ring of twelve", ring(12), []int{2110, 4032}},
		{"four and the ring glued", gluedTo(sets(2), ring(6)), []int{154, 156, 226, 228}},
		{"two by the ring", pairsOf(star(2), ring(6)), []int{38 * 65, 56 * 65, 63 * 64}},
		{"a lopsided one", lopsided(), []int{542, 992}},
		{"a crowded one", crowded(), []int{2866}},
		{"a crowded one backwards", inOrder(crowded(), backwards(12)), []int{1229}},
		{"five in a round", roundOf(), nil},
	}
	for _, x := range tests {
		sameStates(t, x.what, x.l, x.states)
	}
}

func TestAllStatesAreTold(t *testing.T) {
	for _, l := range stateLogics() {
		sameStates(t, "all", l, wantStates(l))
		for _, state := range impl.StatesOf(l) {
			if !impl.StateOk(l, state) {
				t.Fatalf("%v: %b is no state", l, state)
			}
		}
		newList(t, "StatesOf", l, impl.StatesOf)
	}
}

func TestStatesOfAllLogicsOfTenAnswers(t *testing.T) {
	count := 0
	allOf(10, func(l impl.Logic) {
		count++
		sameStates(t, "of ten answers", l, wantStates(l))
		if full := impl.FullOk(l); full != wantFull(l) || full && !wantKeeps(l) {
			t.Fatalf("FullOk(%v) = %v", l, full)
		}
	})
	if count != 1993 {
		t.Errorf("%d logics", count)
	}
}

func TestSetsHaveAsManyStatesAsThings(t *testing.T) {
	for things := 1; things <= 3; things++ {
		l, _ := impl.SetsOf(things)
		states := impl.StatesOf(l)
		if len(states) != things {
			t.Fatalf("sets of %d things have the states %b", things, states)
		}
		for thing := range things {
			var with []int
			for a := range l.Not {
				if a>>thing&1 == 1 {
					with = append(with, a)
				}
			}
			if states[thing] != setOf(with) {
				t.Errorf("sets of %d things: %d is told by %b", things, thing, states[thing])
			}
		}
	}
	for _, l := range stateLogics() {
		if len(l.Not) > 1 && impl.BooleanOk(l) && len(impl.StatesOf(l)) != len(impl.AtomsOf(l.Under)) {
			t.Fatalf("%v has the atoms %v and the states %b", l, impl.AtomsOf(l.Under), impl.StatesOf(l))
		}
	}
}

func TestGluedLogicsHaveAllPairsOfStates(t *testing.T) {
	four, _ := impl.SetsOf(2)
	glued, _ := impl.GluedOf(four, four)
	if states := impl.StatesOf(glued); len(states) != 4 {
		t.Errorf("four and four glued have the states %b", states)
	}
	eachTwo(impl.GluedOf, func(l, m, glued impl.Logic) {
		sameStates(t, "glued", glued, gluedStates(l, m))
	})
}

func TestOfProductsOnePartIsTold(t *testing.T) {
	eachTwo(impl.TimesOf, func(l, m, product impl.Logic) {
		sameStates(t, "a product", product, productStates(l, m))
	})
}

func TestStatesDoNotDependOnNames(t *testing.T) {
	for _, l := range append(fewLogics(), crowded(), roundOf(), pasted(), lopsided()) {
		states := wantStates(l)
		for _, row := range ordersOf(len(l.Not)) {
			sameStates(t, "in another order", impl.Renamed(l, row), movedTo(states, row))
		}
	}
}

// Goroutines that end in any order change nothing.
func TestStatesAreToldTimeAndAgain(t *testing.T) {
	defer runtime.GOMAXPROCS(runtime.GOMAXPROCS(0))
	l := inOrder(star(12), mixed(12))
	states := wantStates(l)
	for processors := 1; processors <= 4; processors++ {
		runtime.GOMAXPROCS(processors)
		for range 100 {
			sameStates(t, "again", l, states)
		}
	}
}

func TestNoGoroutineIsLeftByStates(t *testing.T) {
	noneLeft(t, 20, func() {
		for _, l := range []impl.Logic{star(12), ring(12), roundOf(), alone(), {}} {
			impl.StatesOf(l)
			impl.ToldBy(l, 0)
			impl.FullOk(l)
			impl.StateOk(l, 1)
		}
	})
}

// What is returned does not depend on what becomes of the logic later, as it would if goroutines still read it.
func TestLogicsMayChangeBehindTheirStates(t *testing.T) {
	states := wantStates(star(12))
	for range 100 {
		l := star(12)
		told := impl.StatesOf(l)
		wipe(l)
		if !slices.Equal(told, states) {
			t.Fatalf("a star of twelve has the states %b", told)
		}
	}
}

// Promise 42: how many states tell an answer yes.

func TestToldByOfKnownLogics(t *testing.T) {
	tests := []struct {
		what string
		l    impl.Logic
		want []int
	}{
		{"one answer", alone(), []int{0}},
		{"no and yes", star(2), []int{0, 1}},
		{"yes and no", swapped(), []int{1, 0}},
		{"sets of three things", sets(3), []int{0, 1, 1, 2, 1, 2, 2, 3}},
		{"four and four glued", gluedTo(sets(2), sets(2)), []int{0, 2, 2, 2, 2, 4}},
		{"eight and four glued", gluedTo(sets(3), sets(2)), []int{0, 2, 2, 4, 2, 4, 4, 3, 3, 6}},
		{"a star of twelve", star(12), []int{0, 16, 16, 16, 16, 16, 16, 16, 16, 16, 16, 32}},
		{"two by a star of six", pairsOf(star(2), star(6)), []int{0, 2, 2, 2, 2, 4, 1, 3, 3, 3, 3, 5}},
		{"eight and eight pasted", pasted(), []int{0, 2, 2, 1, 2, 2, 3, 3, 4, 3, 3, 5}},
		{"the ring", ring(6), []int{0, 1, 1, 1, 1, 2}},
		{"the ring with no inside", shuffled(ring(6)), []int{1, 1, 1, 0, 2, 1}},
		{"four and the ring glued", gluedTo(sets(2), ring(6)), []int{0, 2, 2, 2, 2, 2, 2, 4}},
		{"a crowded one", crowded(), []int{0, 1, 0, 0, 1, 1, 0, 0, 1, 1, 0, 1}},
		{"five in a round", roundOf(), make([]int, 12)},
	}
	for _, x := range tests {
		if told := toldByAll(x.l); !slices.Equal(told, x.want) {
			t.Errorf("%s: ToldBy the answers of %v is %v", x.what, x.l, told)
		}
	}
}

func TestAnAnswerOrItsOppositeIsTold(t *testing.T) {
	for _, l := range stateLogics() {
		states, told := wantStates(l), toldByAll(l)
		no, _ := boundsOf(l)
		for a, opposite := range l.Not {
			if told[a] != howMany(states, a) {
				t.Fatalf("%v: the states are %b, and ToldBy %d is %d", l, states, a, told[a])
			}
			if told[a]+told[opposite] != len(impl.StatesOf(l)) {
				t.Fatalf("%v: of %d states, %d tell %d, and %d its opposite", l, len(states), told[a], a, told[opposite])
			}
		}
		if told[no] != 0 {
			t.Fatalf("%v: no is told by %d", l, told[no])
		}
	}
}

func TestToldByOfLogicsThatAreMade(t *testing.T) {
	eachTwo(impl.TimesOf, func(l, m, product impl.Logic) {
		first, second := toldByAll(l), toldByAll(m)
		for p, told := range toldByAll(product) {
			if told != first[p/len(m.Not)]+second[p%len(m.Not)] {
				t.Fatalf("%v times %v: ToldBy %d is %d", l, m, p, told)
			}
		}
	})
	eachTwo(impl.GluedOf, func(l, m, glued impl.Logic) {
		told, last := toldByAll(glued), len(glued.Not)-1
		first, second := toldByAll(l), toldByAll(m)
		for a, to := range gluedNumbers(l, 1, last) {
			if told[to] != first[a]*len(wantStates(m)) {
				t.Fatalf("%v and %v glued: ToldBy %d is %d", l, m, to, told[to])
			}
		}
		for b, to := range gluedNumbers(m, len(l.Not)-1, last) {
			if told[to] != second[b]*len(wantStates(l)) {
				t.Fatalf("%v and %v glued: ToldBy %d is %d", l, m, to, told[to])
			}
		}
	})
}

// Promise 43: enough states.

func TestFullOkOfKnownLogics(t *testing.T) {
	sameAsTold(t, "FullOk", impl.FullOk, []told{
		// There is no state, and no answer that is not below another one.
		{"one answer", alone(), true},
		{"no and yes", star(2), true},
		{"yes and no", swapped(), true},
		{"sets of two things", sets(2), true},
		{"sets of three things", sets(3), true},
		{"sets in another order", shuffled(sets(3)), true},
		{"four and four glued", gluedTo(sets(2), sets(2)), true},
		{"four and eight glued", gluedTo(sets(2), sets(3)), true},
		{"two by a star of six", pairsOf(star(2), star(6)), true},
		{"a star of twelve", star(12), true},
		{"eight and eight pasted", pasted(), true},
		// 2 is not below 1, and each state tells both the same.
		{"the ring", ring(6), false},
		{"the ring backwards", inOrder(ring(6), backwards(6)), false},
		{"a ring of twelve", ring(12), false},
		{"four and the ring glued", gluedTo(sets(2), ring(6)), false},
		{"the ring, and no and yes, glued", gluedTo(ring(6), star(2)), false},
		{"two by the ring", pairsOf(star(2), ring(6)), false},
		{"a lopsided one", lopsided(), false},
		{"a crowded one", crowded(), false},
		{"five in a round", roundOf(), false},
	})
}

func TestEnoughStatesAreTheLaw(t *testing.T) {
	for _, l := range stateLogics() {
		full := impl.FullOk(l)
		if full != wantFull(l) {
			t.Fatalf("FullOk(%v) = %v", l, full)
		}
		if full && !impl.KeepsOk(l) {
			t.Fatalf("%v has enough states, and does not keep the law", l)
		}
	}
}

func TestSetsAndFoursHaveEnoughStates(t *testing.T) {
	for things := 0; things <= 3; things++ {
		if l, _ := impl.SetsOf(things); !impl.FullOk(l) {
			t.Errorf("sets of %d things", things)
		}
	}
	four, _ := impl.SetsOf(2)
	if glued, _ := impl.GluedOf(four, four); !impl.FullOk(glued) {
		t.Error("four and four glued")
	}
}

func TestFullOkIsToldAsThePartsAre(t *testing.T) {
	toldAsParts(t, impl.FullOk)
	for _, l := range fewLogics() {
		for _, row := range ordersOf(len(l.Not)) {
			if impl.FullOk(impl.Renamed(l, row)) != wantFull(l) {
				t.Fatalf("%v in the order %v", l, row)
			}
		}
	}
}

// The rules for all functions: fixed results for others, and arguments that are not written to.

func TestStatesRefuseBadLogics(t *testing.T) {
	for what, l := range badLogics() {
		if states := impl.StatesOf(l); states != nil || impl.FullOk(l) {
			t.Errorf("%s: StatesOf is %v, FullOk %v", what, states, impl.FullOk(l))
		}
		for _, a := range []int{-1, 0, 1, len(l.Not) - 1, len(l.Under) - 1, len(l.Under)} {
			if told := impl.ToldBy(l, a); told != -1 {
				t.Errorf("%s: ToldBy %d is %d", what, a, told)
			}
		}
		for _, set := range append(numbersOf(1<<62-1), -1, 10, 12, 38, 42, 56, 142, 170, 204, 240, 2110, 4032) {
			if impl.StateOk(l, set) {
				t.Errorf("%s: StateOk of %d", what, set)
			}
		}
	}
}

func TestStatesRefuseBadSetsAndNumbers(t *testing.T) {
	for _, l := range append(fewLogics(), ring(12), crowded(), roundOf()) {
		for _, set := range badSets(len(l.Not)) {
			if impl.StateOk(l, set) {
				t.Errorf("StateOk(%v, %d)", l, set)
			}
		}
		for _, a := range badNumbers(len(l.Not)) {
			if told := impl.ToldBy(l, a); told != -1 {
				t.Errorf("ToldBy(%v, %d) = %d", l, a, told)
			}
		}
	}
}

// A state is none with a bit past the last answer, even though there is no answer of that number of which it told too much; the last bit makes it a number below 0.
func TestNoStateHasMoreThanTheAnswers(t *testing.T) {
	for _, l := range fewLogics() {
		for _, state := range wantStates(l) {
			for past := len(l.Not); past < bits.UintSize; past++ {
				if impl.StateOk(l, state|1<<past) {
					t.Fatalf("StateOk(%v, %b) with the bit %d", l, state, past)
				}
			}
			if impl.StateOk(l, -state) || impl.StateOk(l, ^state) || impl.StateOk(l, state|math.MinInt) {
				t.Fatalf("%v: the state %b below 0", l, state)
			}
		}
	}
}

func TestStatesWriteToNoArguments(t *testing.T) {
	untouchedLogics(t, stateLogics(), func(l impl.Logic) {
		impl.StateOk(l, 10)
		impl.StatesOf(l)
		impl.ToldBy(l, len(l.Not)-1)
		impl.FullOk(l)
	})
}
