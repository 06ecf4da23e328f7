package tests

import (
	"math/bits"
	"slices"
	"testing"

	"loop.example/orthologics/impl"
)

// Promise 27: sets of answers that agree.

func TestAgreeOkOfKnownSets(t *testing.T) {
	tests := []struct {
		what   string
		l      impl.Logic
		set    []int
		agrees bool
	}{
		{"one answer alone", alone(), []int{0}, true},
		{"no", star(2), []int{0}, true},
		{"yes", star(2), []int{1}, true},
		{"no and yes", star(2), []int{0, 1}, true},
		{"yes and no", swapped(), []int{0, 1}, true},
		{"all of four", sets(2), []int{0, 1, 2, 3}, true},
		{"three of four", sets(2), []int{0, 1, 3}, true},
		{"all of eight", sets(3), []int{0, 1, 2, 3, 4, 5, 6, 7}, true},
		{"one set", sets(3), []int{6}, true},
		{"sets that overlap", sets(3), []int{3, 5, 6}, true},
		{"one block of two", gluedTo(sets(2), sets(2)), []int{0, 1, 2, 5}, true},
		{"the other block", gluedTo(sets(2), sets(2)), []int{0, 3, 4, 5}, true},
		{"less than a block", gluedTo(sets(2), sets(2)), []int{1, 2}, true},
		{"what all blocks have", gluedTo(sets(2), sets(2)), []int{0, 5}, true},
		{"one answer of a block", gluedTo(sets(2), sets(2)), []int{3}, true},
		{"answers of different blocks", gluedTo(sets(2), sets(2)), []int{1, 3}, false},
		{"a block and one more", gluedTo(sets(2), sets(2)), []int{0, 1, 2, 3, 5}, false},
		{"one ahead of a block", gluedTo(sets(2), sets(2)), []int{0, 1, 3, 4, 5}, false},
		{"all of two blocks", gluedTo(sets(2), sets(2)), []int{0, 1, 2, 3, 4, 5}, false},
		{"just the last one disagrees", gluedTo(sets(3), sets(2)), []int{0, 1, 2, 3, 8}, false},
		{"just the first one disagrees", gluedTo(sets(2), sets(3)), []int{1, 3, 4, 5, 9}, false},
		// 1 agrees with 2, but not the other way round.
		{"one way alone", ring(6), []int{1, 2}, false},
		{"one way alone, with yes", ring(6), []int{3, 4, 5}, false},
		{"neither way", ring(6), []int{2, 4}, false},
		{"both lower ones", ring(6), []int{1, 3}, true},
		{"a block that is no part", ring(6), []int{0, 1, 3, 5}, true},
		{"opposites", ring(6), []int{2, 3}, true},
		{"three of the ring", ring(6), []int{1, 3, 4}, false},
		{"all of the ring", ring(6), []int{0, 1, 2, 3, 4, 5}, false},
		{"one way alone, backwards", inOrder(ring(6), backwards(6)), []int{3, 4}, false},
		{"the ring with no inside", shuffled(ring(6)), []int{0, 5}, false},
		{"two by the ring, up", pairsOf(star(2), ring(6)), []int{1, 8}, false},
		{"two by the ring, opposites", pairsOf(star(2), ring(6)), []int{1, 10}, true},
		{"twelve, opposites", star(12), []int{0, 1, 10, 11}, true},
		{"twelve, two of them", star(12), []int{1, 2}, false},
		{"all of twelve", star(12), []int{0, 1, 2, 3, 4, 5, 6, 7, 8, 9, 10, 11}, false},
		{"the last of twelve", star(12), []int{11}, true},
	}
	for _, x := range tests {
		if ok := impl.AgreeOk(x.l, setOf(x.set)); ok != x.agrees {
			t.Errorf("%s: AgreeOk(%v, %v) = %v", x.what, x.l, x.set, ok)
		}
	}
}

// sameAgreement fails if AgreeOk tells another thing of a set than what agrees of its answers, or than the blocks.
func sameAgreement(t *testing.T, l impl.Logic, sets []int) {
	t.Helper()
	together, blocks := agreementOf(l).together(), impl.BlocksOf(l)
	for _, set := range sets {
		ok := impl.AgreeOk(l, set)
		if ok != agreeIn(together, set) {
			t.Fatalf("AgreeOk(%v, %b) = %v", l, set, ok)
		}
		if ok != inOne(blocks, set) {
			t.Fatalf("%v: the blocks are %b, and AgreeOk of %b is %v", l, blocks, set, ok)
		}
	}
}

func TestWhatAgreesIsInABlock(t *testing.T) {
	for _, l := range lawLogics() {
		sameAgreement(t, l, setsToTry(len(l.Not), wantBlocks(l)))
	}
}

func TestAgreeOkOfAllSetsOfTwelveAnswers(t *testing.T) {
	for _, l := range []impl.Logic{shuffled(pairsOf(star(2), star(6))), gluedTo(sets(3), ring(6))} {
		var all []int
		for set := 1; set < 1<<len(l.Not); set++ {
			all = append(all, set)
		}
		sameAgreement(t, l, all)
	}
}

func TestTwoAnswersAgreeAsASet(t *testing.T) {
	for _, l := range lawLogics() {
		agrees := withRows(l)
		eachPair(l, func(a, b int) {
			if ok := impl.AgreeOk(l, 1<<a|1<<b); ok != (agrees[a][b] && agrees[b][a]) {
				t.Fatalf("%v: AgreeOk of %d and %d is %v", l, a, b, ok)
			}
		})
	}
}

// Promise 28: blocks.

func TestBlocksOfKnownLogics(t *testing.T) {
	tests := []struct {
		what   string
		l      impl.Logic
		blocks []int
	}{
		{"one answer", alone(), []int{1}},
		{"no and yes", star(2), []int{3}},
		{"yes and no", swapped(), []int{3}},
		{"sets of two things", sets(2), []int{15}},
		{"sets of three things", sets(3), []int{255}},
		{"sets in another order", shuffled(sets(3)), []int{255}},
		{"eight, and no and yes, glued", gluedTo(sets(3), star(2)), []int{255}},
		{"four and four glued", gluedTo(sets(2), sets(2)), []int{39, 57}},
		{"eight and four glued", gluedTo(sets(3), sets(2)), []int{639, 897}},
		{"four and eight glued", gluedTo(sets(2), sets(3)), []int{519, 1017}},
		// The block of 1 is the last one, as it has 10, too.
		{"a star of twelve", star(12), []int{2145, 2193, 2313, 2565, 3075}},
		{"two by a star of six", pairsOf(star(2), star(6)), []int{2925, 3315}},
		{"the ring", ring(6), []int{43, 45, 51}},
		{"the ring, and no and yes, glued", gluedTo(ring(6), star(2)), []int{43, 45, 51}},
		{"the ring backwards", inOrder(ring(6), backwards(6)), []int{45, 51, 53}},
		{"a ring of eight", ring(8), []int{147, 149, 153, 163, 165, 195}},
		{"four and the ring glued", gluedTo(sets(2), ring(6)), []int{135, 169, 177, 201}},
		{"two by the ring", pairsOf(star(2), ring(6)), []int{43 * 65, 45 * 65, 51 * 65}},
	}
	for _, x := range tests {
		if blocks := impl.BlocksOf(x.l); !slices.Equal(blocks, x.blocks) {
			t.Errorf("%s: BlocksOf(%v) = %v", x.what, x.l, blocks)
		}
	}
}

func TestBlocksAreTheLargestSetsThatAgree(t *testing.T) {
	for _, l := range lawLogics() {
		blocks := impl.BlocksOf(l)
		if !slices.Equal(blocks, wantBlocks(l)) {
			t.Fatalf("BlocksOf(%v) = %b", l, blocks)
		}
		newList(t, "BlocksOf", l, impl.BlocksOf)
	}
}

func TestBlocksArePartsAsSetsAre(t *testing.T) {
	for _, l := range lawLogics() {
		all, common := 0, 1<<len(l.Not)-1
		for _, block := range impl.BlocksOf(l) {
			all, common = all|block, common&block
			if wantKeeps(l) && (!impl.SubOk(l, block) || !impl.BooleanOk(impl.PartOf(l, block))) {
				t.Fatalf("%v: the block %b is no part that is as sets are", l, block)
			}
		}
		// Each answer is in a block, and the centre in all, even where the law is not kept.
		if all != 1<<len(l.Not)-1 || common != setOf(impl.CentreOf(l)) {
			t.Fatalf("%v: the blocks together have %b, and in common %b", l, all, common)
		}
	}
}

func TestBlocksDoNotDependOnNames(t *testing.T) {
	for _, logics := range []map[string]impl.Logic{keeping(), breaking()} {
		for what, l := range logics {
			for _, row := range ordersOf(len(l.Not)) {
				blocks := impl.BlocksOf(impl.Renamed(l, row))
				if !slices.Equal(blocks, movedTo(wantBlocks(l), row)) {
					t.Fatalf("%s in the order %v has the blocks %b", what, row, blocks)
				}
			}
		}
	}
}

func TestBlocksOfGluedLogicsAreThoseOfBoth(t *testing.T) {
	eachTwo(impl.GluedOf, func(l, m, glued impl.Logic) {
		if blocks := impl.BlocksOf(glued); !slices.Equal(blocks, gluedBlocks(l, m)) {
			t.Fatalf("%v and %v glued have the blocks %b", l, m, blocks)
		}
	})
}

func TestBlocksOfProductsArePairsOfBlocks(t *testing.T) {
	eachTwo(impl.TimesOf, func(l, m, product impl.Logic) {
		if blocks := impl.BlocksOf(product); !slices.Equal(blocks, productBlocks(l, m)) {
			t.Fatalf("%v times %v has the blocks %b", l, m, blocks)
		}
	})
}

// Promise 29: logics that are as sets are.

func TestBooleanOkOfKnownLogics(t *testing.T) {
	sameAsTold(t, "BooleanOk", impl.BooleanOk, []told{
		{"one answer", alone(), true},
		{"no and yes", star(2), true},
		{"yes and no", swapped(), true},
		{"four", star(4), true},
		{"four with no inside", shuffled(star(4)), true},
		{"sets of three things", sets(3), true},
		{"sets in another order", shuffled(sets(3)), true},
		{"two by two by two", pairsOf(star(2), pairsOf(star(2), star(2))), true},
		{"eight, and no and yes, glued", gluedTo(star(2), sets(3)), true},
		{"four and four glued", gluedTo(sets(2), sets(2)), false},
		{"eight and four glued", gluedTo(sets(3), sets(2)), false},
		{"four and eight glued", gluedTo(sets(2), sets(3)), false},
		{"two by a star of six", pairsOf(star(2), star(6)), false},
		{"a star of six by two", pairsOf(star(6), star(2)), false},
		{"a star of twelve", star(12), false},
		{"the ring", ring(6), false},
		{"a ring of eight", ring(8), false},
		{"two by the ring", pairsOf(star(2), ring(6)), false},
		{"the ring glued", gluedTo(sets(2), ring(6)), false},
	})
}

func TestOneBlockIsSets(t *testing.T) {
	for _, l := range lawLogics() {
		ok := impl.BooleanOk(l)
		if ok != splitsAll(l) {
			t.Fatalf("BooleanOk(%v) = %v", l, ok)
		}
		if ok != (impl.KeepsOk(l) && len(impl.BlocksOf(l)) == 1) {
			t.Fatalf("%v: the blocks are %b, and BooleanOk is %v", l, impl.BlocksOf(l), ok)
		}
		if atoms := impl.AtomsOf(l.Under); ok && len(l.Not) != 1<<len(atoms) {
			t.Fatalf("%v is as sets are, and has the atoms %v", l, atoms)
		}
	}
}

func TestSetsAreBooleanByAnyNames(t *testing.T) {
	for things := 0; things <= 3; things++ {
		l, _ := impl.SetsOf(things)
		for _, row := range ordersOf(len(l.Not)) {
			m := impl.Renamed(l, row)
			if !impl.BooleanOk(m) || !slices.Equal(impl.BlocksOf(m), []int{1<<len(l.Not) - 1}) {
				t.Fatalf("sets of %d things in the order %v: %v, %v", things, row, impl.BooleanOk(m), impl.BlocksOf(m))
			}
		}
	}
}

func TestBooleanOkIsToldAsThePartsAre(t *testing.T) {
	eachTwo(impl.TimesOf, func(l, m, product impl.Logic) {
		if impl.BooleanOk(product) != (impl.BooleanOk(l) && impl.BooleanOk(m)) {
			t.Fatalf("%v times %v", l, m)
		}
	})
	// Glued logics are as sets are just if one has nothing of its own, and the other one is as they are.
	eachTwo(impl.GluedOf, func(l, m, glued impl.Logic) {
		want := len(l.Not) == 2 && impl.BooleanOk(m) || len(m.Not) == 2 && impl.BooleanOk(l)
		if impl.BooleanOk(glued) != want {
			t.Fatalf("%v and %v glued", l, m)
		}
	})
}

// Promise 30: how many blocks have an answer.

func TestBlocksWithOfKnownLogics(t *testing.T) {
	tests := []struct {
		what string
		l    impl.Logic
		want []int
	}{
		{"one answer", alone(), []int{1}},
		{"no and yes", star(2), []int{1, 1}},
		{"sets of three things", sets(3), []int{1, 1, 1, 1, 1, 1, 1, 1}},
		{"four and four glued", gluedTo(sets(2), sets(2)), []int{2, 1, 1, 1, 1, 2}},
		{"four and four glued, no last", inOrder(gluedTo(sets(2), sets(2)), []int{1, 2, 3, 4, 5, 0}), []int{1, 1, 1, 1, 2, 2}},
		{"eight and four glued", gluedTo(sets(3), sets(2)), []int{2, 1, 1, 1, 1, 1, 1, 1, 1, 2}},
		{"a star of twelve", star(12), []int{5, 1, 1, 1, 1, 1, 1, 1, 1, 1, 1, 5}},
		{"two by a star of six", pairsOf(star(2), star(6)), []int{2, 1, 1, 1, 1, 2, 2, 1, 1, 1, 1, 2}},
		// The law is not kept: an answer and its opposite are not in the same blocks.
		{"the ring", ring(6), []int{3, 2, 1, 2, 1, 3}},
		{"a ring of eight", ring(8), []int{6, 3, 2, 1, 3, 2, 1, 6}},
		{"four and the ring glued", gluedTo(sets(2), ring(6)), []int{4, 1, 1, 2, 1, 2, 1, 4}},
		{"two by the ring", pairsOf(star(2), ring(6)), []int{3, 2, 1, 2, 1, 3, 3, 2, 1, 2, 1, 3}},
	}
	for _, x := range tests {
		for a, want := range x.want {
			if count := impl.BlocksWith(x.l, a); count != want {
				t.Errorf("%s: BlocksWith(%v, %d) = %d", x.what, x.l, a, count)
			}
		}
	}
}

func TestAnswersAndOppositesAreInTheSameBlocks(t *testing.T) {
	for _, l := range lawLogics() {
		blocks := wantBlocks(l)
		no, yes := boundsOf(l)
		for a := range l.Not {
			count := impl.BlocksWith(l, a)
			if count != howMany(blocks, a) || count < 1 {
				t.Fatalf("%v: the blocks are %b, and %d have %d", l, blocks, count, a)
			}
			if wantKeeps(l) && count != impl.BlocksWith(l, l.Not[a]) {
				t.Fatalf("%v: the blocks are %b, and not as many have the opposite of %d", l, blocks, a)
			}
		}
		if impl.BlocksWith(l, no) != len(blocks) || impl.BlocksWith(l, yes) != len(blocks) {
			t.Fatalf("%v: not all blocks %b have no and yes", l, blocks)
		}
	}
}

func TestAllBlocksHaveTheCentre(t *testing.T) {
	for _, l := range lawLogics() {
		centre, blocks := impl.CentreOf(l), len(impl.BlocksOf(l))
		for a := range l.Not {
			if central := impl.BlocksWith(l, a) == blocks; central != slices.Contains(centre, a) {
				t.Fatalf("%v: the centre is %v, and that all blocks have %d is %v", l, centre, a, central)
			}
		}
	}
}

// The rules for all functions: fixed results for others, and arguments that are not written to.

func TestBlocksRefuseBadLogics(t *testing.T) {
	for what, l := range badLogics() {
		if blocks := impl.BlocksOf(l); blocks != nil {
			t.Errorf("%s: BlocksOf is %v", what, blocks)
		}
		if impl.BooleanOk(l) {
			t.Errorf("%s: BooleanOk", what)
		}
		for _, a := range []int{-1, 0, 1, len(l.Not) - 1, len(l.Under) - 1, len(l.Under)} {
			if count := impl.BlocksWith(l, a); count != -1 {
				t.Errorf("%s: BlocksWith of %d is %d", what, a, count)
			}
		}
		for _, set := range []int{-1, 0, 1, 2, 3, 15, 1<<len(l.Under) - 1, 1 << len(l.Under), 1 << impl.MaxAnswers} {
			if impl.AgreeOk(l, set) {
				t.Errorf("%s: AgreeOk of %b", what, set)
			}
		}
	}
}

func TestBlocksRefuseBadSetsAndNumbers(t *testing.T) {
	for _, l := range append(fewLogics(), ring(12)) {
		for _, set := range badSets(len(l.Not)) {
			if impl.AgreeOk(l, set) {
				t.Errorf("AgreeOk(%v, %d)", l, set)
			}
		}
		for _, a := range badNumbers(len(l.Not)) {
			if count := impl.BlocksWith(l, a); count != -1 {
				t.Errorf("BlocksWith(%v, %d) = %d", l, a, count)
			}
		}
	}
}

// A set that agrees does so no longer with a bit past the last answer, even though there are no answers of that number to disagree.
func TestNoSetHasMoreThanTheAnswers(t *testing.T) {
	for _, l := range lawLogics() {
		answers := len(l.Not)
		for _, block := range wantBlocks(l) {
			for past := answers; past < bits.UintSize; past++ {
				if impl.AgreeOk(l, block|1<<past) {
					t.Fatalf("AgreeOk(%v, %b) with the bit %d", l, block, past)
				}
			}
		}
	}
}

func TestBlocksWriteToNoArguments(t *testing.T) {
	untouchedLogics(t, lawLogics(), func(l impl.Logic) {
		impl.AgreeOk(l, 3)
		impl.BlocksOf(l)
		impl.BooleanOk(l)
		impl.BlocksWith(l, len(l.Not)-1)
	})
}
