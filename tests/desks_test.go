package tests

import (
	"fmt"
	"math"
	"slices"
	"strings"
	"testing"

	"loop.example/orthologics/impl"
)

// Promise 56: what a desk is.

func TestDeskOkOfKnownDesks(t *testing.T) {
	for what, d := range map[string]impl.Desk{
		"one answer":              deskOf(alone()),
		"yes and no":              deskOf(swapped()),
		"no law is needed":        deskOf(ring(6)),
		"twelve answers":          deskOf(crowded()),
		"an empty list of before": {Now: sets(2), Past: []impl.Logic{}},
		"the same before":         {Now: sets(2), Past: []impl.Logic{sets(2)}},
		"another one before":      {Now: sets(2), Past: []impl.Logic{ring(12)}},
		"seven of before":         withPast(sets(2), 7),
		"just eight of before":    withPast(sets(2), 8),
		"eight of before, of one": {Now: alone(), Past: slices.Repeat([]impl.Logic{alone()}, 8)},
	} {
		if !impl.DeskOk(d) {
			t.Errorf("%s: DeskOk(%v) is false", what, d)
		}
	}
	for what, d := range badDesks() {
		if impl.DeskOk(d) {
			t.Errorf("%s: DeskOk(%v)", what, d)
		}
	}
}

func TestDeskOkOfAllLogics(t *testing.T) {
	for _, l := range stateLogics() {
		for _, d := range []impl.Desk{deskOf(l), {Now: star(2), Past: []impl.Logic{l}}} {
			if !impl.DeskOk(d) {
				t.Fatalf("DeskOk(%v) is false", d)
			}
		}
	}
}

func TestDesksCanForget(t *testing.T) {
	for _, d := range someDesks() {
		if !impl.DeskOk(d) || !impl.DeskOk(deskOf(d.Now)) {
			t.Fatalf("%v is no desk without logics of before", d)
		}
		for k := range d.Past {
			if !impl.DeskOk(impl.Desk{Now: d.Now, Past: d.Past[k:]}) || !impl.DeskOk(impl.Desk{Now: d.Now, Past: d.Past[:k]}) {
				t.Fatalf("%v is no desk without some logics of before", d)
			}
		}
	}
}

// Promise 57: new desks.

func TestNewDesksHaveLogicsOfSets(t *testing.T) {
	for things := range 4 {
		d, ok := impl.DeskNew(things)
		l, _ := impl.SetsOf(things)
		if !ok || !sameDesk(d, deskOf(sets(things))) || !sameLogic(d.Now, l) || len(d.Past) != 0 || !impl.DeskOk(d) {
			t.Errorf("DeskNew(%d) = %v, %v", things, d, ok)
		}
		again, _ := impl.DeskNew(things)
		newDesk(t, fmt.Sprintf("DeskNew(%d)", things), d, again)
	}
	for _, things := range []int{-1, -2, 4, 5, 12, 63, 64, 65, 1 << 32, math.MaxInt, math.MinInt} {
		if d, ok := impl.DeskNew(things); ok || !noDesk(d) {
			t.Errorf("DeskNew(%d) = %v, %v", things, d, ok)
		}
	}
}

// Promise 49: what is done, and undone.

func TestDeskDoOfKnownDeeds(t *testing.T) {
	glued := gluedTo(sets(2), sets(2))
	tests := []struct {
		what string
		l    impl.Logic
		a    impl.Deed
		made impl.Logic
	}{
		{"four to four", sets(2), glue(2), glued},
		{"four to yes and no", swapped(), glue(2), sets(2)},
		{"eight to four", sets(2), glue(3), gluedTo(sets(2), sets(3))},
		{"four to eight", sets(3), glue(2), gluedTo(sets(3), sets(2))},
		{"two to four, backwards", inOrder(sets(2), backwards(4)), glue(1), sets(2)},
		{"two to yes and no", swapped(), glue(1), star(2)},
		{"four by two", sets(2), times(1), pairsOf(sets(2), star(2))},
		{"one by eight", alone(), times(3), sets(3)},
		{"yes and no by four", swapped(), times(2), pairsOf(swapped(), sets(2))},
		{"the ring by two", ring(6), times(1), pairsOf(ring(6), star(2))},
		{"the ring to no and yes", star(2), addRing(), ring(6)},
		{"the ring to yes and no", swapped(), addRing(), ring(6)},
		{"the ring to four", sets(2), addRing(), gluedTo(sets(2), ring(6))},
		{"the ring to the ring", ring(6), addRing(), gluedTo(ring(6), ring(6))},
		{"one of both fours", glued, partBy(1, 2), sets(2)},
		{"one alone", glued, partBy(3, 3), sets(2)},
		{"no and yes", glued, partBy(0, 5), star(2)},
		{"no", glued, partBy(0, 0), star(2)},
		{"an answer and yes", glued, partBy(4, 5), sets(2)},
		{"yes and no as they are", inOrder(sets(2), backwards(4)), partBy(3, 0), swapped()},
		{"two of the ring", ring(6), partBy(1, 4), sets(2)},
		{"a part that takes all of eight", gluedTo(sets(3), sets(2)), partBy(1, 2), sets(3)},
		{"a part of two fours", gluedTo(glued, sets(2)), partBy(1, 5), glued},
	}
	for _, x := range tests {
		d := withPast(x.l, 2)
		after, ok := impl.DeskDo(d, x.a)
		want := impl.Desk{Now: x.made, Past: append(slices.Clone(d.Past), x.l)}
		if !ok || !sameDesk(after, want) {
			t.Errorf("%s: DeskDo(%v, %v) = %v, %v", x.what, d, x.a, after, ok)
		}
	}
}

// cannot fails if a deed can be done, or changes the desk.
func cannot(t *testing.T, what string, d impl.Desk, a impl.Deed) {
	t.Helper()
	if after, ok := impl.DeskDo(d, a); ok || !sameDesk(after, d) {
		t.Errorf("%s: DeskDo(%v, %v) = %v, %v", what, d, a, after, ok)
	}
}

func TestDeedsThatCannotBeDone(t *testing.T) {
	tests := []struct {
		what string
		l    impl.Logic
		a    impl.Deed
	}{
		{"two glued to four", sets(2), glue(1)},
		{"two glued to no and yes", star(2), glue(1)},
		{"two glued to twelve", ring(12), glue(1)},
		{"four by one", sets(2), times(0)},
		{"one by one", alone(), times(0)},
		{"yes and no by one", swapped(), times(0)},
		{"twelve by one", crowded(), times(0)},
		{"all of four", sets(2), partBy(1, 2)},
		{"all of four, by one", sets(2), partBy(1, 1)},
		{"all of eight", sets(3), partBy(1, 2)},
		{"all of the ring", ring(6), partBy(1, 2)},
		{"all of the ring, by both lower ones", ring(6), partBy(3, 1)},
		{"all of two", star(2), partBy(0, 1)},
		{"all of two, by no", star(2), partBy(0, 0)},
		{"all of yes and no", swapped(), partBy(1, 0)},
		{"all of one", alone(), partBy(0, 0)},
		{"nothing glued", sets(2), glue(0)},
		{"glued to one", alone(), glue(2)},
		{"one glued to one", alone(), glue(0)},
		{"the ring to one", alone(), addRing()},
		{"of four things, glued", star(2), glue(4)},
		{"of four things, times", alone(), times(4)},
		{"past the end", sets(3), partBy(1, 8)},
		{"past the end first", sets(3), partBy(8, 1)},
		{"both past the end", gluedTo(sets(2), sets(2)), partBy(6, 6)},
		{"far past the end", gluedTo(sets(2), sets(2)), partBy(1, 64)},
		{"far past the end first", gluedTo(sets(2), sets(2)), partBy(99, 1)},
		{"past the end of one", alone(), partBy(0, 1)},
		{"below 0", gluedTo(sets(2), sets(2)), partBy(-1, 1)},
		{"below 0 second", gluedTo(sets(2), sets(2)), partBy(1, -1)},
		{"things below 0", sets(2), glue(-1)},
		{"things below 0, times", sets(2), times(-1)},
	}
	for _, x := range tests {
		cannot(t, x.what, deskOf(x.l), x.a)
		cannot(t, x.what, withPast(x.l, 3), x.a)
		cannot(t, x.what, withPast(x.l, 8), x.a)
	}
	for _, l := range fewLogics() {
		cannot(t, "nothing before", deskOf(l), goBack())
		cannot(t, "an empty list of before", impl.Desk{Now: l, Past: []impl.Logic{}}, goBack())
	}
}

// Of so many answers, and of no more, logics are made.
func TestLogicsThatAreTooLarge(t *testing.T) {
	tests := []struct {
		a    impl.Deed
		most int
	}{
		{glue(2), 10}, {glue(3), 6}, {addRing(), 8}, {times(1), 6}, {times(2), 2}, {times(3), 1},
	}
	for _, x := range tests {
		for _, l := range []impl.Logic{alone(), swapped(), star(4), star(6), ring(6), sets(3), star(8), lopsided(), star(10), pasted(), star(12), ring(12)} {
			tooFew := x.a.Kind != impl.DkTimes && len(l.Not) < 2
			if len(l.Not) > x.most || tooFew {
				cannot(t, "too large or too small", withPast(l, 1), x.a)
				continue
			}
			d, ok := impl.DeskDo(withPast(l, 1), x.a)
			if !ok || !impl.DeskOk(d) || len(d.Now.Not) > 12 || len(d.Past) != 2 {
				t.Errorf("%v of %v = %v, %v", x.a, l, d, ok)
			}
		}
	}
}

func TestDeedsWithOtherNumbers(t *testing.T) {
	// The deeds with 0 in the places where none is named can be done.
	d := withPast(gluedTo(sets(2), sets(2)), 4)
	for _, a := range []impl.Deed{glue(2), times(1), addRing(), goBack()} {
		if _, ok := impl.DeskDo(d, a); !ok {
			t.Errorf("DeskDo(%v, %v) is false", d, a)
		}
		for _, n := range []int{1, 2, -1, 64, 1 << 32, math.MaxInt, math.MinInt} {
			cannot(t, "a second number", d, impl.Deed{Kind: a.Kind, A: a.A, B: n})
			if a.A == 0 {
				cannot(t, "a first number", d, impl.Deed{Kind: a.Kind, A: n})
				cannot(t, "both numbers", d, impl.Deed{Kind: a.Kind, A: n, B: n})
			}
		}
	}
	for _, kind := range otherKinds() {
		for _, n := range []int{0, 1, 2, -1} {
			cannot(t, "another kind", d, impl.Deed{Kind: kind, A: n})
			cannot(t, "another kind, with two numbers", d, impl.Deed{Kind: kind, A: 1, B: n})
		}
	}
}

func TestDeskDoOfManyDeeds(t *testing.T) {
	for _, d := range someDesks() {
		// Most deeds do not depend on what was before: for all of them one logic of before is enough.
		short := impl.Desk{Now: d.Now, Past: d.Past[:min(1, len(d.Past))]}
		for k, a := range deedsFor(len(d.Now.Not)) {
			tried := short
			if k%40 == 7 {
				tried = d
			}
			want, can := wantDo(tried, a)
			if after, ok := impl.DeskDo(tried, a); ok != can || !sameDesk(after, want) {
				t.Fatalf("DeskDo(%v, %v) = %v, %v", tried, a, after, ok)
			}
		}
	}
}

func TestWhatWasDoneCanBeUndone(t *testing.T) {
	done := 0
	for _, d := range someDesks() {
		keeps := impl.KeepsOk(d.Now)
		for _, a := range deedsFor(min(len(d.Now.Not), 6)) {
			after, ok := impl.DeskDo(d, a)
			if !impl.DeskOk(after) || !ok && !sameDesk(after, d) {
				t.Fatalf("DeskDo(%v, %v) = %v", d, a, after)
			}
			if !ok || a.Kind == impl.DkBack {
				continue
			}
			done++
			if keeps && a.Kind != impl.DkRing && !impl.KeepsOk(after.Now) {
				t.Fatalf("after %v, %v does not keep the law as %v did", a, after.Now, d.Now)
			}
			before, ok := impl.DeskDo(after, goBack())
			want := impl.Desk{Now: d.Now, Past: d.Past[max(0, len(d.Past)-7):]}
			if !ok || !sameDesk(before, want) {
				t.Fatalf("%v: behind %v, back leads to %v", d, a, before)
			}
		}
	}
	if done < 100 {
		t.Errorf("just %d deeds were done", done)
	}
}

// Where the law is not kept, a part may keep it, and what is made of all does not.
func TestTheRingBreaksTheLaw(t *testing.T) {
	for _, l := range keeping() {
		if d, ok := impl.DeskDo(deskOf(l), addRing()); ok && impl.KeepsOk(d.Now) {
			t.Errorf("%v keeps the law with the ring", l)
		}
	}
	for _, l := range breaking() {
		for _, a := range []impl.Deed{glue(2), glue(3), times(1), addRing()} {
			if d, _ := impl.DeskDo(deskOf(l), a); impl.KeepsOk(d.Now) {
				t.Errorf("%v keeps the law after %v", l, a)
			}
		}
	}
}

func TestJustEightOfBefore(t *testing.T) {
	for before := range 9 {
		d := withPast(star(4), before)
		after, ok := impl.DeskDo(d, glue(2))
		want := append(slices.Clone(d.Past), star(4))
		if before == 8 {
			want = want[1:]
		}
		if !ok || len(after.Past) != min(before+1, 8) || !sameDesk(after, impl.Desk{Now: gluedTo(star(4), sets(2)), Past: want}) {
			t.Errorf("%d logics of before became %v", before, after.Past)
		}
	}
	// Forty deeds leave the last eight, which are put back, the last one first.
	d, _ := impl.DeskNew(2)
	list := slices.Repeat([]impl.Deed{glue(2), partBy(1, 2)}, 20)
	d, done := impl.DeskRun(d, list)
	if done != 40 || len(d.Past) != 8 || !sameLogic(d.Now, sets(2)) {
		t.Fatalf("%d deeds were done: %v", done, d)
	}
	for k := range 8 {
		want := []impl.Logic{gluedTo(sets(2), sets(2)), sets(2)}[k%2]
		after, ok := impl.DeskDo(d, goBack())
		if !ok || len(after.Past) != 7-k || !sameLogic(after.Now, want) {
			t.Fatalf("back %d times: %v", k+1, after)
		}
		d = after
	}
	cannot(t, "nine times back", d, goBack())
}

// Promise 50: deeds one after the other.

func TestDeskRunOfKnownDeeds(t *testing.T) {
	four, glued := sets(2), gluedTo(sets(2), sets(2))
	tests := []struct {
		what  string
		list  []impl.Deed
		want  impl.Desk
		count int
	}{
		{"nil", nil, deskOf(four), 0},
		{"empty", []impl.Deed{}, deskOf(four), 0},
		{"one", []impl.Deed{glue(2)}, impl.Desk{Now: glued, Past: []impl.Logic{four}}, 1},
		{"there and back", []impl.Deed{glue(2), goBack()}, deskOf(four), 2},
		{"back and there", []impl.Deed{goBack(), glue(2)}, impl.Desk{Now: glued, Past: []impl.Logic{four}}, 1},
		{"none can be done", []impl.Deed{goBack(), glue(1), times(0), partBy(1, 2), times(2), {Kind: 5}, {Kind: impl.DkRing, A: 1}}, deskOf(four), 0},
		{"some left out", []impl.Deed{glue(2), times(1), times(1), partBy(1, 12), goBack(), addRing()}, impl.Desk{Now: gluedTo(glued, ring(6)), Past: []impl.Logic{four, glued}}, 4},
		{"in this order", []impl.Deed{partBy(0, 0), glue(2), glue(2)}, impl.Desk{Now: glued, Past: []impl.Logic{four, star(2), four}}, 3},
	}
	for _, x := range tests {
		d, count := impl.DeskRun(deskOf(four), x.list)
		if count != x.count || !sameDesk(d, x.want) {
			t.Errorf("%s: DeskRun of %v = %v, %d", x.what, x.list, d, count)
		}
	}
}

func TestDeskRunOfManyDeeds(t *testing.T) {
	m := mixer(1)
	for _, d := range someDesks() {
		for range 4 {
			list := deedsFrom(&m, m.below(41))
			want, done := wantRun(d, list)
			after, count := impl.DeskRun(d, list)
			if count != done || !sameDesk(after, want) || !impl.DeskOk(after) {
				t.Fatalf("DeskRun(%v, %v) = %v, %d", d, list, after, count)
			}
			for cut := 0; cut <= len(list); cut += 1 + len(list)/7 {
				first, ahead := impl.DeskRun(d, list[:cut])
				second, behind := impl.DeskRun(first, list[cut:])
				if ahead+behind != count || !sameDesk(second, after) {
					t.Fatalf("%v: %v in two parts, %d first, lead to %v", d, list, cut, second)
				}
			}
		}
	}
}

func TestDeskRunOfOneDeed(t *testing.T) {
	for _, d := range someDesks() {
		for _, a := range []impl.Deed{glue(2), glue(1), times(1), addRing(), partBy(0, 1), partBy(1, 12), goBack(), {Kind: 9}} {
			want, ok := impl.DeskDo(d, a)
			if after, count := impl.DeskRun(d, []impl.Deed{a}); (count == 1) != ok || !sameDesk(after, want) {
				t.Fatalf("DeskRun(%v, %v) = %v, %d", d, a, after, count)
			}
		}
	}
}

func TestDeskRunOfJustFortyDeeds(t *testing.T) {
	d := deskOf(sets(2))
	for _, x := range []struct {
		deed  impl.Deed
		count int
	}{{goBack(), 0}, {glue(2), 4}, {impl.Deed{Kind: -1}, 0}} {
		list := slices.Repeat([]impl.Deed{x.deed}, 40)
		if after, count := impl.DeskRun(d, list); count != x.count || len(after.Now.Not) != 4+2*count {
			t.Errorf("forty times %v: %v, %d", x.deed, after, count)
		}
		for _, more := range [][]impl.Deed{append(list, x.deed), append(list, glue(2)), slices.Repeat(list, 2)} {
			if after, count := impl.DeskRun(d, more); count != 0 || !noDesk(after) {
				t.Errorf("%d times %v: %v, %d", len(more), x.deed, after, count)
			}
		}
	}
}

// Promises 58 and 59: texts of deeds.

func TestDeedTextOfKnownDeeds(t *testing.T) {
	for text, a := range map[string]impl.Deed{
		"glue 0":     {},
		"glue 2":     {Kind: impl.DkGlue, A: 2},
		"glue 9":     {Kind: impl.DkGlue, A: 9},
		"times 0":    {Kind: impl.DkTimes},
		"times 3":    {Kind: impl.DkTimes, A: 3},
		"times 9":    {Kind: impl.DkTimes, A: 9},
		"ring":       {Kind: impl.DkRing},
		"part 0 0":   {Kind: impl.DkPart},
		"part 1 2":   {Kind: impl.DkPart, A: 1, B: 2},
		"part 0 7":   {Kind: impl.DkPart, B: 7},
		"part 10 9":  {Kind: impl.DkPart, A: 10, B: 9},
		"part 99 99": {Kind: impl.DkPart, A: 99, B: 99},
		"back":       {Kind: impl.DkBack},
	} {
		if made := impl.DeedText(a); made != text {
			t.Errorf("DeedText(%v) = %q", a, made)
		}
		if read, ok := impl.ReadDeed(text); !ok || read != a {
			t.Errorf("ReadDeed(%q) = %v, %v", text, read, ok)
		}
	}
}

func TestDeedTextOfAllDeeds(t *testing.T) {
	byDeed := map[impl.Deed]string{}
	for text, a := range deedTexts {
		byDeed[a] = text
	}
	if len(byDeed) != 10022 || len(deedTexts) != 10022 {
		t.Fatalf("%d deeds, %d texts", len(byDeed), len(deedTexts))
	}
	try := func(a impl.Deed) {
		text := impl.DeedText(a)
		if text != byDeed[a] {
			t.Fatalf("DeedText(%v) = %q", a, text)
		}
		if read, ok := impl.ReadDeed(text); ok != (text != "") || ok && read != a || !ok && read != (impl.Deed{}) {
			t.Fatalf("ReadDeed(%q) = %v, %v", text, read, ok)
		}
	}
	for kind := -2; kind <= 6; kind++ {
		for a := -3; a <= 102; a++ {
			for b := -3; b <= 102; b++ {
				try(impl.Deed{Kind: kind, A: a, B: b})
			}
		}
	}
	for kind := range 5 {
		for _, n := range manyNumbers(12) {
			try(impl.Deed{Kind: kind, A: n})
			try(impl.Deed{Kind: kind, B: n})
			try(impl.Deed{Kind: kind, A: n, B: n})
		}
	}
	for _, kind := range otherKinds() {
		try(impl.Deed{Kind: kind})
		try(impl.Deed{Kind: kind, A: 1, B: 2})
	}
}

// sameRead fails if ReadDeed does not read of a text the deed whose text it is, or nothing if there is none; what was read has the text.
func sameRead(t *testing.T, s string) {
	t.Helper()
	want, isDeed := deedTexts[s]
	read, ok := impl.ReadDeed(s)
	if ok != isDeed || read != want {
		t.Fatalf("ReadDeed(%q) = %v, %v", s, read, ok)
	}
	if ok && impl.DeedText(read) != s {
		t.Fatalf("DeedText(%v) is not %q", read, s)
	}
}

func TestReadDeedOfKnownTexts(t *testing.T) {
	for what, s := range noDeeds() {
		if a, ok := impl.ReadDeed(s); ok || a != (impl.Deed{}) {
			t.Errorf("%s: ReadDeed(%q) = %v, %v", what, s, a, ok)
		}
	}
}

func TestReadDeedOfAllTexts(t *testing.T) {
	for text := range deedTexts {
		sameRead(t, text)
		for _, s := range []string{text + " ", text + "\n", text + "\r", text + "0", text + " 0", " " + text, "0" + text, text + text, strings.ToUpper(text), text[1:], text[:len(text)-1]} {
			sameRead(t, s)
		}
		if _, ok := impl.ReadDeed(text + " "); ok {
			t.Fatalf("%q with a space behind it is read", text)
		}
	}
	for _, text := range []string{"glue 2", "glue 0", "times 9", "ring", "back", "part 1 2", "part 0 10", "part 99 0", "part 12 34"} {
		eachChange(text, func(changed string) { sameRead(t, changed) })
	}
}

func TestReadDeedOfAllShortTexts(t *testing.T) {
	for size := range 4 {
		eachText("0129 -+_\n\x80", size, func(s string) {
			for _, word := range []string{"", "glue", "glue ", "times ", "part ", "part 1 ", "part 1", "ring", "ring ", "back", "back ", "ri"} {
				sameRead(t, word+s)
			}
		})
	}
	for size := range 6 {
		eachText("01 9", size, func(s string) { sameRead(t, "part "+s) })
	}
}

// Promises 51 and 60: journals.

func TestJournalTextOfKnownDeeds(t *testing.T) {
	for what, list := range deedLists() {
		want := ""
		for _, text := range textsOf(list) {
			want += text + "\n"
		}
		text := impl.JournalText(list)
		if text != want {
			t.Errorf("%s: JournalText(%v) = %q", what, list, text)
		}
		// Promise 60: of the text the deeds are read, and the whole text.
		if read, length := impl.ReadJournal(text); !slices.Equal(read, list) || length != len(text) {
			t.Errorf("%s: ReadJournal(%q) = %v, %d", what, text, read, length)
		}
	}
	if text := impl.JournalText([]impl.Deed{glue(2), addRing(), partBy(3, 12), goBack()}); text != "glue 2\nring\npart 3 12\nback\n" {
		t.Errorf("JournalText = %q", text)
	}
}

func TestJournalTextOfDeedsWithoutText(t *testing.T) {
	bad := []impl.Deed{{Kind: 5}, {Kind: -1}, glue(10), glue(-1), times(10), partBy(100, 1), partBy(1, -1), {Kind: impl.DkRing, A: 1}, {Kind: impl.DkBack, B: 1}, {Kind: impl.DkGlue, A: 1, B: 1}}
	good := []impl.Deed{glue(2), addRing(), partBy(1, 2)}
	for _, a := range bad {
		for place := range 4 {
			list := slices.Insert(slices.Clone(good), place, a)
			if text := impl.JournalText(list); text != "" {
				t.Errorf("JournalText(%v) = %q", list, text)
			}
		}
		if text := impl.JournalText([]impl.Deed{a}); text != "" {
			t.Errorf("JournalText(%v) = %q", a, text)
		}
	}
}

func TestReadJournalOfKnownTexts(t *testing.T) {
	two := []impl.Deed{glue(2), addRing()}
	tests := []struct {
		what   string
		s      string
		list   []impl.Deed
		length int
	}{
		{"empty", "", nil, 0},
		{"a newline alone", "\n", nil, 0},
		{"newlines", "\n\n\n", nil, 0},
		{"no newline", "ring", nil, 0},
		{"one line", "ring\n", []impl.Deed{addRing()}, 5},
		{"two lines", "glue 2\nring\n", two, 12},
		{"cut in a line", "glue 2\nring\npart", two, 12},
		{"cut in a number", "glue 2\nring\npart 1 1", two, 12},
		{"without the last newline", "glue 2\nring\nback", two, 12},
		{"an empty line behind", "glue 2\nring\n\n", two, 12},
		{"an empty line between", "glue 2\nring\n\nback\n", two, 12},
		{"an empty line ahead", "\nglue 2\nring\n", nil, 0},
		{"a space ahead", " glue 2\nring\n", nil, 0},
		{"a space behind a line", "glue 2\nring\nback \nback\n", two, 12},
		{"a space ahead of a line", "glue 2\nring\n back\n", two, 12},
		{"a space behind all", "glue 2\nring\n ", two, 12},
		{"a carriage return", "glue 2\nring\nback\r\n", two, 12},
		{"carriage returns", "glue 2\r\nring\r\n", nil, 0},
		{"returns alone", "glue 2\rring\r", nil, 0},
		{"a return first", "\rglue 2\n", nil, 0},
		{"a leading zero", "glue 2\nring\nglue 02\nback\n", two, 12},
		{"a sign", "glue 2\nring\nglue +2\nback\n", two, 12},
		{"a minus", "glue 2\nring\npart 1 -2\n", two, 12},
		{"a number too large", "glue 2\nring\nglue 10\n", two, 12},
		{"three digits", "glue 2\nring\npart 1 100\n", two, 12},
		{"a number too many", "glue 2\nring\nring 0\n", two, 12},
		{"another line", "glue 2\nring\nanswers\nback\n", two, 12},
		{"two deeds in a line", "glue 2\nring\nring back\n", two, 12},
		{"bytes above 127", "glue 2\nring\n\xff\n", two, 12},
		{"one behind a line", "glue 2\nring\nback\x80\n", two, 12},
		{"one on a newline", "glue 2\nring\nback\x8a", two, 12},
		{"a zero byte", "glue 2\nring\n\x00back\n", two, 12},
		{"a wide newline", "glue 2\nring\nback\u2028", two, 12},
		{"a next line", "glue 2\nring\nback\u0085", two, 12},
		{"a form feed", "glue 2\nring\nback\f\n", two, 12},
		{"numbers of two digits", "part 10 99\nback\n", []impl.Deed{partBy(10, 99), goBack()}, 16},
		{"what cannot be done", "glue 9\ntimes 9\n", []impl.Deed{glue(9), times(9)}, 15},
	}
	for _, x := range tests {
		if list, length := impl.ReadJournal(x.s); !slices.Equal(list, x.list) || length != x.length {
			t.Errorf("%s: ReadJournal(%q) = %v, %d", x.what, x.s, list, length)
		}
	}
}

func TestReadJournalUpToALineThatIsNone(t *testing.T) {
	list := []impl.Deed{times(1), partBy(1, 12), goBack()}
	lines := textsOf(list)
	for what, s := range noDeeds() {
		for place := range 4 {
			text := strings.Join(slices.Insert(slices.Clone(lines), place, s), "\n") + "\n"
			length := len(strings.Join(lines[:place], "\n"))
			if place > 0 {
				length++
			}
			if read, n := impl.ReadJournal(text); !slices.Equal(read, list[:place]) || n != length {
				t.Errorf("%s: ReadJournal(%q) = %v, %d", what, text, read, n)
			}
		}
	}
}

func TestReadJournalOfManyLines(t *testing.T) {
	var list []impl.Deed
	for _, a := range deedTexts {
		list = append(list, a)
	}
	text := impl.JournalText(list)
	read, length := impl.ReadJournal(text)
	if !slices.Equal(read, list) || length != len(text) || strings.Count(text, "\n") != 10022 {
		t.Fatalf("%d of %d deeds were read, %d bytes of %d", len(read), len(list), length, len(text))
	}
	if read, length := impl.ReadJournal(strings.Repeat("ring\n", 1<<16) + "x"); len(read) != 1<<16 || length != 5<<16 {
		t.Fatalf("%d deeds, %d bytes", len(read), length)
	}
}

func TestWhereverAJournalIsCut(t *testing.T) {
	for what, list := range deedLists() {
		text := strings.Join(append(textsOf(list), ""), "\n")
		for cut := range len(text) + 1 {
			whole := strings.Count(text[:cut], "\n")
			read, length := impl.ReadJournal(text[:cut])
			if !slices.Equal(read, list[:whole]) || length != strings.LastIndex(text[:cut], "\n")+1 {
				t.Fatalf("%s: ReadJournal(%q) = %v, %d", what, text[:cut], read, length)
			}
			if again := impl.JournalText(read); again != text[:length] {
				t.Fatalf("%s: JournalText(%v) = %q", what, read, again)
			}
		}
	}
}

func TestReadJournalOfChangedTexts(t *testing.T) {
	text := "glue 2\nring\npart 1 12\nback\n"
	eachChange(text, func(changed string) {
		var list []impl.Deed
		length := 0
		for _, line := range strings.SplitAfter(changed, "\n") {
			a, isDeed := deedTexts[strings.TrimRight(line, "\n")]
			if !isDeed || !strings.HasSuffix(line, "\n") {
				break
			}
			list, length = append(list, a), length+len(line)
		}
		read, n := impl.ReadJournal(changed)
		if !slices.Equal(read, list) || n != length || impl.JournalText(read) != changed[:n] {
			t.Fatalf("ReadJournal(%q) = %v, %d", changed, read, n)
		}
	})
}

func TestJournalsAreSaidLineByLine(t *testing.T) {
	lists := deedLists()
	for _, d := range someDesks() {
		for what, list := range lists {
			if len(list) > 40 {
				continue
			}
			run, count := impl.DeskRun(d, list)
			said, answers := impl.DeskSay(d, textsOf(list))
			if !sameDesk(said, run) || len(answers) != len(list) {
				t.Fatalf("%s: %v said to %v leads to %v", what, list, d, said)
			}
			done := 0
			for _, answer := range answers {
				if answer == "ok" {
					done++
				} else if answer != "not" {
					t.Fatalf("%s: %v is answered by %q", what, list, answer)
				}
			}
			if done != count {
				t.Fatalf("%s: %d deeds are answered by ok, %d were done", what, done, count)
			}
		}
	}
}
