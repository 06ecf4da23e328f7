package tests

import (
	"fmt"
	"slices"
	"strings"
	"testing"

	"loop.example/orthologics/impl"
)

// The section Examples, and what is known of desks.

func TestExamples(t *testing.T) {
	d, _ := impl.DeskNew(2)
	lines := []string{
		"answers", "sets", "glue 2", "answers", "keeps", "modular", "sets", "blocks",
		"states", "with 1 3", "on 1 3", "always (a|!a)", "ring", "keeps", "answers",
	}
	want := []string{"4", "yes", "ok", "6", "yes", "yes", "no", "2", "4", "no", "1", "yes", "ok", "no", "10"}
	after, answers := impl.DeskSay(d, lines)
	if !slices.Equal(answers, want) {
		t.Errorf("answers are %v", answers)
	}
	glued := gluedTo(sets(2), sets(2))
	if !sameDesk(after, impl.Desk{Now: gluedTo(glued, ring(6)), Past: []impl.Logic{sets(2), glued}}) {
		t.Errorf("they lead to %v", after)
	}
}

// answered is a line with the answer that is known.
type answered struct {
	line   string
	answer string
}

func TestDeskLineOfKnownQuestions(t *testing.T) {
	tests := []struct {
		what  string
		l     impl.Logic
		lines []answered
	}{
		{"one answer", alone(), []answered{
			{"answers", "1"}, {"atoms", "0"}, {"blocks", "1"}, {"states", "0"}, {"centre", "1"}, {"high", "0"},
			{"keeps", "yes"}, {"modular", "yes"}, {"sets", "yes"}, {"full", "yes"},
			{"with 0 0", "yes"}, {"and 0 0", "0"}, {"or 0 0", "0"}, {"on 0 0", "0"}, {"with 0 1", "none"}, {"and 1 0", "none"},
			{"always a", "yes"}, {"always 0", "yes"}, {"always (a&!a)", "yes"},
		}},
		{"yes and no", swapped(), []answered{
			{"answers", "2"}, {"atoms", "1"}, {"blocks", "1"}, {"states", "1"}, {"centre", "2"}, {"high", "1"},
			{"keeps", "yes"}, {"modular", "yes"}, {"sets", "yes"}, {"full", "yes"},
			{"and 0 1", "1"}, {"or 0 1", "0"}, {"on 0 1", "1"}, {"on 1 0", "1"}, {"always 1", "yes"}, {"always 0", "no"},
		}},
		{"eight", sets(3), []answered{
			{"answers", "8"}, {"atoms", "3"}, {"blocks", "1"}, {"states", "3"}, {"centre", "8"}, {"high", "3"},
			{"keeps", "yes"}, {"modular", "yes"}, {"sets", "yes"}, {"full", "yes"},
			{"with 1 6", "yes"}, {"and 3 6", "2"}, {"or 1 4", "5"}, {"on 3 6", "2"}, {"or 7 8", "none"}, {"always " + fourMeetings, "yes"},
		}},
		{"four and eight glued", gluedTo(sets(2), sets(3)), []answered{
			{"answers", "10"}, {"atoms", "5"}, {"blocks", "2"}, {"states", "6"}, {"centre", "2"}, {"high", "3"},
			{"keeps", "yes"}, {"modular", "no"}, {"sets", "no"}, {"full", "yes"},
			{"with 3 5", "yes"}, {"with 1 5", "no"}, {"and 5 8", "4"}, {"or 3 4", "5"}, {"or 1 4", "9"}, {"on 1 4", "1"}, {"on 5 8", "4"}, {"on 9 4", "4"},
			{"and 0 9", "0"}, {"and 0 10", "none"}, {"and 10 0", "none"}, {"with 10 10", "none"}, {"on 99 1", "none"}, {"or 1 99", "none"},
			{"always " + fourMeetings, "no"}, {"always (!(a&b)|a)", "yes"},
		}},
		{"the ring", ring(6), []answered{
			{"answers", "6"}, {"atoms", "2"}, {"blocks", "3"}, {"states", "2"}, {"centre", "2"}, {"high", "3"},
			{"keeps", "no"}, {"modular", "no"}, {"sets", "no"}, {"full", "no"},
			{"with 1 2", "yes"}, {"with 2 1", "no"}, {"on 2 1", "2"}, {"on 1 2", "1"}, {"and 1 2", "1"}, {"or 1 2", "2"}, {"or 2 3", "5"},
		}},
		{"twelve", crowded(), []answered{
			{"answers", "12"}, {"atoms", "3"}, {"states", "1"}, {"full", "no"}, {"keeps", "no"},
			{"or 1 11", "11"}, {"and 11 10", "10"}, {"on 11 10", "10"}, {"on 0 11", "0"}, {"and 11 12", "none"}, {"with 12 12", "none"},
		}},
	}
	for _, x := range tests {
		for _, d := range []impl.Desk{deskOf(x.l), withPast(x.l, 8)} {
			for _, y := range x.lines {
				if after, answer := impl.DeskLine(d, y.line); answer != y.answer || !sameDesk(after, d) {
					t.Errorf("%s: %q is answered by %q", x.what, y.line, answer)
				}
			}
		}
	}
}

func TestDeskLineOfKnownDeeds(t *testing.T) {
	glued := gluedTo(sets(2), sets(2))
	tests := []struct {
		line   string
		answer string
		now    impl.Logic
	}{
		{"glue 2", "ok", gluedTo(glued, sets(2))},
		{"glue 3", "ok", gluedTo(glued, sets(3))},
		{"glue 0", "not", glued},
		{"glue 1", "not", glued},
		{"glue 4", "not", glued},
		{"glue 9", "not", glued},
		{"times 0", "not", glued},
		{"times 1", "ok", pairsOf(glued, sets(1))},
		{"times 2", "not", glued},
		{"ring", "ok", gluedTo(glued, ring(6))},
		{"part 3 4", "ok", sets(2)},
		{"part 0 0", "ok", star(2)},
		{"part 1 3", "not", glued},
		{"part 1 6", "not", glued},
		{"part 64 65", "not", glued},
		{"part 99 99", "not", glued},
		{"back", "ok", sets(3)},
		{"glue 10", "what", glued},
		{"part 1 100", "what", glued},
		{"part 1", "what", glued},
		{"ring 0", "what", glued},
	}
	for _, x := range tests {
		d := impl.Desk{Now: glued, Past: []impl.Logic{star(4), sets(3)}}
		want := d
		if x.line == "back" {
			want = impl.Desk{Now: x.now, Past: d.Past[:1]}
		} else if x.answer == "ok" {
			want = impl.Desk{Now: x.now, Past: append(slices.Clone(d.Past), glued)}
		}
		if after, answer := impl.DeskLine(d, x.line); answer != x.answer || !sameDesk(after, want) {
			t.Errorf("%q is answered by %q, and leads to %v", x.line, answer, after)
		}
	}
	if after, answer := impl.DeskLine(deskOf(glued), "back"); answer != "not" || !sameDesk(after, deskOf(glued)) {
		t.Errorf("back, without any of before, is answered by %q, and leads to %v", answer, after)
	}
}

// Promise 61: questions change nothing.

func TestDeskLineOfOtherLines(t *testing.T) {
	for _, d := range []impl.Desk{deskOf(alone()), deskOf(sets(2)), withPast(ring(6), 1), withPast(gluedTo(sets(2), sets(3)), 8)} {
		for what, line := range noLines() {
			if after, answer := impl.DeskLine(d, line); answer != "what" || !sameDesk(after, d) {
				t.Errorf("%s: %q is answered by %q, and leads to %v", what, line, answer, after)
			}
		}
	}
}

// sameLine fails if DeskLine leads to another desk or gives another answer than it should, or changes the desk though the answer is not ok.
func sameLine(t *testing.T, d impl.Desk, line string, wantDesk impl.Desk, want string) {
	t.Helper()
	after, answer := impl.DeskLine(d, line)
	if answer != want || !sameDesk(after, wantDesk) || !impl.DeskOk(after) {
		t.Fatalf("%v: %q is answered by %q, not by %q, and leads to %v", d, line, answer, want, after)
	}
	if answer != "ok" && !sameDesk(after, d) {
		t.Fatalf("%v: %q is answered by %q, and changes the desk", d, line, answer)
	}
}

func TestDeskLineOfAllWords(t *testing.T) {
	for k, l := range stateLogics() {
		d := deskOf(l)
		if k%9 == 0 {
			d = withPast(l, 1+k%8)
		}
		x := askingOf(d)
		for _, word := range words() {
			answer, _ := x.word(word)
			sameLine(t, d, word, d, answer)
		}
	}
}

func TestDeskLineOfTwoNumbers(t *testing.T) {
	for k, d := range someDesks() {
		d.Past = d.Past[:min(k%3, len(d.Past))]
		x := askingOf(d)
		numbers := append(numbersOf(1<<(len(d.Now.Not)+1)-1), 13, 31, 63, 64, 65, 99)
		for _, a := range numbers {
			for _, b := range numbers {
				for _, word := range wordsOfTwo() {
					sameLine(t, d, fmt.Sprintf("%s %d %d", word, a, b), d, x.ofTwo(word, a, b))
				}
			}
		}
	}
	// Each pair of numbers of at most three digits, with and without leading zeros.
	d := deskOf(sets(2))
	x := askingOf(d)
	for a := range 120 {
		for _, b := range []int{0, 3, 4, 10, 99, 100} {
			for _, form := range []string{"%d %d", "%02d %d", "%d %03d", "%d  %d", "%+d %d"} {
				line := "or " + fmt.Sprintf(form, a, b)
				sameLine(t, d, line, d, x.asked(line))
			}
		}
	}
}

func TestDeskLineOfFormulas(t *testing.T) {
	formulas := append(shortFormulas(5), ordinary()...)
	for _, l := range []impl.Logic{alone(), swapped(), shuffled(star(4)), star(6), shuffled(ring(6)), sets(3)} {
		d := withPast(l, 1)
		_, yes := boundsOf(l)
		for _, s := range formulas {
			sameLine(t, d, "always "+s, d, wantYes(otherThan(valuesOf(l, s), yes) == 0))
		}
	}
	// A formula has at most 60 bytes, and the line as many more as the word.
	d := deskOf(sets(2))
	sameLine(t, d, "always "+marked(54, "(a|!a)"), d, "yes")
	sameLine(t, d, "always "+marked(59, "1"), d, "no")
	sameLine(t, d, "always "+marked(59, "0"), d, "yes")
	sameLine(t, d, "always "+marked(60, "1"), d, "what")
}

func TestDeskLineOfChangedLines(t *testing.T) {
	d := impl.Desk{Now: gluedTo(sets(2), sets(2)), Past: []impl.Logic{sets(2)}}
	x := askingOf(d)
	known := map[string]string{}
	for _, line := range []string{"answers", "full", "with 1 3", "on 12 3", "always (a|!a)", "ring", "back", "glue 2", "part 1 2"} {
		eachChange(line, func(changed string) {
			want, ok := known[changed]
			if !ok {
				_, want = wantLine(d, changed)
				known[changed] = want
			}
			after, answer := impl.DeskLine(d, changed)
			if answer != want || answer != "ok" && !sameDesk(after, d) {
				t.Fatalf("%q is answered by %q, and leads to %v", changed, answer, after)
			}
		})
	}
	for size := range 3 {
		eachText("01 a9\x81", size, func(s string) {
			for _, word := range []string{"answers", "keeps ", "and 1", "and 1 ", "or ", "with ", "always", "always ", "on"} {
				sameLine(t, d, word+s, d, x.asked(word+s))
			}
		})
	}
}

func TestDeskLineOfManyLines(t *testing.T) {
	m := mixer(3)
	for _, d := range someDesks() {
		for _, line := range linesFrom(&m, 30) {
			want, answer := wantLine(d, line)
			sameLine(t, d, line, want, answer)
		}
		sameLine(t, d, "", d, "what")
	}
}

// Deeds said are the deeds done.
func TestDeskLineOfAllDeeds(t *testing.T) {
	for _, l := range []impl.Logic{swapped(), gluedTo(sets(2), sets(2)), shuffled(sets(3)), lopsided()} {
		d := withPast(l, 1)
		for text, a := range deedTexts {
			if a.A > 13 && a.B%9 != 0 {
				continue
			}
			want, ok := impl.DeskDo(d, a)
			sameLine(t, d, text, want, map[bool]string{true: "ok", false: "not"}[ok])
		}
	}
}

// Promise 52: lines one after the other.

func TestDeskSayOfManyLines(t *testing.T) {
	m := mixer(2)
	for _, d := range someDesks() {
		for range 3 {
			lines := linesFrom(&m, m.below(40))
			want, wanted := wantSay(d, lines)
			after, answers := impl.DeskSay(d, lines)
			if !slices.Equal(answers, wanted) || !sameDesk(after, want) || !impl.DeskOk(after) {
				t.Fatalf("%v: %q are answered by %q, and lead to %v", d, lines, answers, after)
			}
			if slices.Contains(answers, "") {
				t.Fatalf("%v: %q are answered by %q", d, lines, answers)
			}
			if _, always := impl.DeskSay(d, append(slices.Clone(lines), "always (a|!a)")); always[len(lines)] != "yes" {
				t.Fatalf("behind %q (a|!a) is told %q", lines, always[len(lines)])
			}
		}
	}
}

func TestDeskSayInTwoParts(t *testing.T) {
	m := mixer(5)
	for _, d := range someDesks() {
		lines := linesFrom(&m, 1+m.below(40))
		after, answers := impl.DeskSay(d, lines)
		for cut := 0; cut <= len(lines); cut += 1 + len(lines)/6 {
			first, ahead := impl.DeskSay(d, lines[:cut])
			second, behind := impl.DeskSay(first, lines[cut:])
			if !sameDesk(second, after) || !slices.Equal(append(ahead, behind...), answers) {
				t.Fatalf("%v: %q in two parts, %d first, are answered by %q and %q", d, lines, cut, ahead, behind)
			}
		}
	}
}

func TestDeskSayLineByLine(t *testing.T) {
	m := mixer(6)
	for _, d := range someDesks() {
		lines := linesFrom(&m, 20)
		after, answers := impl.DeskSay(d, lines)
		e := d
		for k, line := range lines {
			var answer string
			e, answer = impl.DeskLine(e, line)
			if answer != answers[k] {
				t.Fatalf("%v: %q, the line %d of %q, is answered by %q and by %q", d, line, k+1, lines, answers[k], answer)
			}
		}
		if !sameDesk(e, after) {
			t.Fatalf("%v: %q lead to %v and to %v", d, lines, after, e)
		}
	}
}

func TestDeskSayOfJustFortyLines(t *testing.T) {
	for _, d := range []impl.Desk{deskOf(sets(2)), withPast(ring(6), 8)} {
		for _, lines := range [][]string{nil, {}} {
			if after, answers := impl.DeskSay(d, lines); len(answers) != 0 || !sameDesk(after, d) {
				t.Errorf("no lines are answered by %q, and lead to %v", answers, after)
			}
		}
		for _, line := range []string{"answers", "glue 2", "", "back"} {
			lines := slices.Repeat([]string{line}, 40)
			want, wanted := wantSay(d, lines)
			if after, answers := impl.DeskSay(d, lines); !slices.Equal(answers, wanted) || !sameDesk(after, want) {
				t.Errorf("forty times %q: %q, %v", line, answers, after)
			}
			for _, more := range [][]string{append(lines, line), append(lines, ""), slices.Repeat(lines, 3)} {
				if after, answers := impl.DeskSay(d, more); len(answers) != 0 || !noDesk(after) {
					t.Errorf("%d times %q: %q, %v", len(more), line, answers, after)
				}
			}
		}
	}
}

// The rules for all functions: fixed results for others, new memory, and arguments that are not written to.

func TestDesksRefuseOthers(t *testing.T) {
	for what, d := range badDesks() {
		for _, a := range []impl.Deed{glue(2), times(0), addRing(), partBy(0, 0), goBack(), {Kind: 7}} {
			if after, ok := impl.DeskDo(d, a); ok || !noDesk(after) {
				t.Errorf("%s: DeskDo of %v = %v, %v", what, a, after, ok)
			}
			for _, list := range [][]impl.Deed{nil, {a}, {a, glue(2)}, slices.Repeat([]impl.Deed{a}, 41)} {
				if after, count := impl.DeskRun(d, list); count != 0 || !noDesk(after) {
					t.Errorf("%s: DeskRun of %v = %v, %d", what, list, after, count)
				}
			}
		}
		for _, line := range []string{"", "answers", "glue 2", "back", "with 0 0", "and 1 99", "always 1", "nothing"} {
			if after, answer := impl.DeskLine(d, line); answer != "" || !noDesk(after) {
				t.Errorf("%s: %q is answered by %q, and leads to %v", what, line, answer, after)
			}
			for _, lines := range [][]string{nil, {}, {line}, slices.Repeat([]string{line}, 41)} {
				if after, answers := impl.DeskSay(d, lines); len(answers) != 0 || !noDesk(after) {
					t.Errorf("%s: %q are answered by %q, and lead to %v", what, lines, answers, after)
				}
			}
		}
	}
}

// eachResult calls f with desks that functions return of a desk: of deeds that are done and that are not, of lists, of lines.
func eachResult(d impl.Desk, f func(what string, after impl.Desk)) {
	for _, a := range []impl.Deed{glue(2), glue(0), times(1), times(0), addRing(), partBy(0, 0), partBy(0, 99), goBack(), {Kind: 5}} {
		after, ok := impl.DeskDo(d, a)
		f(fmt.Sprintf("DeskDo of %v, %v", a, ok), after)
	}
	for _, list := range [][]impl.Deed{nil, {goBack()}, {glue(2), goBack()}, {partBy(0, 0), glue(2), addRing(), goBack()}, slices.Repeat([]impl.Deed{glue(2), partBy(1, 2)}, 12)} {
		after, count := impl.DeskRun(d, list)
		f(fmt.Sprintf("DeskRun of %v, %d", list, count), after)
	}
	for _, line := range []string{"", "answers", "glue 2", "back", "part 0 0", "and 0 0"} {
		after, answer := impl.DeskLine(d, line)
		f(fmt.Sprintf("DeskLine of %q, %s", line, answer), after)
	}
	for _, lines := range [][]string{nil, {"blocks"}, {"glue 2", "back"}, {"back", "ring", "times 1"}} {
		after, answers := impl.DeskSay(d, lines)
		f(fmt.Sprintf("DeskSay of %q, %q", lines, answers), after)
	}
}

func TestDesksAreNewMemory(t *testing.T) {
	for _, given := range []impl.Desk{deskOf(sets(2)), withPast(gluedTo(sets(2), sets(2)), 1), withPast(ring(6), 8), withPast(star(12), 3)} {
		own := deskCopy(given)
		// With spare room, so that putting something behind the list would write into it.
		own.Past = slices.Grow(own.Past, 3)
		var results []impl.Desk
		eachResult(own, func(what string, after impl.Desk) {
			newDesk(t, what, after, append(results, own)...)
			results = append(results, after)
		})
		if !sameDesk(own, given) {
			t.Errorf("%v became %v", given, own)
		}
	}
}

// Logics of a desk may share memory; those of the desks that are returned do not.
func TestDesksThatShareMemory(t *testing.T) {
	four := sets(2)
	shared := impl.Desk{Now: four, Past: slices.Repeat([]impl.Logic{four}, 4)}
	// Of yes and no, the first row has the same numbers as the opposites.
	both := swapped()
	both.Under[0] = both.Not
	for _, d := range []impl.Desk{shared, deskOf(both), {Now: both, Past: []impl.Logic{both, four, both}}} {
		eachResult(d, func(what string, after impl.Desk) { newDesk(t, what, after, d) })
	}
}

func TestListsAreNewMemory(t *testing.T) {
	d, _ := impl.DeskNew(2)
	lines := []string{"answers", "glue 2", "answers"}
	_, first := impl.DeskSay(d, lines)
	_, second := impl.DeskSay(d, lines)
	clear(first[:cap(first)])
	if !slices.Equal(second, []string{"4", "ok", "6"}) || !slices.Equal(lines, []string{"answers", "glue 2", "answers"}) {
		t.Errorf("%q are answered by %q", lines, second)
	}
	read, _ := impl.ReadJournal("glue 2\nring\n")
	other, _ := impl.ReadJournal("glue 2\nring\n")
	clear(read[:cap(read)])
	if !slices.Equal(other, []impl.Deed{glue(2), addRing()}) {
		t.Errorf("two lists that were read share memory: %v", other)
	}
}

func TestDesksWriteToNoArguments(t *testing.T) {
	desks := someDesks()
	for _, d := range badDesks() {
		desks = append(desks, d)
	}
	for k, d := range desks {
		if k%4 != 0 && len(d.Past) > 3 {
			d.Past = d.Past[:3]
		}
		untouchedDesk(t, d, func(d impl.Desk) {
			impl.DeskOk(d)
			eachResult(d, func(string, impl.Desk) {})
		})
	}
	list := append(make([]impl.Deed, 0, 5), glue(2), goBack(), partBy(1, 2))
	lines := append(make([]string, 0, 5), "glue 2", "back", "answers")
	impl.DeskRun(deskOf(sets(2)), list)
	impl.JournalText(list)
	impl.DeskSay(deskOf(sets(2)), lines)
	if !slices.Equal(list[:5], []impl.Deed{glue(2), goBack(), partBy(1, 2), {}, {}}) {
		t.Errorf("the deeds became %v", list[:5])
	}
	if !slices.Equal(lines[:5], []string{"glue 2", "back", "answers", "", ""}) {
		t.Errorf("the lines became %q", lines[:5])
	}
}

// What is said at one desk does not depend on what is said at another one.
func TestDesksDoNotRemember(t *testing.T) {
	d := deskOf(sets(2))
	lines := strings.Split("glue 2,answers,back,answers,ring,states,full", ",")
	first, answers := impl.DeskSay(d, lines)
	for _, other := range someDesks() {
		impl.DeskSay(other, lines)
		again, same := impl.DeskSay(d, lines)
		if !sameDesk(first, again) || !slices.Equal(answers, same) {
			t.Fatalf("%q are answered by %q, and by %q then", lines, answers, same)
		}
	}
}
