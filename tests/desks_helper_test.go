package tests

import (
	"fmt"
	"math"
	"slices"
	"strconv"
	"strings"
	"testing"

	"loop.example/orthologics/impl"
)

// The deeds of the tests, in few letters.
func glue(things int) impl.Deed         { return impl.Deed{Kind: impl.DkGlue, A: things} }
func times(things int) impl.Deed        { return impl.Deed{Kind: impl.DkTimes, A: things} }
func partBy(a int, b int) impl.Deed     { return impl.Deed{Kind: impl.DkPart, A: a, B: b} }
func addRing() impl.Deed                { return impl.Deed{Kind: impl.DkRing} }
func goBack() impl.Deed                 { return impl.Deed{Kind: impl.DkBack} }
func deskOf(now impl.Logic) impl.Desk   { return impl.Desk{Now: now} }
func noDesk(d impl.Desk) bool           { return nothing(d.Now) && len(d.Past) == 0 }
func logicsOf(d impl.Desk) []impl.Logic { return append([]impl.Logic{d.Now}, d.Past...) }

func sameDesk(d impl.Desk, e impl.Desk) bool {
	return slices.EqualFunc(logicsOf(d), logicsOf(e), sameLogic)
}

// withPast returns a desk with so many logics of before, no two of which next to each other are the same.
func withPast(now impl.Logic, count int) impl.Desk {
	d := deskOf(now)
	few := fewLogics()
	for k := range count {
		d.Past = append(d.Past, few[(k*5+count)%len(few)])
	}
	return d
}

// someDesks are desks of logics of each number of answers, with none, one, some, one less than MaxPast, and just MaxPast of before.
func someDesks() []impl.Desk {
	logics := append(fewLogics(), lopsided(), shuffled(pasted()), crowded(), ring(10), inOrder(gluedTo(sets(2), sets(2)), mixed(6)))
	var out []impl.Desk
	for k, l := range logics {
		out = append(out, withPast(l, []int{0, 1, 3, 7, 8}[k%5]))
	}
	return out
}

// badDesks are no desks, by what is wrong with them.
func badDesks() map[string]impl.Desk {
	out := map[string]impl.Desk{
		"nothing":                     {},
		"logics of before alone":      {Past: []impl.Logic{sets(2)}},
		"nine of before":              withPast(sets(2), 9),
		"nine of before, of one":      {Now: alone(), Past: slices.Repeat([]impl.Logic{alone()}, 9)},
		"twenty of before":            withPast(sets(2), 20),
		"nothing before":              {Now: sets(2), Past: []impl.Logic{{}}},
		"nothing, eight times before": {Now: sets(2), Past: make([]impl.Logic, 8)},
	}
	for what, l := range badLogics() {
		out[what] = deskOf(l)
		out[what+", some before"] = withPast(l, 3)
		for _, place := range []int{0, 3, 7} {
			d := withPast(star(6), 8)
			d.Past[place] = l
			out[what+", before, at "+strconv.Itoa(place)] = d
		}
		out[what+", alone before"] = impl.Desk{Now: sets(2), Past: []impl.Logic{l}}
	}
	return out
}

// knownParts remembers the parts of logics, for they take long to find.
var knownParts = map[string][]int{}

// wantPartOf is the part that two answers make: what all parts with both have in common.
func wantPartOf(l impl.Logic, a int, b int) impl.Logic {
	name := fmt.Sprint(l)
	if knownParts[name] == nil {
		knownParts[name] = partsOf(l)
	}
	return wantPart(l, wantMade(l, knownParts[name], 1<<a|1<<b))
}

// wantMadeBy is what a deed makes of a logic; nothing if it makes none.
func wantMadeBy(l impl.Logic, a impl.Deed) impl.Logic {
	n := len(l.Not)
	few := a.B == 0 && a.A >= 0 && a.A <= 3
	switch {
	case a.Kind == impl.DkGlue && few && a.A > 0 && n > 1 && n+1<<a.A-2 <= 12:
		return gluedTo(l, sets(a.A))
	case a.Kind == impl.DkTimes && few && n<<a.A <= 12:
		return pairsOf(l, sets(a.A))
	case a == addRing() && n > 1 && n <= 8:
		return gluedTo(l, ring(6))
	case a.Kind == impl.DkPart && min(a.A, a.B) >= 0 && max(a.A, a.B) < n:
		return wantPartOf(l, a.A, a.B)
	}
	return impl.Logic{}
}

// wantDo is a desk after a deed, and whether it can be done.
func wantDo(d impl.Desk, a impl.Deed) (impl.Desk, bool) {
	before := len(d.Past)
	if a == goBack() {
		if before == 0 {
			return d, false
		}
		return impl.Desk{Now: d.Past[before-1], Past: d.Past[:before-1]}, true
	}
	made := wantMadeBy(d.Now, a)
	if nothing(made) || sameLogic(made, d.Now) {
		return d, false
	}
	past := append(slices.Clone(d.Past), d.Now)
	if before == 8 {
		past = past[1:]
	}
	return impl.Desk{Now: made, Past: past}, true
}

// wantRun is a desk after some deeds, and how many of them were done.
func wantRun(d impl.Desk, list []impl.Deed) (impl.Desk, int) {
	count := 0
	for _, a := range list {
		after, ok := wantDo(d, a)
		if d = after; ok {
			count++
		}
	}
	return d, count
}

// deedTexts has each deed that has a text, by its text.
var deedTexts = allTexts()

func allTexts() map[string]impl.Deed {
	out := map[string]impl.Deed{"ring": addRing(), "back": goBack()}
	for a := range 100 {
		if a < 10 {
			out[fmt.Sprintf("glue %d", a)] = glue(a)
			out[fmt.Sprintf("times %d", a)] = times(a)
		}
		for b := range 100 {
			out[fmt.Sprintf("part %d %d", a, b)] = partBy(a, b)
		}
	}
	return out
}

// manyNumbers are numbers of answers and things, and others: some that are one below another one in few bits alone.
func manyNumbers(answers int) []int {
	var out []int
	for a := -2; a <= answers+1; a++ {
		out = append(out, a)
	}
	return append(out, 13, 31, 32, 33, 63, 64, 65, 99, 100, 127, 128, 1<<8, 1<<16, 1<<32, 1<<32+1, 1<<62, math.MaxInt, math.MaxInt-1, math.MinInt, math.MinInt+1, -64, -63)
}

// otherKinds are numbers of no kinds of deeds.
func otherKinds() []int {
	return []int{-1, -2, 5, 6, 64, 256, 1 << 32, math.MaxInt, math.MinInt}
}

// deedsFor are deeds to be tried with a logic of so many answers: most of them that name answers or things, and others.
func deedsFor(answers int) []impl.Deed {
	var out []impl.Deed
	for a := range answers {
		for b := range answers {
			out = append(out, partBy(a, b))
		}
	}
	for kind := range 5 {
		for _, n := range manyNumbers(answers) {
			out = append(out, impl.Deed{Kind: kind, A: n}, impl.Deed{Kind: kind, B: n}, impl.Deed{Kind: kind, A: n, B: n}, impl.Deed{Kind: kind, A: 1, B: n}, impl.Deed{Kind: kind, A: n, B: 1})
		}
	}
	for _, kind := range otherKinds() {
		out = append(out, impl.Deed{Kind: kind}, impl.Deed{Kind: kind, A: 1}, impl.Deed{Kind: kind, A: 1, B: 2})
	}
	return out
}

// mixer counts in a way that is hard to foresee, and the same each time.
type mixer uint64

// below returns the next number, below a number.
func (m *mixer) below(n int) int {
	*m = *m*6364136223846793005 + 1442695040888963407
	return int(uint64(*m) >> 33 % uint64(n))
}

// deedsFrom returns a list of so many deeds of all kinds, among them some that cannot be done.
func deedsFrom(m *mixer, count int) []impl.Deed {
	var out []impl.Deed
	for range count {
		switch m.below(8) {
		case 0, 1:
			out = append(out, glue(m.below(4)))
		case 2:
			out = append(out, times(m.below(4)))
		case 3:
			out = append(out, addRing())
		case 4, 5:
			out = append(out, partBy(m.below(8), m.below(8)))
		default:
			out = append(out, goBack())
		}
	}
	return out
}

// textsOf are the texts of deeds, as fmt writes them.
func textsOf(list []impl.Deed) []string {
	var out []string
	for _, a := range list {
		switch a.Kind {
		case impl.DkPart:
			out = append(out, fmt.Sprintf("part %d %d", a.A, a.B))
		case impl.DkGlue, impl.DkTimes:
			out = append(out, fmt.Sprintf("%s %d", [...]string{"glue", "times"}[a.Kind], a.A))
		default:
			out = append(out, [...]string{impl.DkRing: "ring", impl.DkBack: "back"}[a.Kind])
		}
	}
	return out
}

// deedLists are journals, by what they are: none, short ones, of all kinds, long ones.
func deedLists() map[string][]impl.Deed {
	m := mixer(7)
	out := map[string][]impl.Deed{
		"nil":               nil,
		"empty":             {},
		"one":               {glue(2)},
		"one without words": {addRing()},
		"the same twice":    {partBy(1, 2), partBy(1, 2)},
		"all kinds":         {glue(2), times(1), addRing(), partBy(1, 3), goBack()},
		"highest numbers":   {glue(9), times(9), partBy(99, 99), partBy(0, 99), partBy(99, 0), partBy(10, 9)},
		"lowest numbers":    {glue(0), times(0), partBy(0, 0)},
		"forty":             deedsFrom(&m, 40),
		"forty-one":         deedsFrom(&m, 41),
		"a hundred":         deedsFrom(&m, 100),
	}
	for k := range 8 {
		out[fmt.Sprintf("mixed %d", k)] = deedsFrom(&m, 12+k)
	}
	return out
}

// noDeeds are texts that are those of no deed, by what is wrong with them; none of them has a newline.
func noDeeds() map[string]string {
	return map[string]string{
		"empty":                        "",
		"a space":                      " ",
		"a word alone":                 "glue",
		"another word alone":           "times",
		"a part of nothing":            "part",
		"a part of one":                "part 1",
		"a part of three":              "part 1 2 3",
		"a word with a space behind":   "ring ",
		"another one":                  "back ",
		"a number where there is none": "ring 0",
		"another number":               "back 1",
		"two numbers for one":          "glue 1 0",
		"two other ones":               "times 1 1",
		"a space behind":               "glue 1 ",
		"a space behind a part":        "part 1 2 ",
		"a space ahead":                " glue 1",
		"a space ahead of a word":      " ring",
		"two spaces":                   "glue  1",
		"two spaces in a part":         "part 1  2",
		"two spaces ahead of both":     "part  1 2",
		"a space instead of a number":  "glue  ",
		"a tab":                        "glue\t1",
		"a tab in a part":              "part 1\t2",
		"a tab behind":                 "ring\t",
		"a carriage return":            "ring\r",
		"one behind a number":          "glue 2\r",
		"a leading zero":               "glue 01",
		"leading zeros":                "times 00",
		"a leading zero in a part":     "part 1 02",
		"one in the first number":      "part 01 2",
		"a zero twice":                 "part 00 0",
		"a plus":                       "glue +1",
		"a plus in a part":             "part 1 +2",
		"a minus":                      "glue -1",
		"a minus in a part":            "part -1 2",
		"a minus ahead of zero":        "glue -0",
		"one in a part":                "part 0 -0",
		"two digits":                   "glue 10",
		"two other digits":             "times 12",
		"three digits":                 "part 1 100",
		"three digits first":           "part 100 1",
		"many digits":                  "part 1 " + strings.Repeat("9", 400),
		"a number that turns round":    "glue 18446744073709551617",
		"another one that turns":       "part 4294967297 1",
		"a number in parts":            "part 1_0 2",
		"a number with a point":        "glue 1.0",
		"a number with an exponent":    "part 1e1 2",
		"a number of another kind":     "glue 0x1",
		"digits of other writings":     "glue ٢",
		"wide digits":                  "glue ２",
		"no space":                     "glue1",
		"no space in a part":           "part 12",
		"a comma":                      "part 1,2",
		"a large letter":               "Glue 1",
		"large letters":                "RING",
		"a word too long":              "glued 1",
		"a word too short":             "glu 1",
		"another word":                 "rings",
		"no word":                      "1",
		"no word, but a space":         " 1",
		"an other word with a number":  "ring6 1",
		"a word twice":                 "ring ring",
		"a word behind":                "back ring",
		"a question":                   "answers",
		"a question of two":            "with 1 2",
		"a zero byte":                  "ring\x00",
		"a zero byte in a number":      "glue 1\x00",
		"a high bit":                   "ring\xe7",
		"a high bit on a letter":       string([]byte{'r' | 0x80, 'i', 'n', 'g'}),
		"a high bit on a digit":        string([]byte{'g', 'l', 'u', 'e', ' ', '1' | 0x80}),
		"a high bit on a space":        string([]byte{'g', 'l', 'u', 'e', ' ' | 0x80, '1'}),
		"a space that does not break":  "glue\u00a01",
		"a mark ahead":                 "\ufeffring",
		"no text":                      "\xff\xfe",
		"very long":                    strings.Repeat("part 1 2 ", 1<<14),
		"very many spaces":             "glue" + strings.Repeat(" ", 1<<16) + "1",
		"very many letters":            strings.Repeat("g", 1<<16),
	}
}

// asking is a desk with what the answers to questions about it are made of.
type asking struct {
	l    impl.Logic
	made tables
	with agreement
}

func askingOf(d impl.Desk) asking { return asking{d.Now, tablesOf(d.Now), agreementOf(d.Now)} }

func wantYes(holds bool) string {
	return map[bool]string{true: "yes", false: "no"}[holds]
}

// word is the answer to a question of one word, and whether there is such a question.
func (x asking) word(line string) (string, bool) {
	_, yes := boundsOf(x.l)
	switch line {
	case "answers":
		return fmt.Sprint(len(x.l.Under)), true
	case "atoms":
		return fmt.Sprint(len(wantAtoms(x.l.Under))), true
	case "blocks":
		return fmt.Sprint(len(wantBlocks(x.l))), true
	case "states":
		return fmt.Sprint(len(wantStates(x.l))), true
	case "centre":
		return fmt.Sprint(len(x.with.centre())), true
	case "high":
		return fmt.Sprint(wantHeights(x.l)[yes]), true
	case "keeps":
		return wantYes(wantKeeps(x.l)), true
	case "modular":
		return wantYes(wantModular(x.l)), true
	case "sets":
		return wantYes(splitsAll(x.l)), true
	case "full":
		return wantYes(wantFull(x.l)), true
	}
	return "", false
}

// ofTwo is the answer to a question about two numbers.
func (x asking) ofTwo(word string, a int, b int) string {
	if max(a, b) >= len(x.l.Not) {
		return "none"
	}
	switch word {
	case "with":
		return wantYes(x.with.with(a, b))
	case "and":
		return fmt.Sprint(x.made.and[a][b])
	case "or":
		return fmt.Sprint(x.made.or[a][b])
	}
	return fmt.Sprint(x.made.and[a][x.made.or[x.l.Not[a]][b]])
}

// The words of all questions but the one for formulas.
func words() []string {
	return []string{"answers", "atoms", "blocks", "states", "centre", "high", "keeps", "modular", "sets", "full"}
}

func wordsOfTwo() []string { return []string{"with", "and", "or", "on"} }

// pairTexts has for each two numbers of one or two digits how they stand behind a word.
var pairTexts = allPairs()

func allPairs() map[string][2]int {
	out := map[string][2]int{}
	for a := range 100 {
		for b := range 100 {
			out[fmt.Sprintf(" %d %d", a, b)] = [2]int{a, b}
		}
	}
	return out
}

// asked is the answer to a line that is no deed.
func (x asking) asked(line string) string {
	if answer, ok := x.word(line); ok {
		return answer
	}
	if s, ok := strings.CutPrefix(line, "always "); ok && isFormula(s) {
		_, yes := boundsOf(x.l)
		return wantYes(otherThan(valuesOf(x.l, s), yes) == 0)
	}
	for _, word := range wordsOfTwo() {
		if rest, ok := strings.CutPrefix(line, word); ok {
			if two, ok := pairTexts[rest]; ok {
				return x.ofTwo(word, two[0], two[1])
			}
		}
	}
	return "what"
}

// wantLine is a desk after a line, and the answer.
func wantLine(d impl.Desk, line string) (impl.Desk, string) {
	deed, isDeed := deedTexts[line]
	if !isDeed {
		return d, askingOf(d).asked(line)
	}
	after, ok := wantDo(d, deed)
	return after, map[bool]string{true: "ok", false: "not"}[ok]
}

func wantSay(d impl.Desk, lines []string) (impl.Desk, []string) {
	var answers []string
	for _, line := range lines {
		after, answer := wantLine(d, line)
		d, answers = after, append(answers, answer)
	}
	return d, answers
}

// linesFrom returns so many lines of all sorts.
func linesFrom(m *mixer, count int) []string {
	formulas := []string{"(a|!a)", "a", "(a", fourMeetings, "", "!(!(a|0)&(b|(c&1)))"}
	others := []string{"", "what", "glue", "ring ", "with 1", "and 01 2", "ANSWERS", "always"}
	var out []string
	for range count {
		switch m.below(6) {
		case 0, 1:
			out = append(out, textsOf(deedsFrom(m, 1))...)
		case 2:
			out = append(out, words()[m.below(10)])
		case 3:
			out = append(out, fmt.Sprintf("%s %d %d", wordsOfTwo()[m.below(4)], m.below(9), m.below(9)))
		case 4:
			out = append(out, "always "+formulas[m.below(len(formulas))])
		default:
			out = append(out, others[m.below(len(others))])
		}
	}
	return out
}

// noLines are lines that are none, by what is wrong with them.
func noLines() map[string]string {
	out := map[string]string{
		"what":                         "what",
		"ok":                           "ok",
		"another word":                 "answer",
		"a question behind":            "answers atoms",
		"a number behind":              "atoms 1",
		"two numbers behind":           "atoms 1 2",
		"numbers behind a yes":         "keeps 1 2",
		"a space behind a word":        "answers ",
		"a space ahead of a word":      " answers",
		"a newline behind a word":      "answers\n",
		"a carriage return":            "blocks\r",
		"a zero byte":                  "high\x00",
		"a large letter":               "Keeps",
		"large letters":                "MODULAR",
		"a word in two":                "cen tre",
		"a word of one":                "set",
		"a high bit":                   "full\xec",
		"always alone":                 "always",
		"always and a space":           "always ",
		"always and two spaces":        "always  a",
		"always, a space behind":       "always a ",
		"always, a newline behind":     "always a\n",
		"always, a tab":                "always\ta",
		"always without a space":       "alwaysa",
		"always without another space": "always(a|!a)",
		"always in large letters":      "ALWAYS a",
		"always with a space ahead":    " always a",
		"always of two formulas":       "always a b",
		"always of 61 bytes":           "always " + marked(60, "a"),
		"always with a number":         "always 2",
		"with alone":                   "with",
		"with and a space":             "with ",
		"with one number":              "with 1",
		"with one, a space behind":     "with 1 ",
		"with three numbers":           "with 1 2 3",
		"a space behind two numbers":   "with 1 2 ",
		"a space ahead of with":        " with 1 2",
		"two spaces":                   "with  1 2",
		"two spaces between":           "and 1  2",
		"a tab between":                "or 1\t2",
		"a newline behind numbers":     "on 1 2\n",
		"a return behind numbers":      "on 1 2\r",
		"a leading zero":               "with 01 2",
		"a leading zero second":        "with 1 02",
		"zeros":                        "and 00 0",
		"zeros second":                 "and 0 00",
		"three digits":                 "or 100 1",
		"three digits second":          "or 1 100",
		"three digits with zeros":      "or 001 1",
		"many digits":                  "on 1 " + strings.Repeat("1", 400),
		"a number that turns round":    "on 18446744073709551617 1",
		"a minus":                      "with -1 2",
		"a minus second":               "with 1 -2",
		"a minus ahead of zero":        "and -0 0",
		"a plus":                       "and +1 2",
		"a plus second":                "and 1 +2",
		"a letter":                     "and a b",
		"a letter behind":              "and 1 2a",
		"a point":                      "or 1.0 2",
		"another kind of number":       "or 0x1 2",
		"digits of other writings":     "on ١ ٢",
		"a high bit on a digit":        string([]byte{'o', 'n', ' ', '1', ' ', '2' | 0x80}),
		"a comma":                      "with 1,2",
		"no space":                     "with1 2",
		"large letters with numbers":   "WITH 1 2",
		"a large letter with numbers":  "And 1 2",
		"another word with numbers":    "not 1 2",
		"no word with numbers":         " 1 2",
		"two numbers alone":            "1 2",
		"a word longer":                "with and 1 2",
	}
	for what, s := range noDeeds() {
		if s != "answers" && s != "with 1 2" {
			out["as a deed, "+what] = s
		}
	}
	for what, s := range noFormulas() {
		out["as a formula, "+what] = "always " + s
	}
	return out
}

// newDesk fails if a desk that was made shares memory, up to its capacity, with another one, or if two logics of it do.
func newDesk(t *testing.T, what string, made impl.Desk, others ...impl.Desk) {
	t.Helper()
	var given []impl.Logic
	for _, d := range others {
		given = append(given, logicsOf(d)...)
	}
	logics := logicsOf(made)
	for _, l := range made.Past[len(made.Past):cap(made.Past)] {
		if !nothing(l) {
			logics = append(logics, l)
		}
	}
	for k, l := range logics {
		newMemory(t, what, l, slices.Concat(logics[:k], logics[k+1:], given)...)
	}
	full := made.Past[:cap(made.Past)]
	kept := slices.Clone(full)
	clear(full)
	for _, d := range others {
		if slices.ContainsFunc(d.Past, nothing) {
			t.Fatalf("%s: the logics of before share memory", what)
		}
	}
	copy(full, kept)
}

// deskCopy returns a desk that has memory of its own.
func deskCopy(d impl.Desk) impl.Desk {
	var out impl.Desk
	for k, l := range logicsOf(d) {
		own := impl.Logic{Under: copied(l.Under), Not: slices.Clone(l.Not)}
		if k == 0 {
			out.Now = own
		} else {
			out.Past = append(out.Past, own)
		}
	}
	return out
}

// untouchedDesk runs f and fails if the desk, or what lies behind its lists, is another one then.
func untouchedDesk(t *testing.T, d impl.Desk, f func(d impl.Desk)) {
	t.Helper()
	untouchedLogic(t, d.Now, func(now impl.Logic) {
		own := deskCopy(d)
		full := append(make([]impl.Logic, 0, len(d.Past)+2), own.Past...)
		f(impl.Desk{Now: now, Past: full})
		behind := full[:cap(full)]
		if !slices.EqualFunc(full, d.Past, sameLogic) || !nothing(behind[len(full)]) || !nothing(behind[len(full)+1]) {
			t.Fatalf("of before: %v became %v", d.Past, behind)
		}
	})
	for k := range d.Past {
		untouchedLogic(t, d.Past[k], func(l impl.Logic) {
			own := deskCopy(d)
			own.Past[k] = l
			f(own)
		})
	}
}
