package tests

import (
	"slices"
	"strings"
	"testing"

	"loop.example/orthologics/impl"
)

// The formulas of the promises.
const (
	fourMeetings = "((a&b)|((a&!b)|((!a&b)|(!a&!b))))"
	lawLonger    = "(a|(!a&(a|b)))"
	lawShorter   = "(a|b)"
	splitWhole   = "(a&(b|c))"
	splitParts   = "((a&b)|(a&c))"
)

// isFormula makes a text shorter from the inside: each letter and each bound becomes F, and so does F with a mark ahead, or two of them in brackets.
func isFormula(s string) bool {
	if len(s) > 60 || strings.Contains(s, "F") {
		return false
	}
	s = strings.NewReplacer("a", "F", "b", "F", "c", "F", "0", "F", "1", "F").Replace(s)
	inside := strings.NewReplacer("!F", "F", "(F&F)", "F", "(F|F)", "F")
	for shorter := inside.Replace(s); shorter != s; shorter = inside.Replace(s) {
		s = shorter
	}
	return s == "F"
}

// wantValue reads a formula from its end to its beginning, so that at a mark or an opening bracket the answers that are behind it are known.
func wantValue(l impl.Logic, made tables, s string, standFor [3]int) int {
	var answers []int
	var rows [][][]int
	for k := len(s) - 1; k >= 0; k-- {
		n := len(answers)
		switch sign := s[k]; sign {
		case 'a', 'b', 'c':
			answers = append(answers, standFor[sign-'a'])
		case '0':
			answers = append(answers, made.no)
		case '1':
			answers = append(answers, l.Not[made.no])
		case '!':
			answers[n-1] = l.Not[answers[n-1]]
		case '&':
			rows = append(rows, made.and)
		case '|':
			rows = append(rows, made.or)
		case '(':
			last := len(rows) - 1
			answers = append(answers[:n-2], rows[last][answers[n-1]][answers[n-2]])
			rows = rows[:last]
		}
	}
	return answers[0]
}

// valuesOf are the answers that a formula is for all that its letters may stand for: for c first, and then for b and a.
func valuesOf(l impl.Logic, s string) []int {
	made := tablesOf(l)
	var out []int
	eachTriple(l, func(a, b, c int) {
		out = append(out, wantValue(l, made, s, [3]int{a, b, c}))
	})
	return out
}

// otherThan returns how many of some answers are other ones than an answer.
func otherThan(answers []int, a int) int {
	count := 0
	for _, b := range answers {
		if b != a {
			count++
		}
	}
	return count
}

// shortFormulas are all formulas of at most so many bytes, shorter ones first.
func shortFormulas(most int) []string {
	bySize := [][]string{nil, {"a", "b", "c", "0", "1"}}
	for size := 2; size <= most; size++ {
		var out []string
		for _, s := range bySize[size-1] {
			out = append(out, "!"+s)
		}
		for first := 1; first < size-3; first++ {
			for _, s := range bySize[first] {
				for _, t := range bySize[size-3-first] {
					out = append(out, "("+s+"&"+t+")", "("+s+"|"+t+")")
				}
			}
		}
		bySize = append(bySize, out)
	}
	return slices.Concat(bySize...)
}

// marked has so many exclamation marks ahead of a formula.
func marked(marks int, s string) string { return strings.Repeat("!", marks) + s }

// leaf is the letter, and turn the sign, that is at a place of a formula of many letters.
func leaf(k int) string { return "abc"[k%3 : k%3+1] }
func turn(k int) string { return "&|"[k%2 : k%2+1] }

// leaningLeft, leaningRight and balanced are formulas of so many letters, that have 4 bytes a letter, less 3.
func leaningLeft(leaves int) string {
	out := leaf(0)
	for k := 1; k < leaves; k++ {
		out = "(" + out + turn(k) + leaf(k) + ")"
	}
	return out
}

func leaningRight(leaves int) string {
	out := leaf(0)
	for k := 1; k < leaves; k++ {
		out = "(" + leaf(k) + turn(k) + out + ")"
	}
	return out
}

func balanced(first int, leaves int) string {
	if leaves == 1 {
		return leaf(first)
	}
	half := leaves / 2
	return "(" + balanced(first, half) + turn(half) + balanced(first+half, leaves-half) + ")"
}

// longFormulas are formulas of just 60 bytes.
func longFormulas() []string {
	return []string{
		marked(59, "a"), marked(59, "1"), marked(3, leaningLeft(15)), marked(3, leaningRight(15)), marked(3, balanced(0, 15)),
		"(" + marked(28, "c") + "|" + marked(27, "a") + ")",
		"((" + marked(23, "0") + "&b)|(" + marked(24, "a") + "&c))",
	}
}

// ordinary are formulas of all kinds: letters, bounds, opposites, what promises are about, and long ones.
func ordinary() []string {
	return slices.Concat([]string{
		"a", "b", "c", "0", "1", "!a", "!c", "!0", "!1", "!!b", "!!!a", "!!!!c",
		"(a&a)", "(b|c)", "(0|1)", "(1&c)", "(a&!b)", "(a|!b)", "(!c&b)", "!(a&b)", "!(a|b)", "(!a|!b)", "(a|!a)", "!(a&!a)",
		fourMeetings, lawLonger, splitWhole, splitParts, "((a|b)&(a|c))", "(a|(b&c))", "((a&b)|c)", "(!a|(a&b))", "(a&(!a|b))",
		"(!!(a|!0)&!(!b|(1&c)))", "(b&(!b|(a&(!a|c))))",
	}, longFormulas())
}

// mixedFormulas are a few formulas that have all signs between them.
func mixedFormulas() []string {
	return []string{"!b", "1", "(c&!b)", "!(!(a|0)&(b|(c&1)))", lawLonger, splitParts}
}

// lettersInOrder are all orders of the three letters.
func lettersInOrder() [][3]string {
	return [][3]string{{"a", "b", "c"}, {"a", "c", "b"}, {"b", "a", "c"}, {"b", "c", "a"}, {"c", "a", "b"}, {"c", "b", "a"}}
}

// turnedBy returns the numbers of twelve answers from a number on, and then those ahead of it.
func turnedBy(first int) []int {
	row := numbersOf(1<<12 - 1)
	return append(row[first:], row[:first]...)
}

// wantDual exchanges signs one by one.
func wantDual(s string) string {
	return strings.NewReplacer("&", "|", "|", "&", "0", "1", "1", "0").Replace(s)
}

// noFormulas are texts that are none, by what is wrong with them.
func noFormulas() map[string]string {
	return map[string]string{
		"empty":                      "",
		"a mark alone":               "!",
		"many marks alone":           marked(60, ""),
		"brackets alone":             "()",
		"an opening bracket alone":   "(",
		"a closing bracket alone":    ")",
		"no brackets":                "a&b",
		"no brackets inside":         "(a&b|c)",
		"three formulas":             "(a&b&c)",
		"one formula in brackets":    "(a)",
		"marked, in brackets":        "(!a)",
		"brackets twice":             "((a&b))",
		"not closed":                 "(a&b",
		"not closed inside":          "((a&b|c)",
		"not opened":                 "a&b)",
		"closed twice":               "(a&b))",
		"opened twice":               "((a&b)",
		"nothing first":              "(&b)",
		"nothing second":             "(a&)",
		"nothing at all":             "(&)",
		"no sign between":            "(ab)",
		"a mark between":             "(a!b)",
		"two signs":                  "(a&&b)",
		"two other signs":            "(a&|b)",
		"a mark behind":              "a!",
		"a mark behind, in brackets": "(a!&b)",
		"a mark ahead of a sign":     "(a!&!b)",
		"a mark at the end":          "(a&b!)",
		"two letters":                "ab",
		"a letter behind":            "(a&b)c",
		"a letter ahead":             "a(a&b)",
		"a formula behind":           "(a&b)(a&b)",
		"a bound behind":             "a0",
		"two digits":                 "10",
		"another digit":              "2",
		"another letter":             "d",
		"another letter inside":      "(a&d)",
		"the letter ahead of a":      "`",
		"a large letter":             "A",
		"a large letter inside":      "(B|a)",
		"a word":                     "yes",
		"a space":                    " ",
		"a space ahead":              " a",
		"a space behind":             "a ",
		"a space behind a mark":      "! a",
		"spaces inside":              "(a & b)",
		"a tab behind":               "a\t",
		"a newline behind":           "a\n",
		"a zero byte":                "\x00",
		"a zero byte behind":         "a\x00",
		"square brackets":            "[a&b]",
		"curly brackets":             "{a&b}",
		"another pair of brackets":   "(a&b]",
		"turned brackets":            ")a&b(",
		"a comma":                    "(a,b)",
		"a plus":                     "(a+b)",
		"a minus":                    "-a",
		"a wave":                     "~a",
		"signs of other writings":    "(a∧b)",
		"an other mark":              "¬a",
		"a letter with a mark":       "á",
		"an other a":                 "а",
		"a wide a":                   "ａ",
		"a byte above 127":           "\xe1",
		"a high bit on a letter":     string([]byte{'a' | 0x80}),
		"a high bit on a bracket":    string([]byte{'(' | 0x80, 'a', '&', 'b', ')'}),
		"a high bit on a sign":       string([]byte{'(', 'a', '&' | 0x80, 'b', ')'}),
		"a high bit at the end":      string([]byte{'(', 'a', '&', 'b', ')' | 0x80}),
		"bytes that are no text":     "\xff\xfe",
		"one behind, no text":        "a\xff",
		"the sign for all":           "F",
		"61 bytes":                   marked(60, "a"),
		"61 bytes in brackets":       leaningLeft(16),
		"62 bytes":                   marked(1, leaningRight(16)),
		"61 letters":                 strings.Repeat("a", 61),
		"very long":                  marked(1<<16, "a"),
		"very many brackets":         strings.Repeat("(", 1<<20),
		"very deep":                  strings.Repeat("(a&", 1<<16) + "a" + strings.Repeat(")", 1<<16),
	}
}

// eachChange calls f with all texts that a text becomes by one byte put in, taken out or put in the place of another one.
func eachChange(s string, f func(changed string)) {
	for k := 0; k <= len(s); k++ {
		for sign := range 256 {
			f(s[:k] + string([]byte{byte(sign)}) + s[k:])
			if k < len(s) {
				f(s[:k] + string([]byte{byte(sign)}) + s[k+1:])
			}
		}
		if k < len(s) {
			f(s[:k] + s[k+1:])
		}
	}
}

// eachText calls f with all texts of just so many bytes that are all among some signs.
func eachText(signs string, size int, f func(s string)) {
	everyList(size, 0, len(signs)-1, func(list []int) {
		text := make([]byte, size)
		for k, place := range list {
			text[k] = signs[place]
		}
		f(string(text))
	})
}

// otherLetters returns a formula with other letters in the places of a, b and c.
func otherLetters(s string, letters [3]string) string {
	return strings.NewReplacer("a", letters[0], "b", letters[1], "c", letters[2]).Replace(s)
}

// withLetters returns what a formula makes of two answers, if c stands for the first one.
func withLetters(s string) ofTwo {
	return func(l impl.Logic, a int, b int) int { return impl.ValueOf(l, s, a, b, a) }
}

// sameValues fails if ValueOf tells other answers than these of a formula.
func sameValues(t *testing.T, l impl.Logic, s string, want []int) {
	t.Helper()
	k := 0
	eachTriple(l, func(a, b, c int) {
		if value := impl.ValueOf(l, s, a, b, c); value != want[k] {
			t.Fatalf("ValueOf(%v, %q, %d, %d, %d) = %d; want %d", l, s, a, b, c, value, want[k])
		}
		k++
	})
}
