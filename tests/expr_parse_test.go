package tests

import (
	"slices"
	"strings"
	"testing"

	"loop.example/g00339/impl"
)

func checkParse(t *testing.T, s string, want ...impl.Ex) {
	t.Helper()
	if e, at, ok := impl.ParseExpr(s); !slices.Equal(e, want) || at != 0 || !ok {
		t.Errorf("ParseExpr(%q): %v %d %v, want %v", s, e, at, ok, want)
	}
}

func checkParseFault(t *testing.T, s string, want int) {
	t.Helper()
	if e, at, ok := impl.ParseExpr(s); len(e) != 0 || at != want || ok {
		t.Errorf("ParseExpr(%q): %v %d %v, want place %d", s, e, at, ok, want)
	}
}

func parsesAsPlain(t *testing.T, s string) {
	t.Helper()
	want, place, good := plainParse(s)
	if e, at, ok := impl.ParseExpr(s); !slices.Equal(e, want) || at != place || ok != good {
		t.Errorf("ParseExpr(%q): %v %d %v, want %v %d %v", s, e, at, ok, want, place, good)
	}
}

func TestStrengths(t *testing.T) {
	want := map[string]int{"||": 1, "&&": 2, "==": 3, "!=": 3, "<": 4, "<=": 4, "+": 5, "-": 5, "*": 6, "/": 6, "%": 6, "<<": 7}
	for _, s := range allSigns() {
		n, right, ok := impl.StrengthOf(s)
		if n != want[s] || right != (s == "<<") || ok != (want[s] > 0) {
			t.Errorf("StrengthOf(%q): %d %v %v", s, n, right, ok)
		}
	}
	for _, s := range []string{"", " ", "+ ", "<<<", "a", "0", "&", "|", ">", ">=", "\x00", "\xff", strings.Repeat("+", 1000)} {
		if n, right, ok := impl.StrengthOf(s); n != 0 || right || ok {
			t.Errorf("StrengthOf(%q): %d %v %v", s, n, right, ok)
		}
	}
}

func TestParseOfSingleOnes(t *testing.T) {
	a := exName("a")
	checkParse(t, "0", exNum(0))
	checkParse(t, "999999999", exNum(999999999))
	checkParse(t, "abcdefgh", exName("abcdefgh"))
	checkParse(t, " \na\n ", a)
	checkParse(t, "(a)", a)
	checkParse(t, "((a))", a)
	checkParse(t, "-a", exMinus(), a)
	checkParse(t, "!5", exNot(), exNum(5))
	checkParse(t, "-5", exMinus(), exNum(5))
	checkParse(t, "--!-a", exMinus(), exMinus(), exNot(), exMinus(), a)
	checkParse(t, "-(a+a)", exMinus(), exTwo("+"), a, a)
	checkParse(t, "!(a)", exNot(), a)
	checkParse(t, "a--a", exTwo("-"), a, exMinus(), a)
	checkParse(t, "a!=!a", exTwo("!="), a, exNot(), a)
}

func TestParseByStrengths(t *testing.T) {
	a, b, c := exName("a"), exName("b"), exName("c")
	for _, first := range signsOfTwo() {
		for _, second := range signsOfTwo() {
			s := "a" + first + "b" + second + "c"
			if plainStrength(second) > plainStrength(first) || first == "<<" && second == "<<" {
				checkParse(t, s, exTwo(first), a, exTwo(second), b, c)
			} else {
				checkParse(t, s, exTwo(second), exTwo(first), a, b, c)
			}
			checkParse(t, "(a"+first+"b)"+second+"c", exTwo(second), exTwo(first), a, b, c)
			checkParse(t, "a"+first+"(b"+second+"c)", exTwo(first), a, exTwo(second), b, c)
		}
		checkParse(t, "-a"+first+"!b", exTwo(first), exMinus(), a, exNot(), b)
	}
	checkParse(t, "a<<b<<c<<a", exTwo("<<"), a, exTwo("<<"), b, exTwo("<<"), c, a)
	checkParse(t, "a-b-c-a", exTwo("-"), exTwo("-"), exTwo("-"), a, b, c, a)
}

func TestParseOfAllShortTexts(t *testing.T) {
	words := []string{"a", "1", "-", "!", "+", "<<", "(", ")", "=", "?", "00", "\n"}
	texts := []string{""}
	for range 5 {
		var longer []string
		for _, s := range texts {
			parsesAsPlain(t, s)
			for _, w := range words {
				longer = append(longer, s+w)
			}
		}
		texts = longer
	}
}

func TestParseOfDrawnTexts(t *testing.T) {
	d := draw(2)
	words := append(allSigns(), "a", "bc", "7", "12", "a", "1", "(", ")", "-", "!", " ", "$", "01")
	for range 20000 {
		var b strings.Builder
		for range d.below(30) {
			b.WriteString(words[d.below(len(words))])
		}
		parsesAsPlain(t, b.String())
	}
	for range 5000 {
		s := drawTree(&d, 1+d.below(60), []int{0, 5, 999999999}, []string{"a", "zz"}).inBrackets()
		parsesAsPlain(t, s)
		at := d.below(len(s))
		parsesAsPlain(t, s[:at])
		parsesAsPlain(t, s[:at]+words[d.below(len(words))]+s[at:])
		parsesAsPlain(t, s[:at]+s[at+1:])
	}
}

func TestPlacesOfFaults(t *testing.T) {
	for s, want := range map[string]int{
		"": 0, " ": 1, "\n \n": 3, "a+": 2, "a+ ": 3, "(": 1, "(a ": 3, "((a)": 4, "-": 1, "!-": 2, "a<<": 3, "a+(": 3,
		")": 0, "a)": 1, "a )": 2, "()": 1, "(a))": 3, "a+)": 2, "+": 0, "+a": 0, "a+*b": 2, "a*/b": 2, "a b": 2, "a 1": 2, "1a": 1, "a(b)": 1, "(a)b": 3, "(a)(b)": 3,
		"a!b": 1, "a!": 1, "a = b": 2, "a,b": 1, "a;": 1, "a->b": 1, "=": 0, ",": 0, ";": 0, "->": 0, "-,": 1, "(a,b)": 2, "a=": 1, "<<a": 0, "a<<<b": 3, "a<<==b": 3, "a&&||b": 3,
	} {
		checkParseFault(t, s, want)
	}
}

func TestFaultsOfWordsAndOfTheirPlace(t *testing.T) {
	for s, want := range map[string]int{
		"?": 0, "a?": 1, "a+?": 2, "(?": 1, "a b?": 2, "a?b c": 1, "a ?": 2, "a)?": 1, "a?)": 1, "+?": 0, "a+01": 2, "01": 0, "a 01": 2, "a+1000000000": 2, "abcdefghi": 0, "a+abcdefghi": 2, "a abcdefghi": 2,
		"a&b": 1, "a|b": 1, "a>b": 1, "a+\x00": 2, "a+\xff": 2, "é": 0, "a\tb": 1, "A": 0, "((a?": 3, "a+b )c ?": 4,
	} {
		checkParseFault(t, s, want)
	}
}

func TestParseOfTooManyWords(t *testing.T) {
	sum := strings.Repeat("a+", 59) + "a" // 119 words
	checkParseFault(t, sum, len(sum))
	checkParseFault(t, sum+"+", len(sum)+1)
	checkParseFault(t, sum+"+a", len(sum)+1)
	checkParseFault(t, sum+"+?", len(sum)+1)
	checkParseFault(t, sum+"++", len(sum)+1)
	checkParseFault(t, sum+" a +a", len(sum)+1)
	checkParseFault(t, strings.Repeat("(", 60)+"a"+strings.Repeat(")", 60), 120)
	checkParse(t, strings.Repeat("(", 59)+"a"+strings.Repeat(")", 59), exName("a"))
	checkParseFault(t, strings.Repeat("a+", 10)+strings.Repeat("(", 100)+"(", 120)
}

func TestParseOfTooManyParts(t *testing.T) {
	sum := "a" + strings.Repeat("+1", 19) // 39 parts
	if e, at, ok := impl.ParseExpr("-" + sum); len(e) != 40 || at != 0 || !ok {
		t.Error(e, at, ok)
	}
	checkParseFault(t, sum+"+1", len(sum)+2)
	checkParseFault(t, "--"+sum, len(sum)+2)
	checkParseFault(t, "--"+sum+"  ", len(sum)+4)
	checkParseFault(t, "--"+sum+" b", len(sum)+3)
	checkParseFault(t, "--"+sum+" ?", len(sum)+3)
	checkParseFault(t, "--"+sum+")b", len(sum)+2)
	minus := strings.Repeat("-", 39)
	if e, _, ok := impl.ParseExpr(minus + "a"); len(e) != 40 || !ok {
		t.Error(len(e), ok)
	}
	checkParseFault(t, "-"+minus+"a", 41)
	checkParse(t, strings.Repeat("(", 50)+"a"+strings.Repeat(")", 50), exName("a"))
}

func TestParseWithinOneAnother(t *testing.T) {
	for _, w := range []string{"(", "-", "!", "(-", "!(", "-!"} {
		deep := strings.Repeat(w, 100/len(w))
		for s, want := range map[string]int{
			"": 100, " =  ": 101, "a b  ": 102, "?a": 100, "a ?  ": 102, "+  ": 100, "a+ =": 103,
			"(": 101, "( = ": 104, "- = ": 104, "! = ": 104, "-?  ": 104, "(((  ": 105, "-a=  ": 105, "(a? ": 104, "(=   ": 105,
		} {
			checkParseFault(t, deep+s, want)
			checkParseFault(t, "a+"+deep+s, want+2)
			checkParseFault(t, "(-a)+"+deep+s, want+5)
			parsesAsPlain(t, "a "+deep+s)
		}
	}
	checkParse(t, "-("+strings.Repeat("(", 48)+"a"+strings.Repeat(")", 49), exMinus(), exName("a"))
	checkParseFault(t, "(((a)))+"+strings.Repeat("(", 100)+"a b ", 110)
	checkParseFault(t, "(((a)+"+strings.Repeat("(", 98)+"a b ", 106)
	checkParseFault(t, "(((a)+"+strings.Repeat("(", 99)+"a b ", 109)
	checkParseFault(t, "(-a+"+strings.Repeat("(", 99)+"a b ", 105)
	checkParseFault(t, "-(-a+"+strings.Repeat("(", 99)+"a b ", 108)
}

func TestParseOfLongTexts(t *testing.T) {
	blanks := strings.Repeat(" ", 298)
	checkParse(t, "a"+blanks+" ", exName("a"))
	checkParse(t, "-"+blanks+"a", exMinus(), exName("a"))
	checkParseFault(t, "a"+blanks+"=", 299)
	checkParseFault(t, blanks+"  ", 300)
	for _, s := range []string{"a" + blanks + "  ", "-" + blanks + " a", "a" + blanks + " =", "= " + blanks + " ", strings.Repeat("(", 301), strings.Repeat("a", 100000)} {
		checkParseFault(t, s, 0)
	}
}
