package tests

import (
	"slices"
	"strconv"
	"strings"
	"testing"

	"loop.example/g00339/impl"
)

func checkLex(t *testing.T, s string, want []impl.Token) {
	t.Helper()
	l, place, ok := impl.LexText(s)
	if !ok || place != 0 || !slices.Equal(l, want) {
		t.Errorf("LexText(%q): %v %d %v, wanted %v", s, l, place, ok, want)
	}
}

func checkFault(t *testing.T, s string, want int) {
	t.Helper()
	l, place, ok := impl.LexText(s)
	if ok || place != want || len(l) != 0 {
		t.Errorf("LexText(%q): %v %d %v, wanted the fault at %d", s, l, place, ok, want)
	}
}

// sameAsPlain holds LexText against the reader of the tests.
func sameAsPlain(t *testing.T, s string) {
	t.Helper()
	l, place, ok := impl.LexText(s)
	want, wantPlace, wantOk := plainLex(s)
	if ok != wantOk || place != wantPlace || !slices.Equal(l, want) {
		t.Errorf("LexText(%q): %v %d %v, wanted %v %d %v", s, l, place, ok, want, wantPlace, wantOk)
	}
}

func TestWordConstants(t *testing.T) {
	if impl.MaxText != 300 || impl.MaxTokens != 120 || impl.TokNumber != 1 || impl.TokName != 2 || impl.TokSign != 3 {
		t.Error("a constant is not the document's")
	}
}

func TestSignsInTheirOrder(t *testing.T) {
	if l := impl.SignsOf(); !slices.Equal(l, allSigns()) {
		t.Error(l)
	}
}

func TestLexOrdinaryTexts(t *testing.T) {
	checkLex(t, "x = 10 * (y + 2);", []impl.Token{at(0, name("x")), at(2, sign("=")), at(4, num(10)), at(7, sign("*")), at(9, sign("(")), at(10, name("y")), at(12, sign("+")), at(14, num(2)), at(15, sign(")")), at(16, sign(";"))})
	checkLex(t, "a->b", []impl.Token{at(0, name("a")), at(1, sign("->")), at(3, name("b"))})
	checkLex(t, "12ab34", []impl.Token{at(0, num(12)), at(2, name("ab")), at(4, num(34))})
	checkLex(t, "a12", []impl.Token{at(0, name("a")), at(1, num(12))})
	checkLex(t, "-5", []impl.Token{at(0, sign("-")), at(1, num(5))})
	checkLex(t, "a\nb  c\n\n", []impl.Token{at(0, name("a")), at(2, name("b")), at(5, name("c"))})
}

func TestLexEmptyTexts(t *testing.T) {
	for _, s := range []string{"", " ", "\n", "  ", " \n ", strings.Repeat(" ", 300), strings.Repeat("\n", 300)} {
		checkLex(t, s, nil)
	}
}

func TestLexEachSign(t *testing.T) {
	for _, s := range allSigns() {
		checkLex(t, s, []impl.Token{sign(s)})
		checkLex(t, " "+s+"\n", []impl.Token{at(1, sign(s))})
		checkLex(t, "a"+s+"7", []impl.Token{at(0, name("a")), at(1, sign(s)), at(1+len(s), num(7))})
		checkFault(t, s+"#", len(s))
	}
}

func TestLexLongestSign(t *testing.T) {
	checkLex(t, "<<<", []impl.Token{at(0, sign("<<")), at(2, sign("<"))})
	checkLex(t, "<<=", []impl.Token{at(0, sign("<<")), at(2, sign("="))})
	checkLex(t, "<==", []impl.Token{at(0, sign("<=")), at(2, sign("="))})
	checkLex(t, "===", []impl.Token{at(0, sign("==")), at(2, sign("="))})
	checkLex(t, "!==", []impl.Token{at(0, sign("!=")), at(2, sign("="))})
	checkLex(t, "!!=", []impl.Token{at(0, sign("!")), at(1, sign("!="))})
	checkLex(t, "-->", []impl.Token{at(0, sign("-")), at(1, sign("->"))})
	checkLex(t, "<->", []impl.Token{at(0, sign("<")), at(1, sign("->"))})
	checkLex(t, "< =", []impl.Token{at(0, sign("<")), at(2, sign("="))})
	checkLex(t, "<\n<", []impl.Token{at(0, sign("<")), at(2, sign("<"))})
}

func TestLexEveryPairAndTripleOfSigns(t *testing.T) {
	for _, a := range allSigns() {
		for _, b := range allSigns() {
			sameAsPlain(t, a+b)
			sameAsPlain(t, a+" "+b)
			for _, c := range allSigns() {
				sameAsPlain(t, a+b+c)
			}
		}
	}
}

func TestLexNames(t *testing.T) {
	checkLex(t, "abcdefgh", []impl.Token{name("abcdefgh")})
	checkLex(t, "az", []impl.Token{name("az")})
	checkLex(t, "abcdefgh abcdefgh", []impl.Token{name("abcdefgh"), at(9, name("abcdefgh"))})
	checkLex(t, "abcdefgh1", []impl.Token{name("abcdefgh"), at(8, num(1))})
	checkFault(t, "abcdefghi", 0)
	checkFault(t, "  abcdefghi", 2)
	checkFault(t, "abcdefgh+abcdefghijkl", 9)
	checkFault(t, strings.Repeat("a", 300), 0)
	checkFault(t, "aB", 1)
	checkFault(t, "a_b", 1)
}

func TestLexNumbers(t *testing.T) {
	for _, n := range []int{0, 1, 9, 10, 19, 100, 101, 12345678, 99999999, 100000000, 123456789, 999999998, 999999999} {
		checkLex(t, strconv.Itoa(n), []impl.Token{num(n)})
	}
	for _, s := range []string{"1000000000", "9999999999", "4294967296", "18446744073709551616", "18446744073709551617", "00", "01", "007", "000000001", "0000000000", strings.Repeat("1", 300), strings.Repeat("0", 300)} {
		checkFault(t, s, 0)
		if len(s) < 200 {
			checkFault(t, "ab "+s, 3)
			checkFault(t, "ab"+s, 2)
			checkFault(t, "1 <"+s, 3)
		}
	}
	checkLex(t, "0 0", []impl.Token{num(0), at(2, num(0))})
	checkLex(t, "0a0", []impl.Token{num(0), at(1, name("a")), at(2, num(0))})
}

func TestLexFirstFault(t *testing.T) {
	checkFault(t, "#", 0)
	checkFault(t, "a&b", 1)
	checkFault(t, "a & b", 2)
	checkFault(t, "&&&", 2)
	checkFault(t, "|", 0)
	checkFault(t, "|||", 2)
	checkFault(t, "a>b", 1)
	checkFault(t, "->>", 2)
	checkFault(t, "a # b $", 2)
	checkFault(t, "# abcdefghi", 0)
	checkFault(t, "007 #", 0)
	checkFault(t, "a\tb", 1)
	checkFault(t, "a\rb", 1)
	checkFault(t, "\n\n\x00", 2)
	checkFault(t, "aé", 1)
	checkFault(t, "a \xff", 2)
	checkFault(t, "\u00a0a", 0)
	checkFault(t, "a\u2003", 1)
	checkFault(t, "٣", 0)
	checkFault(t, "1٣", 1)
	checkFault(t, strings.Repeat(" ", 299)+"#", 299)
}

func TestLexTextLength(t *testing.T) {
	checkLex(t, strings.Repeat(" ", 299)+"a", []impl.Token{at(299, name("a"))})
	checkLex(t, "a"+strings.Repeat(" ", 299), []impl.Token{name("a")})
	checkLex(t, strings.Repeat("\n", 291)+"999999999", []impl.Token{at(291, num(999999999))})
	for _, s := range []string{strings.Repeat(" ", 301), strings.Repeat(" ", 300) + "a", "a" + strings.Repeat(" ", 300), "a #" + strings.Repeat(" ", 298), strings.Repeat("+", 301), strings.Repeat("a ", 5000)} {
		checkFault(t, s, 0)
	}
}

func TestLexTokenCount(t *testing.T) {
	var want []impl.Token
	for i := range 120 {
		want = append(want, at(2*i, name("a")))
	}
	full := strings.TrimSuffix(strings.Repeat("a ", 120), " ")
	checkLex(t, full, want)
	checkLex(t, full+strings.Repeat("\n", 300-len(full)), want)
	checkFault(t, full+" a", 240)
	checkFault(t, full+"+", 239)
	checkFault(t, full+"  7 8 9", 241)
	checkFault(t, full+" #", 240)
	checkFault(t, strings.Repeat("+", 121), 120)
	checkFault(t, strings.Repeat("+", 300), 120)
	checkFault(t, strings.Repeat("<<", 150), 240)
	checkFault(t, strings.Repeat("+", 119)+"#", 119)
	sameAsPlain(t, strings.Repeat("+", 119))
	sameAsPlain(t, strings.Repeat("+", 120))
}

func TestLexEveryTwoBytes(t *testing.T) {
	for a := range 256 {
		sameAsPlain(t, string([]byte{byte(a)}))
		for b := range 256 {
			sameAsPlain(t, string([]byte{byte(a), byte(b)}))
		}
	}
}

func TestLexEveryShortText(t *testing.T) {
	var grow func(s string, letters string, left int)
	grow = func(s string, letters string, left int) {
		sameAsPlain(t, s)
		for i := 0; left > 0 && i < len(letters); i++ {
			grow(s+letters[i:i+1], letters, left-1)
		}
	}
	grow("", "a09 \n<=!-&|>", 4)
	grow("", "z01 <=", 6)
}

// A row of numbers that follow one rule stands for texts of any look.
func TestLexLongTexts(t *testing.T) {
	pieces := append(allSigns(), " ", "\n", "a", "abcdefgh", "0", "7", "10", "999999999", "xy", "  ")
	seed := uint32(1)
	for range 3000 {
		var b strings.Builder
		for size := 0; size < 60; size++ {
			seed = seed*1664525 + 1013904223
			b.WriteString(pieces[int(seed>>16)%len(pieces)])
		}
		sameAsPlain(t, b.String())
	}
}
