package tests

import (
	"slices"
	"strings"
	"testing"

	"loop.example/g00339/impl"
)

func TestWrongTokensAreToldSo(t *testing.T) {
	for _, x := range wrongTokens() {
		if impl.GoodToken(x) {
			t.Errorf("told good: %+v", x)
		}
		if s, ok := impl.TokenText(x); s != "" || ok {
			t.Errorf("TokenText(%+v): %q %v", x, s, ok)
		}
	}
}

func TestEveryWordOfTwoBytesAsToken(t *testing.T) {
	for a := range 256 {
		for b := range 256 {
			s := string([]byte{byte(a), byte(b)})
			letters := a >= 'a' && a <= 'z' && b >= 'a' && b <= 'z'
			if impl.GoodToken(name(s)) != letters || impl.GoodToken(sign(s)) != slices.Contains(allSigns(), s) {
				t.Errorf("%q", s)
			}
		}
	}
}

func TestNeedsBlankOfWrongTokens(t *testing.T) {
	for _, x := range wrongTokens() {
		for _, y := range []impl.Token{name("a"), num(1), sign("<"), x} {
			if n, ok := impl.NeedsBlank(x, y); n || ok {
				t.Errorf("NeedsBlank(%+v, %+v): %v %v", x, y, n, ok)
			}
			if n, ok := impl.NeedsBlank(y, x); n || ok {
				t.Errorf("NeedsBlank(%+v, %+v): %v %v", y, x, n, ok)
			}
		}
	}
}

func TestJoinOfWrongTokens(t *testing.T) {
	for _, x := range wrongTokens() {
		for _, l := range [][]impl.Token{{x}, {name("a"), x}, {x, name("a")}, {num(1), x, sign("+")}} {
			if s, ok := impl.JoinTokens(l); s != "" || ok {
				t.Errorf("JoinTokens(%+v): %q %v", l, s, ok)
			}
		}
	}
}

func TestJoinWritesNothing(t *testing.T) {
	back := []impl.Token{at(3, name("a")), at(9, sign("<")), sign("<"), {Kind: 9, Num: -5, Text: "behind", At: -7}, at(300, num(5))}
	kept := slices.Clone(back)
	if s, ok := impl.JoinTokens(back[:3]); s != "a< <" || !ok {
		t.Error(s, ok)
	}
	impl.JoinTokens(back)
	if !slices.Equal(back, kept) {
		t.Error(back)
	}
}

func TestSignsShareNoMemory(t *testing.T) {
	l := impl.SignsOf()
	for i := range l {
		l[i] = "#"
	}
	_ = append(l[:0], "?")
	if again := impl.SignsOf(); !slices.Equal(again, allSigns()) {
		t.Error(again)
	}
	checkLex(t, "a<<b", []impl.Token{name("a"), at(1, sign("<<")), at(3, name("b"))})
	checkFault(t, "?", 0)
	if !impl.GoodToken(sign("+")) || impl.GoodToken(sign("#")) {
		t.Error("the signs were changed from outside")
	}
}

func TestLexSharesNoMemory(t *testing.T) {
	const s = "ab + 12"
	l, _, _ := impl.LexText(s)
	for i := range l {
		l[i] = impl.Token{Kind: 9}
	}
	checkLex(t, s, []impl.Token{name("ab"), at(3, sign("+")), at(5, num(12))})
}

func TestWordsAnswerAtAnyText(t *testing.T) {
	texts := []string{"\x00", "\xff\xfe", "\xed\xa0\x80", "\U0010ffff", "\xc3", "é", strings.Repeat("\xff", 300), strings.Repeat("é", 150), strings.Repeat("é", 151), strings.Repeat("\x00", 100000)}
	for _, s := range texts {
		checkFault(t, s, 0)
		for _, k := range []int{impl.TokNumber, impl.TokName, impl.TokSign, 0} {
			x := impl.Token{Kind: k, Text: s}
			if text, ok := impl.TokenText(x); text != "" || ok {
				t.Errorf("TokenText(%+v): %q %v", x, text, ok)
			}
		}
	}
}

func TestWordsAnswerAlikeEachTime(t *testing.T) {
	for _, s := range []string{"a<=12 <<b->x", "a & b", strings.Repeat("+", 121)} {
		a, p, ok := impl.LexText(s)
		b, q, again := impl.LexText(s)
		if !slices.Equal(a, b) || p != q || ok != again {
			t.Errorf("%q is read in two ways", s)
		}
	}
}
