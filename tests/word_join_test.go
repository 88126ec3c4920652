package tests

import (
	"slices"
	"strings"
	"testing"

	"loop.example/g00339/impl"
)

func TestGoodTokens(t *testing.T) {
	for _, x := range sampleTokens() {
		for _, place := range []int{0, 1, 150, 299, 300} {
			if !impl.GoodToken(at(place, x)) {
				t.Error("not told good:", at(place, x))
			}
		}
	}
	for r := 'a'; r <= 'z'; r++ {
		if !impl.GoodToken(name(string(r))) {
			t.Error("not told good:", string(r))
		}
	}
}

func TestTokenTexts(t *testing.T) {
	for _, x := range sampleTokens() {
		for _, place := range []int{0, 17, 300} {
			if s, ok := impl.TokenText(at(place, x)); s != plainText(x) || !ok {
				t.Error(x, s, ok)
			}
		}
	}
}

func TestEachTokenIsReadFromItsText(t *testing.T) {
	for _, x := range sampleTokens() {
		s, _ := impl.TokenText(x)
		checkLex(t, s, []impl.Token{x})
		if j, ok := impl.JoinTokens([]impl.Token{x}); j != s || !ok {
			t.Error(x, j, ok)
		}
	}
}

func TestNeedsBlankAtEveryPair(t *testing.T) {
	for _, a := range sampleTokens() {
		for _, b := range sampleTokens() {
			want := !readsAs(plainText(a)+plainText(b), a, b)
			if n, ok := impl.NeedsBlank(a, b); n != want || !ok {
				t.Error(a, b, n, ok)
			}
			if n, ok := impl.NeedsBlank(at(300, a), at(5, b)); n != want || !ok {
				t.Error("At counted:", a, b, n, ok)
			}
		}
	}
}

func TestNeedsBlankToldByHand(t *testing.T) {
	for _, c := range []struct {
		a, b impl.Token
		want bool
	}{
		{name("a"), name("b"), true}, {name("abcdefgh"), name("i"), true}, {name("a"), num(1), false}, {num(1), name("a"), false},
		{num(1), num(2), true}, {num(0), num(0), true}, {num(999999999), num(0), true}, {num(0), name("x"), false},
		{sign("<"), sign("<"), true}, {sign("<"), sign("<="), true}, {sign("<"), sign("<<"), true}, {sign("<"), sign("="), true}, {sign("<"), sign("=="), true},
		{sign("="), sign("="), true}, {sign("="), sign("=="), true}, {sign("!"), sign("="), true}, {sign("!"), sign("=="), true},
		{sign("<<"), sign("="), false}, {sign("<<"), sign("<"), false}, {sign("<="), sign("="), false}, {sign("=="), sign("="), false}, {sign("!="), sign("="), false},
		{sign("-"), sign("->"), false}, {sign("-"), sign("-"), false}, {sign("-"), num(5), false}, {sign("&&"), sign("&&"), false}, {sign("||"), sign("||"), false}, {sign("!"), sign("!"), false}, {sign("!"), sign("!="), false}, {sign("="), sign("<"), false}, {sign("("), sign(")"), false},
	} {
		if n, ok := impl.NeedsBlank(c.a, c.b); n != c.want || !ok {
			t.Error(c.a, c.b, n, ok)
		}
	}
}

func checkJoin(t *testing.T, l []impl.Token) {
	t.Helper()
	s, ok := impl.JoinTokens(l)
	if want := plainJoin(l); s != want || !ok {
		t.Errorf("JoinTokens(%v): %q %v, wanted %q", l, s, ok, want)
		return
	}
	back, place, ok := impl.LexText(s)
	if !ok || place != 0 || !slices.Equal(withoutPlaces(back), withoutPlaces(l)) {
		t.Errorf("LexText of JoinTokens(%v), %q: %v %d %v", l, s, back, place, ok)
	}
}

func TestJoinEveryPairAndTriple(t *testing.T) {
	l := sampleTokens()
	for _, a := range l {
		for _, b := range l {
			checkJoin(t, []impl.Token{a, b})
			checkJoin(t, []impl.Token{at(9, a), at(300, b)})
			for _, c := range l {
				checkJoin(t, []impl.Token{a, b, c})
			}
		}
	}
}

func TestJoinToldByHand(t *testing.T) {
	for _, c := range []struct {
		l    []impl.Token
		want string
	}{
		{nil, ""},
		{[]impl.Token{}, ""},
		{[]impl.Token{name("a"), sign("+"), num(1)}, "a+1"},
		{[]impl.Token{at(40, name("a")), at(2, name("b")), at(2, num(0)), num(0)}, "a b0 0"},
		{[]impl.Token{sign("!"), sign("="), sign("="), sign("<")}, "! = =<"},
		{[]impl.Token{sign("-"), sign("->"), sign("<"), sign("<<"), sign("<")}, "-->< <<<"},
	} {
		if s, ok := impl.JoinTokens(c.l); s != c.want || !ok {
			t.Errorf("JoinTokens(%v): %q %v, wanted %q", c.l, s, ok, c.want)
		}
	}
}

func TestJoinTokenCount(t *testing.T) {
	l := slices.Repeat([]impl.Token{sign("+"), num(1)}, 60)
	checkJoin(t, l)
	checkJoin(t, l[:119])
	if s, ok := impl.JoinTokens(append(l, sign("+"))); s != "" || ok {
		t.Error(s, ok)
	}
	if s, ok := impl.JoinTokens(slices.Repeat([]impl.Token{sign("<")}, 5000)); s != "" || ok {
		t.Error(s, ok)
	}
}

func TestJoinTextLength(t *testing.T) {
	nine := []impl.Token{num(123456789), sign("+")}
	full := slices.Repeat(nine, 30)
	checkJoin(t, full)
	if s, ok := impl.JoinTokens(full); s != strings.Repeat("123456789+", 30) || !ok {
		t.Error(s, ok)
	}
	checkJoin(t, full[:59])
	blanks := append(slices.Repeat([]impl.Token{name("abcdefgh")}, 33), name("abc"))
	checkJoin(t, blanks)
	for _, l := range [][]impl.Token{append(slices.Clone(full), sign("+")), append(slices.Clone(full[:59]), sign("->")), append(slices.Clone(blanks[:33]), name("abcd")), slices.Repeat(nine, 60)} {
		if s, ok := impl.JoinTokens(l); s != "" || ok {
			t.Error(len(l), s, ok)
		}
	}
}

// What is read and joined again has no more bytes, and is read alike.
func TestJoinWhatWasRead(t *testing.T) {
	for _, s := range []string{"a<=12 <<b->x", "  x  =  ! ( y != 0 ) ;\n", "f (a , b) -> a % b", strings.Repeat("< ", 120), strings.Repeat("+", 120)} {
		l, _, ok := impl.LexText(s)
		if !ok {
			t.Error("not read:", s)
			continue
		}
		checkJoin(t, l)
		if j, _ := impl.JoinTokens(l); len(j) > len(s) {
			t.Errorf("%q is longer than %q", j, s)
		}
	}
}
