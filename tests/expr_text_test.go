package tests

import (
	"slices"
	"strings"
	"testing"

	"loop.example/g00339/impl"
)

// checkText holds that an expression comes back from its text, and that no pair of brackets can go.
func checkText(t *testing.T, e []impl.Ex) string {
	t.Helper()
	s, ok := impl.ExprText(e)
	if !ok {
		t.Fatalf("ExprText(%v): false", e)
	}
	if back, at, ok := impl.ParseExpr(s); !ok || at != 0 || !slices.Equal(back, e) {
		t.Errorf("ExprText(%v) is %q, read as %v %d %v", e, s, back, at, ok)
	}
	if back, _, _ := plainParse(s); !slices.Equal(back, e) {
		t.Errorf("ExprText(%v) is %q, which is %v", e, s, back)
	}
	for _, at := range bracketsIn(s) {
		if back, _, ok := plainParse(withoutPair(s, at)); ok && slices.Equal(back, e) {
			t.Errorf("ExprText(%v) is %q: the brackets at %d can go", e, s, at)
		}
	}
	l, _, _ := plainLex(s)
	if joined := plainJoin(l); joined != s {
		t.Errorf("ExprText(%v) is %q, joined %q", e, s, joined)
	}
	return s
}

func TestTextOfAllSmallExpressions(t *testing.T) {
	for parts := 1; parts <= 6; parts++ {
		for _, x := range allTrees(parts, signsOfTwo()) {
			checkText(t, x.flat())
		}
	}
	for _, x := range allTrees(7, []string{"==", "-", "*", "<<", "<"}) {
		checkText(t, x.flat())
	}
}

func TestFewestBrackets(t *testing.T) {
	for parts := 1; parts <= 5; parts++ {
		for _, x := range allTrees(parts, signsOfTwo()) {
			e := x.flat()
			s, _ := impl.ExprText(e)
			if got, want := len(bracketsIn(s)), fewestBrackets(x.inBrackets(), e); got != want {
				t.Errorf("ExprText(%v) is %q, %d pairs do", e, s, want)
			}
		}
	}
}

func TestTextOfDrawnExpressions(t *testing.T) {
	d := draw(7)
	for range 3000 {
		checkText(t, drawTree(&d, 1+d.below(40), []int{0, 7, 10, 999999999}, []string{"a", "abcdefgh"}).flat())
	}
}

func TestTextsAsWritten(t *testing.T) {
	for from, want := range map[string]string{
		"a": "a", "(a)": "a", "((a*b))+(1)": "a*b+1", "a-(b-1)": "a-(b-1)", "(a-b)-1": "a-b-1", "a<<(b<<1)": "a<<b<<1", "(a<<b)<<1": "(a<<b)<<1",
		"-(a)": "-a", "-(-a)": "--a", "-(!(-a))": "-!-a", "-(a+b)": "-(a+b)", "(-a)+b": "-a+b", "!(a<<b)": "!(a<<b)", "(!a)<<b": "!a<<b", "a<<(-b)": "a<<-b", "a - (-b)": "a--b", "a<(-b)": "a<-b", "a < (b < c)": "a<(b<c)", "(a < b) <= c": "a<b<=c",
		"(a || b) && c": "(a||b)&&c", "a || (b && c)": "a||b&&c", "a == (b != c)": "a==(b!=c)", "(a + b) * (c % d)": "(a+b)*(c%d)", "a*(b/c)": "a*(b/c)", "(a*b)/c": "a*b/c", "a <<\n b": "a<<b",
	} {
		e, _, ok := impl.ParseExpr(from)
		if s, is := impl.ExprText(e); s != want || !ok || !is {
			t.Errorf("ExprText of %q: %q %v %v, want %q", from, s, ok, is, want)
		}
	}
}

func TestTextOfTheLongestExpressions(t *testing.T) {
	leaf := exNum(999999999)
	right := append(slices.Repeat([]impl.Ex{exTwo("!="), leaf}, 19), exMinus(), leaf)
	s := checkText(t, right)
	if want := strings.Repeat("999999999!=(", 18) + "999999999!=-999999999" + strings.Repeat(")", 18); s != want {
		t.Error(s)
	}
	checkText(t, slices.Concat(slices.Repeat([]impl.Ex{exTwo("<<")}, 19), []impl.Ex{exNot()}, slices.Repeat([]impl.Ex{exName("abcdefgh")}, 20)))
	checkText(t, append(slices.Repeat([]impl.Ex{exMinus(), exNot(), exMinus()}, 13), leaf))
	checkText(t, slices.Concat(slices.Repeat([]impl.Ex{exMinus(), exTwo("+")}, 13), slices.Repeat([]impl.Ex{leaf}, 14)))
}

func TestDepths(t *testing.T) {
	for s, want := range map[string]int{"a": 1, "-a": 2, "(a)": 1, "a+b": 2, "a+b+c": 3, "a+b*c": 3, "(a+b)*(c+d)": 3, "-(a+b)": 3, "a+--b": 4, "--a+b": 4, "a<<b<<c<<d": 4, "a+b-(c+d)": 3} {
		e, _, _ := impl.ParseExpr(s)
		if n, ok := impl.DepthOf(e); n != want || !ok {
			t.Errorf("DepthOf %q: %d %v, want %d", s, n, ok, want)
		}
	}
	if n, ok := impl.DepthOf(append(slices.Repeat([]impl.Ex{exMinus()}, 39), exName("a"))); n != 40 || !ok {
		t.Error(n, ok)
	}
	d := draw(3)
	for range 2000 {
		x := drawTree(&d, 1+d.below(40), []int{1}, []string{"a"})
		if n, ok := impl.DepthOf(x.flat()); n != x.depth() || !ok {
			t.Errorf("DepthOf(%v): %d %v, want %d", x.flat(), n, ok, x.depth())
		}
	}
}
