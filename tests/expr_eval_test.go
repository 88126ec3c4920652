package tests

import (
	"slices"
	"testing"

	"loop.example/g00339/impl"
)

func checkEval(t *testing.T, s string, want int, code int) {
	t.Helper()
	e, _, ok := plainParse(s)
	if !ok {
		t.Fatal(s)
	}
	names, nums := []string{"a", "b", "most", "least"}, []int{3, -2, 1000000000, -1000000000}
	if n, c, ok := impl.EvalExpr(e, names, nums); n != want || c != code || !ok {
		t.Errorf("EvalExpr of %q: %d %d %v, want %d %d", s, n, c, ok, want, code)
	}
}

func evalsAsPlain(t *testing.T, e []impl.Ex, names []string, nums []int) {
	t.Helper()
	want, code := plainEval(e, names, nums)
	if n, c, ok := impl.EvalExpr(e, names, nums); n != want || c != code || !ok {
		t.Errorf("EvalExpr(%v, %v, %v): %d %d %v, want %d %d", e, names, nums, n, c, ok, want, code)
	}
}

func TestEachSignOfTwoNumbers(t *testing.T) {
	edges := []int{-1000000000, -999999999, -500000000, -65536, -31623, -31622, -21, -20, -7, -2, -1, 0, 1, 2, 3, 7, 19, 20, 21, 953, 954, 31622, 31623, 65536, 500000000, 999999999, 1000000000}
	for _, a := range edges {
		for _, b := range edges {
			for _, s := range signsOfTwo() {
				evalsAsPlain(t, []impl.Ex{exTwo(s), exName("x"), exName("y")}, []string{"x", "y"}, []int{a, b})
			}
		}
		evalsAsPlain(t, []impl.Ex{exMinus(), exName("x")}, []string{"x"}, []int{a})
		evalsAsPlain(t, []impl.Ex{exNot(), exName("x")}, []string{"x"}, []int{a})
	}
}

func TestNumbersAsTold(t *testing.T) {
	for s, want := range map[string]int{
		"0": 0, "999999999": 999999999, "a*b": -6, "a-b": 5, "7/b": -3, "-7/2": -3, "-7/b": 3, "7%b": 1, "-7%2": -1, "-7%b": -1, "b%a": -2, "b/a": 0, "a<<0": 3, "b<<3": -16, "a<<20": 3145728, "953<<20": 999292928, "-953<<20": -999292928, "0<<20": 0, "2<<a<<1": 128,
		"a<b": 0, "b<a": 1, "a<a": 0, "a<=a": 1, "a<=b": 0, "a==a": 1, "a==b": 0, "a!=a": 0, "a!=b": 1, "!a": 0, "!0": 1, "!b": 0, "!!b": 1, "--a": 3, "-0": 0,
		"a&&b": 1, "a&&0": 0, "0&&a": 0, "0&&0": 0, "b||0": 1, "0||b": 1, "0||0": 0, "5||7": 1, "5&&7": 1,
		"999999999+1": 1000000000, "-999999999-1": -1000000000, "most+least": 0, "least/-1": 1000000000, "-least": 1000000000, "-most": -1000000000, "least%-1": 0, "most-0": 1000000000,
	} {
		checkEval(t, s, want, 0)
	}
}

func TestCodesAsTold(t *testing.T) {
	for s, want := range map[string]int{
		"x": 1, "a+x": 1, "-x": 1, "!x": 1, "x&&0": 1, "1&&x": 1, "0||x": 1, "x||1": 1,
		"a/0": 2, "a%0": 2, "0/0": 2, "0%0": 2, "least/0": 2, "1/(a-3)": 2,
		"999999999+2": 3, "most+1": 3, "least-1": 3, "most*2": 3, "least*least": 3, "most*most": 3, "-999999999-2": 3, "a<<-1": 3, "a<<21": 3, "0<<-1": 3, "0<<21": 3, "b<<21": 3, "954<<20": 3, "-954<<20": 3, "most<<1": 3, "a<<most": 3, "a<<least": 3,
		"x+1/0": 1, "1/0+x": 2, "most*2+x": 3, "x+most*2": 1, "1/0+most*2": 2, "most*2+1/0": 3, "x/0": 1, "x<<21": 1, "21<<x": 1, "(1/0)<<21": 2, "1/0<<21": 3, "(most+1)/0": 3, "1/0/x": 2, "a/(1/0)": 2, "a/(most+1)": 3, "a<<x<<21": 1, "x<<a<<21": 1, "(1/0<1/0)+x": 2, "-(1/0)": 2, "!(most+most)": 3, "1/0&&x": 2, "(most+most)||x": 3, "x==x": 1, "a-x-1/0": 1, "a*(b-x)-1/0": 1,
	} {
		checkEval(t, s, 0, want)
	}
}

func TestSecondPartsThatAreNotLookedAt(t *testing.T) {
	for s, want := range map[string]int{
		"0&&x": 0, "0&&1/0": 0, "0&&most*2": 0, "1||x": 1, "b||1/0": 1, "a||most*2": 1, "0&&x||1": 1, "0&&x+1&&y||0": 0, "1||x&&y": 1, "(1||x)+5": 6, "(0&&x*y)+5": 5, "(0&&-x)+(1||!y<<z)+7": 8, "0&&(x||y)||a": 1,
	} {
		checkEval(t, s, want, 0)
	}
	checkEval(t, "(0&&x)+x", 0, 1)
	checkEval(t, "(1||x)/0", 0, 2)
}

func TestNamesThatAreTold(t *testing.T) {
	a := []impl.Ex{exName("a")}
	names, nums := []string{"b", "a", "a", "b"}, []int{1, 2, 3, 4}
	evalsAsPlain(t, a, names, nums)
	if n, c, ok := impl.EvalExpr(a, names, nums); n != 2 || c != 0 || !ok {
		t.Error(n, c, ok)
	}
	many := slices.Repeat([]string{"b"}, 20)
	many[19] = "a"
	counted := make([]int, 20)
	counted[19] = -1000000000
	if n, c, ok := impl.EvalExpr(a, many, counted); n != -1000000000 || c != 0 || !ok {
		t.Error(n, c, ok)
	}
	for _, l := range [][]string{nil, {}} {
		if n, c, ok := impl.EvalExpr(a, l, nil); n != 0 || c != 1 || !ok {
			t.Error(n, c, ok)
		}
	}
	if n, c, ok := impl.EvalExpr(a, []string{"aa", "", "b"}, []int{1, 2, 3}); n != 0 || c != 1 || !ok {
		t.Error(n, c, ok)
	}
}

func TestEvalOfDrawnExpressions(t *testing.T) {
	d := draw(11)
	names, nums := []string{"a", "b", "c", "a"}, []int{-3, 0, 1000000000, 5}
	for range 30000 {
		x := drawTree(&d, 1+d.below(40), []int{0, 1, 2, 3, 20, 21, 31623, 999999999}, []string{"a", "b", "c", "d"})
		evalsAsPlain(t, x.flat(), names, nums)
	}
}

func TestWrongNamesAndNumbers(t *testing.T) {
	const least, most = -1 << 63, 1<<63 - 1
	a := []impl.Ex{exName("a")}
	for _, x := range []struct {
		names []string
		nums  []int
	}{
		{[]string{"a"}, nil}, {nil, []int{1}}, {[]string{"a"}, []int{1, 2}}, {[]string{"a", "b"}, []int{1}},
		{[]string{"a"}, []int{1000000001}}, {[]string{"a"}, []int{-1000000001}}, {[]string{"a"}, []int{least}}, {[]string{"a"}, []int{most}}, {[]string{"a", "b"}, []int{1, 1000000001}},
		{slices.Repeat([]string{"a"}, 21), make([]int, 21)}, {slices.Repeat([]string{"a"}, 21), make([]int, 20)}, {slices.Repeat([]string{"a"}, 20), make([]int, 21)}, {make([]string, 1000), make([]int, 1000)},
	} {
		for _, e := range [][]impl.Ex{a, {exNum(1)}} {
			if n, c, ok := impl.EvalExpr(e, x.names, x.nums); n != 0 || c != 0 || ok {
				t.Errorf("EvalExpr(%v, %v, %v): %d %d %v", e, x.names, x.nums, n, c, ok)
			}
		}
	}
}

func checkFold(t *testing.T, e []impl.Ex) []impl.Ex {
	t.Helper()
	f, ok := impl.FoldExpr(e)
	if want := treeOf(e).fold().flat(); !ok || !slices.Equal(f, want) {
		t.Errorf("FoldExpr(%v): %v %v, want %v", e, f, ok, want)
	}
	if again, ok := impl.FoldExpr(f); !ok || !slices.Equal(again, f) {
		t.Errorf("FoldExpr(%v): %v %v", f, again, ok)
	}
	return f
}

func TestFoldsAsWritten(t *testing.T) {
	for from, want := range map[string]string{
		"5": "5", "a": "a", "2+3": "5", "x+(2+3)*4": "x+20", "2+3+x": "5+x", "x+2+3": "x+2+3", "2-3": "2-3", "-5": "-5", "--5": "5", "-0": "0", "5+-3": "2", "x+-(2+3)": "x+-5", "1-2-3": "1-2-3", "(1-2)*(3-4)": "1", "!-5": "0", "!x": "!x", "!7+x": "0+x",
		"1/0": "1/0", "(1+1)/(2-2)": "2/0", "x*(1/0)": "x*(1/0)", "2<<20": "2097152", "1<<21": "1<<21", "1<<10+11": "1035", "999999999+1": "999999999+1", "999999998+1": "999999999", "999999999+1-1": "999999999", "x+(999999999+1)": "x+(999999999+1)", "1000*(1000*1000)": "1000*1000000", "1000*1000*1000-1": "999999999",
		"0&&x": "0&&x", "1||x": "1||x", "0&&1/0": "0", "1||1/0": "1", "1&&1/0": "1&&1/0", "x&&1+1": "x&&2", "x||0&&1/0": "x||0", "x*0": "x*0", "0*x": "0*x", "x-x": "x-x", "1<2==3<4": "1", "(1<2)+x": "1+x",
	} {
		e, _, ok := plainParse(from)
		if !ok {
			t.Fatal(from)
		}
		f := checkFold(t, e)
		if s, _ := impl.ExprText(f); s != want {
			t.Errorf("FoldExpr of %q: %q, want %q", from, s, want)
		}
	}
}

func TestFoldedComesToTheSame(t *testing.T) {
	d := draw(5)
	names, nums := []string{"a", "b", "c"}, []int{-3, 0, 1000000000}
	for range 20000 {
		leaves := [][]string{{"a", "b", "c", "d"}, {"a"}, nil}[d.below(3)]
		e := drawTree(&d, 1+d.below(40), []int{0, 1, 2, 3, 20, 21, 31623, 999999999}, leaves).flat()
		f := checkFold(t, e)
		n, code, ok := impl.EvalExpr(e, names, nums)
		if m, c, is := impl.EvalExpr(f, names, nums); n != m || code != c || !ok || !is {
			t.Errorf("%v: %d %d %v, folded %v: %d %d %v", e, n, code, ok, f, m, c, is)
		}
	}
}
