package tests

import (
	"math/big"
	"slices"
	"strings"

	"loop.example/g00339/impl"
)

func exNum(n int) impl.Ex {
	return impl.Ex{Kind: impl.ExNumber, Num: n}
}

func exName(s string) impl.Ex {
	return impl.Ex{Kind: impl.ExName, Text: s}
}

func exTwo(s string) impl.Ex {
	return impl.Ex{Kind: impl.ExTwo, Text: s}
}

func exMinus() impl.Ex {
	return impl.Ex{Kind: impl.ExMinus}
}

func exNot() impl.Ex {
	return impl.Ex{Kind: impl.ExNot}
}

// strengthRows are the signs of two, each row of one strength, from the weakest on.
func strengthRows() [][]string {
	return [][]string{{"||"}, {"&&"}, {"==", "!="}, {"<", "<="}, {"+", "-"}, {"*", "/", "%"}, {"<<"}}
}

func signsOfTwo() []string {
	return slices.Concat(strengthRows()...)
}

func plainStrength(s string) int {
	for i, row := range strengthRows() {
		if slices.Contains(row, s) {
			return i + 1
		}
	}
	return 0
}

// exTree is an expression as a tree, so that what is held against the program does not go its way.
type exTree struct {
	part impl.Ex
	kids []*exTree
}

func (t *exTree) flat() []impl.Ex {
	l := []impl.Ex{t.part}
	for _, k := range t.kids {
		l = append(l, k.flat()...)
	}
	return l
}

// treeOf takes a good expression.
func treeOf(e []impl.Ex) *exTree {
	t, _ := treeAhead(e)
	return t
}

func treeAhead(e []impl.Ex) (*exTree, []impl.Ex) {
	t := &exTree{part: e[0]}
	rest := e[1:]
	for range map[int]int{impl.ExMinus: 1, impl.ExNot: 1, impl.ExTwo: 2}[e[0].Kind] {
		var k *exTree
		k, rest = treeAhead(rest)
		t.kids = append(t.kids, k)
	}
	return t, rest
}

func (t *exTree) depth() int {
	most := 0
	for _, k := range t.kids {
		most = max(most, k.depth())
	}
	return most + 1
}

// inBrackets writes each part but single ones in brackets.
func (t *exTree) inBrackets() string {
	switch t.part.Kind {
	case impl.ExMinus:
		return "(-" + t.kids[0].inBrackets() + ")"
	case impl.ExNot:
		return "(!" + t.kids[0].inBrackets() + ")"
	case impl.ExTwo:
		return "(" + t.kids[0].inBrackets() + t.part.Text + t.kids[1].inBrackets() + ")"
	case impl.ExNumber:
		return plainText(num(t.part.Num))
	}
	return t.part.Text
}

func isOneOf(t impl.Token, signs ...string) bool {
	return t.Kind == impl.TokSign && slices.Contains(signs, t.Text)
}

// standing goes through tokens and tells how many can stand where they do, whether they are a whole expression, and whether more than 100 were met within one another.
func standing(l []impl.Token) (int, bool, bool) {
	var open []bool // of each that is open, whether it is a bracket
	close := func() {
		for len(open) > 0 && !open[len(open)-1] {
			open = open[:len(open)-1]
		}
	}
	wanted := true
	for i, t := range l {
		switch {
		case wanted && isOneOf(t, "-", "!", "("):
			open = append(open, t.Text == "(")
			if len(open) > 100 {
				return i, false, true
			}
		case wanted && t.Kind != impl.TokSign:
			close()
			wanted = false
		case !wanted && isOneOf(t, signsOfTwo()...):
			wanted = true
		case !wanted && isOneOf(t, ")") && len(open) > 0:
			open = open[:len(open)-1]
			close()
		default:
			return i, false, false
		}
	}
	return len(l), !wanted && len(open) == 0, false
}

// splitAt tells where the tokens of an expression part last: at the weakest sign of two, of several the last one (of << the first one); -1 for none.
func splitAt(l []impl.Token) int {
	best, open := -1, 0
	for i, t := range l {
		switch {
		case isOneOf(t, "("):
			open++
		case isOneOf(t, ")"):
			open--
		case open == 0 && i > 0 && isOneOf(t, signsOfTwo()...) && (l[i-1].Kind != impl.TokSign || l[i-1].Text == ")"):
			s := plainStrength(t.Text)
			if best < 0 || s < plainStrength(l[best].Text) || s == plainStrength(l[best].Text) && t.Text != "<<" {
				best = i
			}
		}
	}
	return best
}

func treeOfTokens(l []impl.Token) *exTree {
	if i := splitAt(l); i >= 0 {
		return &exTree{exTwo(l[i].Text), []*exTree{treeOfTokens(l[:i]), treeOfTokens(l[i+1:])}}
	}
	switch {
	case isOneOf(l[0], "("):
		return treeOfTokens(l[1 : len(l)-1])
	case isOneOf(l[0], "-"):
		return &exTree{exMinus(), []*exTree{treeOfTokens(l[1:])}}
	case isOneOf(l[0], "!"):
		return &exTree{exNot(), []*exTree{treeOfTokens(l[1:])}}
	case l[0].Kind == impl.TokName:
		return &exTree{part: exName(l[0].Text)}
	}
	return &exTree{part: exNum(l[0].Num)}
}

// plainParse reads an expression as the document tells it, apart from the program.
func plainParse(s string) ([]impl.Ex, int, bool) {
	if len(s) > 300 {
		return nil, 0, false
	}
	l, fault, lexed := plainLex(s)
	end := len(s)
	if !lexed {
		l, _, _ = plainLex(s[:fault])
		end = fault
	}
	n, whole, deep := standing(l)
	switch {
	case deep:
		return nil, len(s), false
	case n < len(l):
		return nil, l[n].At, false
	case !lexed || !whole:
		return nil, end, false
	}
	e := treeOfTokens(l).flat()
	if len(e) > 40 {
		return nil, len(s), false
	}
	return e, 0, true
}

var valueBound = big.NewInt(1000000000)

// value tells what an expression comes to, or its code, apart from the program.
func (t *exTree) value(names []string, nums []int) (*big.Int, int) {
	switch t.part.Kind {
	case impl.ExNumber:
		return big.NewInt(int64(t.part.Num)), 0
	case impl.ExName:
		i := slices.Index(names, t.part.Text)
		if i < 0 {
			return nil, 1
		}
		return big.NewInt(int64(nums[i])), 0
	}
	a, code := t.kids[0].value(names, nums)
	if code != 0 {
		return nil, code
	}
	switch t.part.Kind {
	case impl.ExMinus:
		return new(big.Int).Neg(a), 0
	case impl.ExNot:
		return bigIf(a.Sign() == 0), 0
	}
	if t.part.Text == "&&" && a.Sign() == 0 {
		return bigIf(false), 0
	}
	if t.part.Text == "||" && a.Sign() != 0 {
		return bigIf(true), 0
	}
	b, code := t.kids[1].value(names, nums)
	if code != 0 {
		return nil, code
	}
	return plainTwo(t.part.Text, a, b)
}

func bigIf(holds bool) *big.Int {
	if holds {
		return big.NewInt(1)
	}
	return new(big.Int)
}

func plainTwo(sign string, a *big.Int, b *big.Int) (*big.Int, int) {
	n := new(big.Int)
	switch sign {
	case "&&", "||":
		return bigIf(b.Sign() != 0), 0
	case "==", "!=":
		return bigIf((a.Cmp(b) == 0) == (sign == "==")), 0
	case "<":
		return bigIf(a.Cmp(b) < 0), 0
	case "<=":
		return bigIf(a.Cmp(b) <= 0), 0
	case "+":
		n.Add(a, b)
	case "-":
		n.Sub(a, b)
	case "*":
		n.Mul(a, b)
	case "/", "%":
		if b.Sign() == 0 {
			return nil, 2
		}
		rest := new(big.Int)
		n.QuoRem(a, b, rest)
		if sign == "%" {
			n = rest
		}
	case "<<":
		if b.Sign() < 0 || b.Cmp(big.NewInt(20)) > 0 {
			return nil, 3
		}
		n.Mul(a, n.Exp(big.NewInt(2), b, nil))
	}
	if n.CmpAbs(valueBound) > 0 {
		return nil, 3
	}
	return n, 0
}

func plainEval(e []impl.Ex, names []string, nums []int) (int, int) {
	n, code := treeOf(e).value(names, nums)
	if code != 0 {
		return 0, code
	}
	return int(n.Int64()), 0
}

func (t *exTree) hasName() bool {
	return t.part.Kind == impl.ExName || slices.ContainsFunc(t.kids, (*exTree).hasName)
}

// fold goes from the inner parts on.
func (t *exTree) fold() *exTree {
	out := &exTree{part: t.part}
	for _, k := range t.kids {
		out.kids = append(out.kids, k.fold())
	}
	if out.hasName() {
		return out
	}
	if n, code := out.value(nil, nil); code == 0 && n.Sign() >= 0 && n.Cmp(valueBound) < 0 {
		return &exTree{part: exNum(int(n.Int64()))}
	}
	return out
}

// allTrees are all expressions of so many parts with one name.
func allTrees(parts int, signs []string) []*exTree {
	bySize := make([][]*exTree, parts+1)
	bySize[1] = []*exTree{{part: exName("a")}}
	for size := 2; size <= parts; size++ {
		for _, k := range bySize[size-1] {
			bySize[size] = append(bySize[size], &exTree{exMinus(), []*exTree{k}}, &exTree{exNot(), []*exTree{k}})
		}
		for first := 1; first < size-1; first++ {
			for _, a := range bySize[first] {
				for _, b := range bySize[size-1-first] {
					for _, s := range signs {
						bySize[size] = append(bySize[size], &exTree{exTwo(s), []*exTree{a, b}})
					}
				}
			}
		}
	}
	return bySize[parts]
}

// drawTree makes an expression of so many parts, of numbers and names that are told.
func drawTree(d *draw, parts int, nums []int, names []string) *exTree {
	switch {
	case parts == 1 && d.below(len(nums)+len(names)) < len(nums):
		return &exTree{part: exNum(nums[d.below(len(nums))])}
	case parts == 1:
		return &exTree{part: exName(names[d.below(len(names))])}
	case parts == 2 || d.below(5) == 0:
		part := []impl.Ex{exMinus(), exNot()}[d.below(2)]
		return &exTree{part, []*exTree{drawTree(d, parts-1, nums, names)}}
	}
	first := 1 + d.below(parts-2)
	sign := signsOfTwo()[d.below(12)]
	return &exTree{exTwo(sign), []*exTree{drawTree(d, first, nums, names), drawTree(d, parts-1-first, nums, names)}}
}

// withoutPair leaves out the pair of brackets that begins at a place; the places of tokens do not move.
func withoutPair(s string, at int) string {
	open := 0
	for i := at; i < len(s); i++ {
		switch s[i] {
		case '(':
			open++
		case ')':
			open--
		}
		if open == 0 {
			return s[:at] + " " + s[at+1:i] + " " + s[i+1:]
		}
	}
	return s
}

func bracketsIn(s string) []int {
	var l []int
	for i := range len(s) {
		if s[i] == '(' {
			l = append(l, i)
		}
	}
	return l
}

// fewestBrackets tries all ways to leave brackets out of a text.
func fewestBrackets(s string, want []impl.Ex) int {
	pairs := bracketsIn(s)
	fewest := len(pairs)
	for left := range 1 << len(pairs) {
		text, kept := s, 0
		for i, at := range pairs {
			if left>>i&1 == 0 {
				kept++
			} else {
				text = withoutPair(text, at)
			}
		}
		if e, _, ok := plainParse(text); kept < fewest && ok && slices.Equal(e, want) {
			fewest = kept
		}
	}
	return fewest
}

// wrongExprs are expressions that are not good, each for one cause.
func wrongExprs() [][]impl.Ex {
	const least, most = -1 << 63, 1<<63 - 1
	a, one := exName("a"), exNum(1)
	l := [][]impl.Ex{
		nil, {}, {a, a}, {one, a}, {exMinus()}, {exNot()}, {exMinus(), exNot()}, {exMinus(), a, a}, {exNot(), one, one},
		{exTwo("+")}, {exTwo("+"), a}, {exTwo("+"), a, one, a}, {a, exTwo("+"), a}, {exTwo("+"), exMinus(), a}, {exTwo("+"), exTwo("+"), a, a}, {exTwo("*"), a, exMinus()},
		slices.Repeat([]impl.Ex{exMinus()}, 40), append(slices.Repeat([]impl.Ex{exMinus()}, 40), a), append(slices.Repeat([]impl.Ex{exTwo("+"), a}, 20), a), slices.Repeat([]impl.Ex{a}, 5000), append(slices.Repeat([]impl.Ex{exNot()}, 5000), a),
	}
	for _, x := range []impl.Ex{
		{}, {Kind: 6}, {Kind: -1}, {Kind: least}, {Kind: most}, {Kind: 6, Num: 1}, {Kind: 6, Text: "a"}, {Kind: 0, Text: "a"}, {Num: 1},
		exNum(-1), exNum(1000000000), exNum(least), exNum(most), {Kind: impl.ExNumber, Num: 1, Text: "1"}, {Kind: impl.ExNumber, Text: "a"}, {Kind: impl.ExNumber, Text: "+"},
		exName(""), exName("abcdefghi"), exName("A"), exName("a1"), exName("a "), exName("+"), exName("\xff"), exName("é"), exName(strings.Repeat("a", 400)), {Kind: impl.ExName, Num: 1, Text: "a"}, {Kind: impl.ExName, Num: -1, Text: "a"},
	} {
		l = append(l, []impl.Ex{x}, []impl.Ex{exMinus(), x}, []impl.Ex{exTwo("+"), x, a}, []impl.Ex{exTwo("&&"), exNum(0), x})
	}
	for _, x := range []impl.Ex{{Kind: impl.ExMinus, Num: 1}, {Kind: impl.ExMinus, Text: "-"}, {Kind: impl.ExNot, Num: -1}, {Kind: impl.ExNot, Text: "!"}} {
		l = append(l, []impl.Ex{x, a}, []impl.Ex{exNot(), x, a})
	}
	for _, s := range []string{"", "!", "=", "(", ")", ",", ";", "->", "&", "|", ">", ">=", "<<<", "++", "+ ", " +", "a", "1", "\xff"} {
		l = append(l, []impl.Ex{exTwo(s), a, one}, []impl.Ex{exTwo("<<"), exTwo(s), a, one, one})
	}
	return append(l, []impl.Ex{{Kind: impl.ExTwo, Num: 1, Text: "+"}, a, a}, []impl.Ex{{Kind: impl.ExTwo, Num: least, Text: "<<"}, a, a})
}
