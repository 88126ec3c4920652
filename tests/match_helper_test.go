package tests

import (
	"fmt"
	"slices"
	"strconv"
	"strings"
	"testing"

	"loop.example/g00339/impl"
)

func dataOf(cons ...int) impl.Data {
	return impl.Data{Cons: cons}
}

// patOf reads a pattern: _ is PatAny, a digit the constructor with that number.
func patOf(text string) []impl.Pat {
	var out []impl.Pat
	for _, c := range text {
		if c == '_' {
			out = append(out, impl.Pat{Kind: impl.PatAny})
		} else {
			out = append(out, impl.Pat{Kind: impl.PatOf, Con: int(c - '0')})
		}
	}
	return out
}

// rulesOf reads patterns with blanks between them.
func rulesOf(text string) [][]impl.Pat {
	var out [][]impl.Pat
	for _, word := range strings.Fields(text) {
		out = append(out, patOf(word))
	}
	return out
}

func valueOf(digits string) []int {
	var out []int
	for _, c := range digits {
		out = append(out, int(c-'0'))
	}
	return out
}

func patText(l []impl.Pat) string {
	var out strings.Builder
	for _, c := range l {
		switch c.Kind {
		case impl.PatAny:
			out.WriteString("_")
		case impl.PatOf:
			fmt.Fprint(&out, c.Con)
		default:
			fmt.Fprint(&out, c)
		}
	}
	return out.String()
}

func rulesText(rules [][]impl.Pat) string {
	var words []string
	for _, rule := range rules {
		words = append(words, patText(rule))
	}
	return strings.Join(words, " ")
}

func numbersText(l []int) string {
	var words []string
	for _, n := range l {
		words = append(words, strconv.Itoa(n))
	}
	return strings.Join(words, ",")
}

// nodesText writes a node that looks as a path behind a stroke and where it goes on behind a colon, others as the number of their rule.
func nodesText(nodes []impl.Node) string {
	var words []string
	for _, n := range nodes {
		word := strconv.Itoa(n.Rule)
		if n.Rule == -2 {
			word = "/" + numbersText(n.Path) + ":" + numbersText(n.Next)
		} else if len(n.Path) > 0 || len(n.Next) > 0 {
			word = fmt.Sprint(n)
		}
		words = append(words, word)
	}
	return strings.Join(words, " ")
}

// nodesOf reads what nodesText writes.
func nodesOf(text string) []impl.Node {
	var out []impl.Node
	for _, word := range strings.Fields(text) {
		looks, isLook := strings.CutPrefix(word, "/")
		if !isLook {
			out = append(out, impl.Node{Rule: numbersOf(word)[0]})
			continue
		}
		path, next, _ := strings.Cut(looks, ":")
		out = append(out, impl.Node{Rule: -2, Path: numbersOf(path), Next: numbersOf(next)})
	}
	return out
}

func numbersOf(text string) []int {
	var out []int
	for _, word := range strings.FieldsFunc(text, func(c rune) bool { return c == ',' }) {
		n, err := strconv.Atoi(word)
		if err != nil {
			panic(err)
		}
		out = append(out, n)
	}
	return out
}

// A shape is a pattern or a value as a tree; what any value fits has anyCon.
type shape struct {
	con   int
	parts []*shape
}

const anyCon = -1

func anyShape() *shape { return &shape{con: anyCon} }

func shapeAhead(d impl.Data, l []impl.Pat) (*shape, []impl.Pat) {
	if l[0].Kind == impl.PatAny {
		return anyShape(), l[1:]
	}
	out, rest := &shape{con: l[0].Con}, l[1:]
	for range d.Cons[l[0].Con] {
		var part *shape
		part, rest = shapeAhead(d, rest)
		out.parts = append(out.parts, part)
	}
	return out, rest
}

func shapeOf(d impl.Data, l []impl.Pat) *shape {
	out, _ := shapeAhead(d, l)
	return out
}

func shapesOf(d impl.Data, rules [][]impl.Pat) []*shape {
	var out []*shape
	for _, rule := range rules {
		out = append(out, shapeOf(d, rule))
	}
	return out
}

func shapeOfValue(d impl.Data, v []int) *shape {
	var cells []impl.Pat
	for _, con := range v {
		cells = append(cells, impl.Pat{Kind: impl.PatOf, Con: con})
	}
	return shapeOf(d, cells)
}

func (s *shape) cells() []impl.Pat {
	if s.con == anyCon {
		return patOf("_")
	}
	out := []impl.Pat{{Kind: impl.PatOf, Con: s.con}}
	for _, part := range s.parts {
		out = append(out, part.cells()...)
	}
	return out
}

// value tells the numbers of a shape without anyCon.
func (s *shape) value() []int {
	out := []int{s.con}
	for _, part := range s.parts {
		out = append(out, part.value()...)
	}
	return out
}

// meets tells whether both share a value; where one of them is a value whether it fits the other.
func (s *shape) meets(o *shape) bool {
	if s.con == anyCon || o.con == anyCon {
		return true
	}
	if s.con != o.con {
		return false
	}
	for k := range s.parts {
		if !s.parts[k].meets(o.parts[k]) {
			return false
		}
	}
	return true
}

// common tells the pattern of all that fit both, which meet.
func (s *shape) common(o *shape) *shape {
	if s.con == anyCon {
		return o
	}
	if o.con == anyCon {
		return s
	}
	out := &shape{con: s.con}
	for k := range s.parts {
		out.parts = append(out.parts, s.parts[k].common(o.parts[k]))
	}
	return out
}

func ofCon(d impl.Data, con int) *shape {
	out := &shape{con: con}
	for range d.Cons[con] {
		out.parts = append(out.parts, anyShape())
	}
	return out
}

// without tells patterns that share no value with each other, of all that fit s and do not fit o.
func (s *shape) without(d impl.Data, o *shape) []*shape {
	if !s.meets(o) {
		return []*shape{s}
	}
	var out []*shape
	if o.con == anyCon {
		return nil
	}
	if s.con == anyCon {
		for con := range d.Cons {
			out = append(out, ofCon(d, con).without(d, o)...)
		}
		return out
	}
	for k := range s.parts {
		for _, part := range s.parts[k].without(d, o.parts[k]) {
			one := &shape{con: s.con}
			for j := range k {
				one.parts = append(one.parts, s.parts[j].common(o.parts[j]))
			}
			one.parts = append(one.parts, part)
			out = append(out, &shape{s.con, append(one.parts, s.parts[k+1:]...)})
		}
	}
	return out
}

// leftOf tells what fits s and none of others.
func leftOf(d impl.Data, s *shape, others []*shape) []*shape {
	left := []*shape{s}
	for _, o := range others {
		var less []*shape
		for _, one := range left {
			less = append(less, one.without(d, o)...)
		}
		left = less
	}
	return left
}

func plainFirst(d impl.Data, rules [][]impl.Pat, v []int) int {
	return slices.IndexFunc(shapesOf(d, rules), shapeOfValue(d, v).meets)
}

func plainVain(d impl.Data, rules [][]impl.Pat) []int {
	var out []int
	all := shapesOf(d, rules)
	for number, s := range all {
		if len(leftOf(d, s, all[:number])) == 0 {
			out = append(out, number)
		}
	}
	return out
}

// plainMissedRow follows the chapter's words, of rows of so many patterns.
func plainMissedRow(d impl.Data, rows [][]*shape, width int) ([]*shape, bool) {
	if len(rows) == 0 {
		var out []*shape
		for range width {
			out = append(out, anyShape())
		}
		return out, true
	}
	if width == 0 {
		return nil, false
	}
	isNamed := func(row []*shape) bool { return row[0].con != anyCon }
	if !slices.ContainsFunc(rows, isNamed) {
		var behind [][]*shape
		for _, row := range rows {
			behind = append(behind, row[1:])
		}
		out, is := plainMissedRow(d, behind, width-1)
		return append([]*shape{anyShape()}, out...), is
	}
	for con, parts := range d.Cons {
		var within [][]*shape
		for _, row := range rows {
			if !row[0].meets(ofCon(d, con)) {
				continue
			}
			within = append(within, slices.Concat(row[0].common(ofCon(d, con)).parts, row[1:]))
		}
		if out, is := plainMissedRow(d, within, parts+width-1); is {
			return append([]*shape{{con, out[:parts]}}, out[parts:]...), true
		}
	}
	return nil, false
}

func plainMissed(d impl.Data, rules [][]impl.Pat) ([]impl.Pat, bool) {
	var rows [][]*shape
	for _, s := range shapesOf(d, rules) {
		rows = append(rows, []*shape{s})
	}
	out, is := plainMissedRow(d, rows, 1)
	if !is {
		return nil, false
	}
	return out[0].cells(), true
}

// What a rule asks: paths are texts of digits, in order.
type plainAsks struct {
	rule  int
	paths []string
	at    map[string]*shape
}

func (a plainAsks) answered(path string, con int) (plainAsks, bool) {
	s := a.at[path]
	if s == nil {
		return a, true
	}
	if s.con != con {
		return a, false
	}
	out := plainAsks{a.rule, nil, map[string]*shape{}}
	for k, part := range s.parts {
		if part.con != anyCon {
			within := path + strconv.Itoa(k)
			out.paths, out.at[within] = append(out.paths, within), part
		}
	}
	for _, other := range a.paths {
		if other != path {
			out.paths, out.at[other] = append(out.paths, other), a.at[other]
		}
	}
	return out, true
}

// nodesBelow tells how many nodes there are from one on, itself too.
func nodesBelow(nodes []impl.Node, at int) int {
	count := 1
	for _, next := range nodes[at].Next {
		count += nodesBelow(nodes, next)
	}
	return count
}

// putBelow puts a node and all below it where they are to stand: each side behind as many as the sides ahead of it have.
func putBelow(out []impl.Node, to int, nodes []impl.Node, at int) {
	out[to] = impl.Node{Rule: nodes[at].Rule, Path: nodes[at].Path}
	place := to + 1
	for _, next := range nodes[at].Next {
		out[to].Next = append(out[to].Next, place)
		putBelow(out, place, nodes, next)
		place += nodesBelow(nodes, next)
	}
}

// plainCompile tells at most some more than 200 nodes, found level by level and then put in their order.
func plainCompile(d impl.Data, rules [][]impl.Pat) []impl.Node {
	var first []plainAsks
	for number, s := range shapesOf(d, rules) {
		one := plainAsks{rule: number}
		if s.con != anyCon {
			one.paths, one.at = []string{""}, map[string]*shape{"": s}
		}
		first = append(first, one)
	}
	levels := [][]plainAsks{first}
	var out []impl.Node
	for len(levels) > len(out) && len(levels) < 210 {
		now := levels[len(out)]
		if len(now) == 0 {
			out = append(out, impl.Node{Rule: -1})
			continue
		}
		if len(now[0].paths) == 0 {
			out = append(out, impl.Node{Rule: now[0].rule})
			continue
		}
		path := now[0].paths[0]
		node := impl.Node{Rule: -2, Path: valueOf(path)}
		for con := range d.Cons {
			var side []plainAsks
			for _, one := range now {
				if left, stays := one.answered(path, con); stays {
					side = append(side, left)
				}
			}
			node.Next = append(node.Next, len(levels))
			levels = append(levels, side)
		}
		out = append(out, node)
	}
	for len(out) < len(levels) {
		out = append(out, impl.Node{Rule: -1})
	}
	ordered := make([]impl.Node, len(out))
	putBelow(ordered, 0, out, 0)
	return ordered
}

// allShapes tells all patterns (with anys) or values of just so many cells.
func allShapes(d impl.Data, cells int, anys bool) []*shape {
	var out []*shape
	if anys && cells == 1 {
		out = append(out, anyShape())
	}
	for con, parts := range d.Cons {
		switch parts {
		case 0:
			if cells == 1 {
				out = append(out, &shape{con: con})
			}
		case 1:
			if cells > 1 {
				for _, part := range allShapes(d, cells-1, anys) {
					out = append(out, &shape{con, []*shape{part}})
				}
			}
		case 2:
			for size := 1; size < cells-1; size++ {
				for _, one := range allShapes(d, size, anys) {
					for _, other := range allShapes(d, cells-1-size, anys) {
						out = append(out, &shape{con, []*shape{one, other}})
					}
				}
			}
		}
	}
	return out
}

func patternsUpTo(d impl.Data, cells int) [][]impl.Pat {
	var out [][]impl.Pat
	for size := 1; size <= cells; size++ {
		for _, s := range allShapes(d, size, true) {
			out = append(out, s.cells())
		}
	}
	return out
}

func valuesUpTo(d impl.Data, cells int) [][]int {
	var out [][]int
	for size := 1; size <= cells; size++ {
		for _, s := range allShapes(d, size, false) {
			out = append(out, s.value())
		}
	}
	return out
}

func drawData(r *draw) impl.Data {
	var out impl.Data
	for range 1 + r.below(4) {
		out.Cons = append(out.Cons, max(r.below(3), r.below(3)))
	}
	out.Cons[r.below(len(out.Cons))] = 0
	return out
}

// drawShape tells a pattern that is at most so deep; one cell in anys, if that is not 0, is PatAny.
func drawShape(r *draw, d impl.Data, deep int, anys int) *shape {
	if anys > 0 && r.below(anys) == 0 {
		return anyShape()
	}
	con := r.below(len(d.Cons))
	if deep == 0 {
		con = slices.Index(d.Cons, 0)
	}
	out := &shape{con: con}
	for range d.Cons[con] {
		out.parts = append(out.parts, drawShape(r, d, deep-1, anys))
	}
	return out
}

// drawFitting tells a value that fits the pattern, but for one place in many.
func drawFitting(r *draw, d impl.Data, s *shape) *shape {
	if s.con == anyCon || r.below(12) == 0 {
		return drawShape(r, d, 1, 0)
	}
	out := &shape{con: s.con}
	for _, part := range s.parts {
		out.parts = append(out.parts, drawFitting(r, d, part))
	}
	return out
}

func drawRules(r *draw, d impl.Data, most int) [][]impl.Pat {
	var out [][]impl.Pat
	anys := 2 + r.below(3)
	deep := 1 + r.below(4)
	for range r.below(most + 1) {
		// Few are all that any value fits, or there would be little behind them.
		s := drawShape(r, d, deep, anys)
		if s.con == anyCon && r.below(4) > 0 {
			s = drawShape(r, d, deep, anys)
		}
		out = append(out, s.cells())
	}
	return out
}

func drawValue(r *draw, d impl.Data, rules [][]impl.Pat) []int {
	if len(rules) == 0 {
		return drawShape(r, d, 3, 0).value()
	}
	// The later ones are taken oftener: many a value fits one ahead of them.
	number := max(r.below(len(rules)), r.below(len(rules)))
	for {
		if v := drawFitting(r, d, shapeOf(d, rules[number])).value(); len(v) <= 60 {
			return v
		}
	}
}

// comb tells a pattern that asks at so many places: each one of two (with two parts) has the next one as its second part, none (with no parts) is the last one.
func comb(asks int, two int, none int) []impl.Pat {
	return patOf(strings.Repeat(strconv.Itoa(two)+"_", asks-1) + strconv.Itoa(none))
}

func cloneRules(rules [][]impl.Pat) [][]impl.Pat {
	var out [][]impl.Pat
	for _, rule := range rules {
		out = append(out, slices.Clone(rule))
	}
	return out
}

func sameRules(a, b [][]impl.Pat) bool {
	return slices.EqualFunc(a, b, slices.Equal)
}

func cloneNodes(nodes []impl.Node) []impl.Node {
	var out []impl.Node
	for _, n := range nodes {
		out = append(out, impl.Node{Rule: n.Rule, Path: slices.Clone(n.Path), Next: slices.Clone(n.Next)})
	}
	return out
}

func sameNodes(a, b []impl.Node) bool {
	return slices.EqualFunc(a, b, func(x, y impl.Node) bool {
		return x.Rule == y.Rule && slices.Equal(x.Path, y.Path) && slices.Equal(x.Next, y.Next)
	})
}

func checkFirst(t *testing.T, d impl.Data, rules [][]impl.Pat, v []int, want int) {
	t.Helper()
	if got, ok := impl.FirstMatch(d, rules, v); got != want || !ok {
		t.Errorf("FirstMatch(%v, %s, %v): %d %v, want %d", d.Cons, rulesText(rules), v, got, ok, want)
	}
}

func checkMissed(t *testing.T, d impl.Data, rules [][]impl.Pat, want []impl.Pat, wantIs bool) {
	t.Helper()
	got, is, ok := impl.MissedBy(d, rules)
	if !slices.Equal(got, want) || is != wantIs || !ok {
		t.Errorf("MissedBy(%v, %s): %s %v %v, want %s %v", d.Cons, rulesText(rules), patText(got), is, ok, patText(want), wantIs)
	}
}

func checkVain(t *testing.T, d impl.Data, rules [][]impl.Pat, want []int) {
	t.Helper()
	if got, ok := impl.VainIn(d, rules); !slices.Equal(got, want) || !ok {
		t.Errorf("VainIn(%v, %s): %v %v, want %v", d.Cons, rulesText(rules), got, ok, want)
	}
}

// checkCompiled tells the nodes, none where there are too many.
func checkCompiled(t *testing.T, d impl.Data, rules [][]impl.Pat, want []impl.Node) []impl.Node {
	t.Helper()
	got, ok := impl.CompileRules(d, rules)
	fits := len(want) <= 200
	if !fits {
		want = nil
	}
	if !sameNodes(got, want) || ok != fits {
		t.Errorf("CompileRules(%v, %s): %s %v, want %s %v", d.Cons, rulesText(rules), nodesText(got), ok, nodesText(want), fits)
	}
	return got
}

func checkNodesRun(t *testing.T, d impl.Data, nodes []impl.Node, v []int, want int, wantLooks int) {
	t.Helper()
	if got, looks, ok := impl.RunNodes(d, nodes, v); got != want || looks != wantLooks || !ok {
		t.Errorf("RunNodes(%v, %s, %v): %d %d %v, want %d %d", d.Cons, nodesText(nodes), v, got, looks, ok, want, wantLooks)
	}
}

func checkNodesRefused(t *testing.T, d impl.Data, nodes []impl.Node, v []int) {
	t.Helper()
	if got, looks, ok := impl.RunNodes(d, nodes, v); got != 0 || looks != 0 || ok {
		t.Errorf("RunNodes(%v, %s, %v): %d %d %v", d.Cons, nodesText(nodes), v, got, looks, ok)
	}
}
