package tests

import (
	"slices"
	"strings"
	"testing"

	"loop.example/g00339/impl"
)

func wrongData() []impl.Data {
	const most, least = 1<<63 - 1, -1 << 63
	return []impl.Data{
		{}, {Cons: []int{}}, dataOf(1), dataOf(2), dataOf(1, 2), dataOf(2, 2, 2, 2), dataOf(-1, 0), dataOf(0, -1), dataOf(0, 3), dataOf(3, 0), dataOf(0, 0, 0, 0, 0), dataOf(0, 1, 2, 1, 2),
		dataOf(most, 0), dataOf(0, least), dataOf(least), dataOf(most), {Cons: make([]int, 100000)},
	}
}

// wrongRules tells rules that are not good with the data 0, 1, 2.
func wrongRules() [][][]impl.Pat {
	out := [][][]impl.Pat{
		{nil}, {{}}, {patOf("_"), nil}, {{}, patOf("_")}, make([][]impl.Pat, 8), make([][]impl.Pat, 9), make([][]impl.Pat, 100000), slices.Repeat(rulesOf("_"), 9),
		rulesOf("1"), rulesOf("2_"), rulesOf("__"), rulesOf("00"), rulesOf("1__"), rulesOf("0 1_ 2__ 2"), rulesOf("_ 3"),
		rulesOf(strings.Repeat("1", 40) + "0"), rulesOf("_ " + strings.Repeat("1", 40) + "_"), rulesOf(strings.Repeat("1", 100000)), rulesOf(strings.Repeat("2", 100000)),
	}
	for _, wrong := range wrongCells() {
		out = append(out, [][]impl.Pat{{wrong}}, [][]impl.Pat{{{Kind: impl.PatOf, Con: 1}, wrong}}, [][]impl.Pat{patOf("_"), {{Kind: impl.PatOf, Con: 2}, {Kind: impl.PatAny}, wrong}}, [][]impl.Pat{{wrong, {Kind: impl.PatAny}}})
	}
	return out
}

func wrongValues() [][]int {
	const most, least = 1<<63 - 1, -1 << 63
	return [][]int{
		nil, {}, {1}, {2, 0}, {0, 0}, {1, 0, 0}, {-1}, {3}, {most}, {least}, {1, most}, {2, least, 0}, {2, 0, -1},
		valueOf(strings.Repeat("1", 60) + "0"), valueOf(strings.Repeat("1", 60)), make([]int, 60), make([]int, 100000),
	}
}

// checkNoAnswer holds the zero answers of all that ask for rules.
func checkNoAnswer(t *testing.T, d impl.Data, rules [][]impl.Pat, v []int) {
	t.Helper()
	kept, keptCons, keptValue := cloneRules(rules), slices.Clone(d.Cons), slices.Clone(v)
	if impl.GoodRules(d, rules) {
		t.Errorf("told good: %v, %v", d.Cons, rules)
	}
	if got, ok := impl.FirstMatch(d, rules, v); got != 0 || ok {
		t.Errorf("FirstMatch(%v, %v, %v): %d %v", d.Cons, rules, v, got, ok)
	}
	if got, ok := impl.CompileRules(d, rules); len(got) > 0 || ok {
		t.Errorf("CompileRules(%v, %v): %v %v", d.Cons, rules, got, ok)
	}
	if got, is, ok := impl.MissedBy(d, rules); len(got) > 0 || is || ok {
		t.Errorf("MissedBy(%v, %v): %v %v %v", d.Cons, rules, got, is, ok)
	}
	if got, ok := impl.VainIn(d, rules); len(got) > 0 || ok {
		t.Errorf("VainIn(%v, %v): %v %v", d.Cons, rules, got, ok)
	}
	if !sameRules(rules, kept) || !slices.Equal(d.Cons, keptCons) || !slices.Equal(v, keptValue) {
		t.Errorf("changed: %v %v %v, was %v %v %v", d.Cons, rules, v, keptCons, kept, keptValue)
	}
}

func TestWrongRules(t *testing.T) {
	good := dataOf(0, 1, 2)
	for _, rules := range wrongRules() {
		checkNoAnswer(t, good, rules, valueOf("0"))
		checkNoAnswer(t, good, rules, nil)
	}
	for _, d := range wrongData() {
		if impl.GoodData(d) {
			t.Errorf("told good: %v", d.Cons)
		}
		for _, rules := range append(wrongRules(), nil, rulesOf("_"), rulesOf("0"), rulesOf("0 1_ 2__")) {
			checkNoAnswer(t, d, rules, valueOf("0"))
		}
		for _, v := range append(wrongValues(), valueOf("0"), valueOf("10"), valueOf("200")) {
			if impl.GoodValue(d, v) {
				t.Errorf("told good: %v, %v", d.Cons, v)
			}
			for _, nodes := range append(spoiledNodes(), nodesOf("0"), nodesOf("/:1,2 0 1"), nodesOf("/:1,2,3 0 1 2"), nodesOf("/:1 0")) {
				checkNodesRefused(t, d, nodes, v)
			}
		}
	}
}

func TestWrongValues(t *testing.T) {
	d := dataOf(0, 1, 2)
	for _, v := range wrongValues() {
		kept := slices.Clone(v)
		if impl.GoodValue(d, v) {
			t.Errorf("told good: %v", v)
		}
		for _, text := range []string{"", "_", "0 1_ 2__", "0 0 0 0 0 0 0 0"} {
			if got, ok := impl.FirstMatch(d, rulesOf(text), v); got != 0 || ok {
				t.Errorf("FirstMatch(%s, %v): %d %v", text, v, got, ok)
			}
		}
		for _, text := range []string{"0", "-1", "/:1,2,3 0 1 2"} {
			checkNodesRefused(t, d, nodesOf(text), v)
		}
		if !slices.Equal(v, kept) {
			t.Errorf("changed: %v, was %v", v, kept)
		}
	}
}

// withMore tells a list of the same length that has more behind it in its memory.
func withMore[T any](l []T, more ...T) []T {
	return append(slices.Clone(l), more...)[:len(l)]
}

// behind tells what withMore put behind the length.
func behind[T any](l []T, more int) []T {
	return l[len(l) : len(l)+more]
}

// TestPatternsBehindTheLength: what lies behind a list's length is neither read, nor written, nor handed out.
func TestPatternsBehindTheLength(t *testing.T) {
	junk := impl.Pat{Kind: 9, Con: -9}
	r := draw(806)
	for range 500 {
		d := drawData(&r)
		rules := drawRules(&r, d, 7)
		v := drawValue(&r, d, rules)
		long := withMore(rules, patOf("77"), nil)
		for k := range long {
			long[k] = withMore(long[k], junk, impl.Pat{Kind: impl.PatAny}, junk)
		}
		data := impl.Data{Cons: withMore(d.Cons, 0, 7)}
		value := withMore(v, 0, 1, -5)
		checkFirst(t, data, long, value, plainFirst(d, rules, v))
		want, is := plainMissed(d, rules)
		checkMissed(t, data, long, want, is)
		checkVain(t, data, long, plainVain(d, rules))
		nodes := checkCompiled(t, data, long, plainCompile(d, rules))
		if len(nodes) > 0 {
			longNodes := withMore(nodes, impl.Node{Rule: -5}, impl.Node{Rule: 3})
			for k := range longNodes {
				longNodes[k].Path = withMore(longNodes[k].Path, -1, 0)
				longNodes[k].Next = withMore(longNodes[k].Next, -1, 0)
			}
			checkNodesRun(t, data, longNodes, value, plainFirst(d, rules, v), plainLooks(d, nodes, v))
			for _, n := range longNodes {
				if !slices.Equal(behind(n.Path, 2), []int{-1, 0}) || !slices.Equal(behind(n.Next, 2), []int{-1, 0}) {
					t.Errorf("written behind: %v", n)
				}
			}
			if !sameNodes(nodes, longNodes) || longNodes[:len(nodes)+1][len(nodes)].Rule != -5 {
				t.Errorf("changed: %s, was %s", nodesText(longNodes), nodesText(nodes))
			}
		}
		for _, rule := range long {
			if !slices.Equal(behind(rule, 3), []impl.Pat{junk, {Kind: impl.PatAny}, junk}) {
				t.Errorf("written behind: %v", rule)
			}
		}
		if !slices.Equal(behind(value, 3), []int{0, 1, -5}) || !slices.Equal(behind(data.Cons, 2), []int{0, 7}) || !slices.Equal(behind(long, 2)[0], patOf("77")) || behind(long, 2)[1] != nil {
			t.Errorf("written behind: %v %v %v", value, data.Cons, long[:len(long)+2])
		}
		if !sameRules(long, rules) || !slices.Equal(value, v) || !slices.Equal(data.Cons, d.Cons) {
			t.Errorf("changed: %v %s %v", data.Cons, rulesText(long), value)
		}
	}
}

// TestPatternsAnswersOfTheirOwn writes into each list of an answer, as far as its memory goes: no other list and no argument may change.
func TestPatternsAnswersOfTheirOwn(t *testing.T) {
	r := draw(807)
	for range 300 {
		d := drawData(&r)
		rules := drawRules(&r, d, 8)
		keptRules, keptCons := cloneRules(rules), slices.Clone(d.Cons)
		nodes, _ := impl.CompileRules(d, rules)
		kept := cloneNodes(nodes)
		for k, n := range nodes {
			for _, l := range [][]int{n.Path, n.Next} {
				room := l[:cap(l)]
				was := slices.Clone(room)
				for i := range room {
					room[i] = -77
				}
				for other, o := range nodes {
					if other != k && !sameNodes([]impl.Node{o}, kept[other:other+1]) {
						t.Fatalf("%v, %s: node %d shares memory with node %d", d.Cons, rulesText(rules), other, k)
					}
				}
				copy(room, was)
			}
			path := n.Path[:cap(n.Path)]
			for i := range path {
				path[i] = -78
			}
			if !slices.Equal(n.Next, kept[k].Next) {
				t.Fatalf("%v, %s: Path and Next of node %d share memory", d.Cons, rulesText(rules), k)
			}
			copy(path, kept[k].Path)
		}
		missed, _, _ := impl.MissedBy(d, rules)
		for i := range missed[:cap(missed)] {
			missed[:cap(missed)][i] = impl.Pat{Kind: -7, Con: -7}
		}
		vain, _ := impl.VainIn(d, rules)
		for i := range vain[:cap(vain)] {
			vain[:cap(vain)][i] = -7
		}
		if !sameRules(rules, keptRules) || !slices.Equal(d.Cons, keptCons) {
			t.Fatalf("changed: %v %s, was %v %s", d.Cons, rulesText(rules), keptCons, rulesText(keptRules))
		}
		// What was told is told again.
		checkCompiled(t, d, rules, plainCompile(d, rules))
		want, is := plainMissed(d, rules)
		checkMissed(t, d, rules, want, is)
		checkVain(t, d, rules, plainVain(d, rules))
	}
}
