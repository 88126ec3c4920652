package tests

import (
	"slices"
	"testing"

	"loop.example/g00339/impl"
)

func TestCompileRules(t *testing.T) {
	list := dataOf(0, 2)
	number := dataOf(0, 1)
	for _, c := range []struct {
		d           impl.Data
		rules, want string
	}{
		{number, "", "-1"},
		{dataOf(0), "", "-1"},
		{dataOf(0, 1, 2, 0), "", "-1"},
		{number, "_", "0"},
		{number, "_ 0 1_", "0"},
		{dataOf(0), "_", "0"},
		{dataOf(0), "0", "/:1 0"},
		{dataOf(0), "0 _", "/:1 0"},
		{dataOf(0), "_ 0", "0"},
		{dataOf(0, 0), "1", "/:1,2 -1 0"},
		{number, "0", "/:1,2 0 -1"},
		{number, "1_", "/:1,2 -1 0"},
		{number, "1_ 0", "/:1,2 1 0"},
		{number, "0 _", "/:1,2 0 1"},
		{number, "1_ _ 0", "/:1,2 1 0"},
		{number, "10 0 110", "/:1,2 1 /0:3,4 0 /0,0:5,6 2 -1"},
		// One that does not ask where it is looked stays on each side, in its order.
		{list, "10_ 1_0 _", "/:1,2 2 /0:3,4 0 /1:5,6 1 2"},
		{list, "10_ _ 1_0", "/:1,2 1 /0:3,4 0 1"},
		{list, "1_0 10_ 0", "/:1,2 2 /1:3,4 0 /0:5,6 1 -1"},
		{list, "100 1_0 1__", "/:1,2 -1 /0:3,6 /1:4,5 0 2 /1:7,8 1 2"},
		{number, "110 _ 10", "/:1,2 1 /0:3,4 1 /0,0:5,6 0 1"},
		// All nodes of one constructor's rules come behind all that are there, those of the next one behind these.
		{list, "100", "/:1,2 -1 /0:3,6 /1:4,5 0 -1 -1"},
		{list, "100 11__0", "/:1,2 -1 /0:3,6 /1:4,5 0 -1 /1:7,8 1 -1"},
		{dataOf(2, 0), "00__0__ 1", "/:1,6 /0:2,5 /1:3,4 0 -1 -1 1"},
		{dataOf(2, 0), "000____ 1", "/:1,6 /0:2,5 /0,0:3,4 0 -1 -1 1"},
		// Parts are asked ahead of what else was to be asked.
		{list, "1_10_ 1011___", "/:1,2 -1 /1:3,4 -1 /1,0:5,6 0 /0:7,8 1 -1"},
		{list, "1_1_0 1010_", "/:1,2 -1 /1:3,4 -1 /1,1:5,6 0 /1,0:7,10 /0:8,9 1 -1 -1"},
		{list, "110_0", "/:1,2 -1 /0:3,4 -1 /0,0:5,8 /1:6,7 0 -1 -1"},
		{list, "11_010_", "/:1,2 -1 /0:3,4 -1 /0,1:5,10 /1:6,7 -1 /1,0:8,9 0 -1 -1"},
		// Three constructors, with looks below one, two and all of them.
		{dataOf(1, 2, 0), "10__ 12_ 00_", "/:1,5,9 /0:2,3,4 2 -1 -1 /0:6,7,8 0 -1 1 -1"},
		{dataOf(1, 2, 0), "100__ 12_ 00_", "/:1,5,12 /0:2,3,4 2 -1 -1 /0:6,10,11 /0,0:7,8,9 0 -1 -1 -1 1 -1"},
		{dataOf(2, 1, 0), "0_2 _", "/:1,5,6 /1:2,3,4 1 1 0 1 1"},
		{dataOf(2, 1, 0), "0_2 02_ 0__", "/:1,11,12 /1:2,6,10 /0:3,4,5 2 2 1 /0:7,8,9 2 2 1 0 -1 -1"},
		{dataOf(2, 1, 0), "022 112 2", "/:1,8,15 /0:2,3,4 -1 -1 /1:5,6,7 -1 -1 0 /0:9,10,14 -1 /0,0:11,12,13 -1 -1 1 -1 2"},
		{dataOf(0, 2, 1), "100 11__0 12_0", "/:1,2,15 -1 /0:3,7,11 /1:4,5,6 0 -1 -1 /1:8,9,10 1 -1 -1 /1:12,13,14 2 -1 -1 -1"},
		// Four of them.
		{dataOf(1, 2, 0, 1), "02 12_ 32", "/:1,6,11,12 /0:2,3,4,5 -1 -1 0 -1 /0:7,8,9,10 -1 -1 1 -1 -1 /0:13,14,15,16 -1 -1 2 -1"},
		{dataOf(0, 1, 2, 0), "3 1_ 20_ 2_3", "/:1,2,3,20 -1 1 /0:4,5,10,15 2 /1:6,7,8,9 -1 -1 -1 3 /1:11,12,13,14 -1 -1 -1 3 /1:16,17,18,19 -1 -1 -1 3 0"},
		{dataOf(2, 0, 1, 0), "0_3 021_ 23 _", "/:1,30,31,36 /1:2,11,20,29 /0:3,4,5,10 3 3 /0,0:6,7,8,9 3 1 3 3 3 /0:12,13,14,19 3 3 /0,0:15,16,17,18 3 1 3 3 3 /0:21,22,23,28 3 3 /0,0:24,25,26,27 3 1 3 3 3 0 3 /0:32,33,34,35 3 3 3 2 3"},
	} {
		rules := rulesOf(c.rules)
		checkCompiled(t, c.d, rules, nodesOf(c.want))
		if got := nodesText(plainCompile(c.d, rules)); got != c.want {
			t.Errorf("%v, %s: the plain way tells %s, want %s", c.d.Cons, c.rules, got, c.want)
		}
	}
}

// twoCombs tells rules that ask at so many places each, apart from each other, behind one that both ask.
func twoCombs(d impl.Data, first int, second int) [][]impl.Pat {
	two, none := slices.Index(d.Cons, 2), slices.Index(d.Cons, 0)
	whole := impl.Pat{Kind: impl.PatOf, Con: two}
	return [][]impl.Pat{
		slices.Concat([]impl.Pat{whole}, comb(first, two, none), patOf("_")),
		slices.Concat([]impl.Pat{whole}, patOf("_"), comb(second, two, none)),
	}
}

// TestCompileManyNodes: no tree has just 200 nodes, for as many sides as there are constructors come with each look: the nearest ones on both sides are asked.
func TestCompileManyNodes(t *testing.T) {
	for _, c := range []struct {
		d             impl.Data
		first, second int
		nodes         int
	}{
		{dataOf(0, 2), 7, 13, 199},
		{dataOf(2, 0), 7, 13, 199},
		{dataOf(0, 2), 9, 10, 201},
		{dataOf(2, 0), 9, 10, 201},
		{dataOf(0, 2, 1), 5, 6, 199},
		{dataOf(0, 2, 1), 6, 5, 202},
		{dataOf(0, 2, 2, 1), 12, 1, 197},
		{dataOf(0, 1, 2, 0), 12, 1, 197},
		{dataOf(0, 1, 2, 0), 7, 2, 201},
		{dataOf(0, 2, 2, 1), 7, 2, 201},
		{dataOf(0, 2, 2, 1), 18, 18, 210},
	} {
		rules := twoCombs(c.d, c.first, c.second)
		want := plainCompile(c.d, rules)
		if len(want) < c.nodes || c.nodes < 205 && len(want) != c.nodes {
			t.Errorf("%v, %d, %d: %d nodes", c.d.Cons, c.first, c.second, len(want))
		}
		checkCompiled(t, c.d, rules, want)
	}
	// Eight rules of nearly as many cells as there may be: by far too many nodes, told in a moment.
	d := dataOf(2, 0, 0, 0)
	var rules [][]impl.Pat
	for k := range 8 {
		rules = append(rules, slices.Concat(patOf("0_0_0_0_0_0_0_"[:2*min(k, 7)]), patOf("0"), comb(11, 0, 1), patOf("_")))
	}
	if !impl.GoodRules(d, rules) {
		t.Fatal("not good:", rulesText(rules))
	}
	checkCompiled(t, d, rules, make([]impl.Node, 201))
}

func TestCompileRulesOfAll(t *testing.T) {
	for _, c := range []struct {
		d     impl.Data
		cells int
	}{
		{dataOf(0), 4}, {dataOf(0, 0), 4}, {dataOf(0, 1), 4}, {dataOf(2, 0), 4}, {dataOf(0, 2, 1), 4}, {dataOf(2, 1, 0), 4}, {dataOf(2, 0, 1, 2), 3}, {dataOf(1, 2, 1, 0), 3},
	} {
		patterns := patternsUpTo(c.d, c.cells)
		for _, one := range patterns {
			for _, other := range patterns {
				for _, last := range patterns {
					rules := [][]impl.Pat{one, other, last}
					checkCompiled(t, c.d, rules, plainCompile(c.d, rules))
				}
			}
		}
	}
}

// lastBelow tells the last node that a node, or any below it, goes on to.
func lastBelow(nodes []impl.Node, at int) int {
	last := at
	for _, next := range nodes[at].Next {
		last = max(last, lastBelow(nodes, next))
	}
	return last
}

// inOrder tells whether each look goes on right behind it, and with each further constructor right behind the last node of the one ahead.
func inOrder(nodes []impl.Node) bool {
	for at, n := range nodes {
		place := at + 1
		for _, next := range n.Next {
			if next != place {
				return false
			}
			place = lastBelow(nodes, next) + 1
		}
	}
	return lastBelow(nodes, 0) == len(nodes)-1
}

// looksAhead tells the most constructors that go on from one node to a look, without the last constructor, behind which nothing comes.
func looksAhead(nodes []impl.Node) int {
	most := 0
	for _, n := range nodes {
		looks := 0
		for _, next := range n.Next[:max(len(n.Next)-1, 0)] {
			if nodes[next].Rule == -2 {
				looks++
			}
		}
		most = max(most, looks)
	}
	return most
}

func TestCompiledOrder(t *testing.T) {
	r := draw(808)
	// How many were drawn, by how many constructors there are and how many of them go on to a look.
	var drawn [5][4]int
	for range 15000 {
		d := drawData(&r)
		rules := drawRules(&r, d, 8)
		nodes, ok := impl.CompileRules(d, rules)
		if !ok {
			continue
		}
		if !inOrder(nodes) {
			t.Errorf("%v, %s: out of order: %s", d.Cons, rulesText(rules), nodesText(nodes))
		}
		drawn[len(d.Cons)][looksAhead(nodes)]++
	}
	for cons, most := range []int{0, 0, 1, 2, 3} {
		for looks := range most {
			if drawn[cons][looks+1] < 100 {
				t.Errorf("hardly drawn: %d of %d constructors that go on to a look: %d", looks+1, cons, drawn[cons][looks+1])
			}
		}
	}
}

func TestCompileRulesDrawn(t *testing.T) {
	r := draw(804)
	large, many := 0, 0
	for range 15000 {
		d := drawData(&r)
		rules := drawRules(&r, d, 8)
		kept := cloneRules(rules)
		want := plainCompile(d, rules)
		checkCompiled(t, d, rules, want)
		if len(want) > 200 {
			many++
		} else if len(want) > 60 {
			large++
		}
		if !sameRules(rules, kept) {
			t.Errorf("changed: %s, was %s", rulesText(rules), rulesText(kept))
		}
	}
	if large < 100 || many < 20 {
		t.Error("hardly drawn:", large, many)
	}
}
