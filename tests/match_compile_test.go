package tests

import (
	"slices"
	"testing"

	"loop.example/g00339/impl"
)

func TestCompileRules(t *testing.T) {
	list := dataOf(0, 2)
	number := dataOf(0, 1)
	for _, c := range []struct {
		d           impl.Data
		rules, want string
	}{
		{number, "", "-1"},
		{dataOf(0), "", "-1"},
		{dataOf(0, 1, 2, 0), "", "-1"},
		{number, "_", "0"},
		{number, "_ 0 1_", "0"},
		{dataOf(0), "_", "0"},
		{dataOf(0), "0", "/:1 0"},
		{dataOf(0), "0 _", "/:1 0"},
		{dataOf(0), "_ 0", "0"},
		{dataOf(0, 0), "1", "/:1,2 -1 0"},
		{number, "0", "/:1,2 0 -1"},
		{number, "1_", "/:1,2 -1 0"},
		{number, "1_ 0", "/:1,2 1 0"},
		{number, "0 _", "/:1,2 0 1"},
		{number, "1_ _ 0", "/:1,2 1 0"},
		{number, "10 0 110", "/:1,2 1 /0:3,4 0 /0,0:5,6 2 -1"},
		// One that does not ask where it is looked stays on each side, in its order.
		{list, "10_ 1_0 _", "/:1,2 2 /0:3,4 0 /1:5,6 1 2"},
		{list, "10_ _ 1_0", "/:1,2 1 /0:3,4 0 1"},
		{list, "1_0 10_ 0", "/:1,2 2 /1:3,4 0 /0:5,6 1 -1"},
		{list, "100 1_0 1__", "/:1,2 -1 /0:3,4 /1:5,6 /1:7,8 0 2 1 2"},
		{number, "110 _ 10", "/:1,2 1 /0:3,4 1 /0,0:5,6 0 1"},
		// The nodes of both sides come behind all that are there.
		{list, "100 11__0", "/:1,2 -1 /0:3,4 /1:5,6 /1:7,8 0 -1 1 -1"},
		{dataOf(2, 0), "00__0__ 1", "/:1,2 /0:3,4 1 /1:5,6 -1 0 -1"},
		{dataOf(2, 0), "000____ 1", "/:1,2 /0:3,4 1 /0,0:5,6 -1 0 -1"},
		// Parts are asked ahead of what else was to be asked.
		{list, "1_10_ 1011___", "/:1,2 -1 /1:3,4 -1 /1,0:5,6 0 /0:7,8 1 -1"},
		{list, "1_1_0 1010_", "/:1,2 -1 /1:3,4 -1 /1,1:5,6 0 /1,0:7,8 /0:9,10 -1 1 -1"},
		{list, "110_0", "/:1,2 -1 /0:3,4 -1 /0,0:5,6 /1:7,8 -1 0 -1"},
		{list, "11_010_", "/:1,2 -1 /0:3,4 -1 /0,1:5,6 /1:7,8 -1 -1 /1,0:9,10 0 -1"},
		{dataOf(0, 1, 2, 0), "3 1_ 20_ 2_3", "/:1,2,3,4 -1 1 /0:5,6,7,8 0 2 /1:9,10,11,12 /1:13,14,15,16 /1:17,18,19,20 -1 -1 -1 3 -1 -1 -1 3 -1 -1 -1 3"},
		{dataOf(1, 2, 0), "10__ 12_ 00_", "/:1,2,3 /0:4,5,6 /0:7,8,9 -1 2 -1 -1 0 -1 1"},
		{dataOf(1, 2, 0), "100__ 12_ 00_", "/:1,2,3 /0:4,5,6 /0:7,8,9 -1 2 -1 -1 /0,0:10,11,12 -1 1 0 -1 -1"},
	} {
		rules := rulesOf(c.rules)
		checkCompiled(t, c.d, rules, nodesOf(c.want))
		if got := nodesText(plainCompile(c.d, rules)); got != c.want {
			t.Errorf("%v, %s: the plain way tells %s, want %s", c.d.Cons, c.rules, got, c.want)
		}
	}
}

// twoCombs tells rules that ask at so many places each, apart from each other, behind one that both ask.
func twoCombs(d impl.Data, first int, second int) [][]impl.Pat {
	two, none := slices.Index(d.Cons, 2), slices.Index(d.Cons, 0)
	whole := impl.Pat{Kind: impl.PatOf, Con: two}
	return [][]impl.Pat{
		slices.Concat([]impl.Pat{whole}, comb(first, two, none), patOf("_")),
		slices.Concat([]impl.Pat{whole}, patOf("_"), comb(second, two, none)),
	}
}

// TestCompileManyNodes: no tree has just 200 nodes, for as many sides as there are constructors come with each look: the nearest ones on both sides are asked.
func TestCompileManyNodes(t *testing.T) {
	for _, c := range []struct {
		d             impl.Data
		first, second int
		nodes         int
	}{
		{dataOf(0, 2), 7, 13, 199},
		{dataOf(2, 0), 7, 13, 199},
		{dataOf(0, 2), 9, 10, 201},
		{dataOf(2, 0), 9, 10, 201},
		{dataOf(0, 2, 1), 5, 6, 199},
		{dataOf(0, 2, 1), 6, 5, 202},
		{dataOf(0, 2, 2, 1), 12, 1, 197},
		{dataOf(0, 1, 2, 0), 12, 1, 197},
		{dataOf(0, 1, 2, 0), 7, 2, 201},
		{dataOf(0, 2, 2, 1), 7, 2, 201},
		{dataOf(0, 2, 2, 1), 18, 18, 210},
	} {
		rules := twoCombs(c.d, c.first, c.second)
		want := plainCompile(c.d, rules)
		if len(want) < c.nodes || c.nodes < 205 && len(want) != c.nodes {
			t.Errorf("%v, %d, %d: %d nodes", c.d.Cons, c.first, c.second, len(want))
		}
		checkCompiled(t, c.d, rules, want)
	}
	// Eight rules of nearly as many cells as there may be: by far too many nodes, told in a moment.
	d := dataOf(2, 0, 0, 0)
	var rules [][]impl.Pat
	for k := range 8 {
		rules = append(rules, slices.Concat(patOf("0_0_0_0_0_0_0_"[:2*min(k, 7)]), patOf("0"), comb(11, 0, 1), patOf("_")))
	}
	if !impl.GoodRules(d, rules) {
		t.Fatal("not good:", rulesText(rules))
	}
	checkCompiled(t, d, rules, make([]impl.Node, 201))
}

func TestCompileRulesOfAll(t *testing.T) {
	for _, d := range []impl.Data{dataOf(0), dataOf(0, 0), dataOf(0, 1), dataOf(2, 0), dataOf(0, 2, 1)} {
		patterns := patternsUpTo(d, 4)
		for _, one := range patterns {
			for _, other := range patterns {
				for _, last := range patterns {
					rules := [][]impl.Pat{one, other, last}
					checkCompiled(t, d, rules, plainCompile(d, rules))
				}
			}
		}
	}
}

func TestCompileRulesDrawn(t *testing.T) {
	r := draw(804)
	large, many := 0, 0
	for range 15000 {
		d := drawData(&r)
		rules := drawRules(&r, d, 8)
		kept := cloneRules(rules)
		want := plainCompile(d, rules)
		checkCompiled(t, d, rules, want)
		if len(want) > 200 {
			many++
		} else if len(want) > 60 {
			large++
		}
		if !sameRules(rules, kept) {
			t.Errorf("changed: %s, was %s", rulesText(rules), rulesText(kept))
		}
	}
	if large < 100 || many < 20 {
		t.Error("hardly drawn:", large, many)
	}
}
