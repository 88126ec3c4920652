package tests

import (
	"slices"
	"testing"

	"loop.example/g00339/impl"
)

func TestRunNodes(t *testing.T) {
	list := dataOf(0, 2)
	number := dataOf(0, 1)
	for _, c := range []struct {
		d            impl.Data
		nodes, value string
		rule, looks  int
	}{
		{number, "-1", "10", -1, 0},
		{number, "0", "0", 0, 0},
		{number, "7", "10", 7, 0},
		// A rule's number is at least 0, no more is said of it.
		{number, "1000000", "10", 1000000, 0},
		{number, "9223372036854775807", "0", 9223372036854775807, 0},
		{dataOf(0), "/:1 0", "0", 0, 1},
		{number, "/:1,2 5 6", "0", 5, 1},
		{number, "/:1,2 5 6", "110", 6, 1},
		{number, "/:1,2 1 /0:3,4 0 /0,0:5,6 2 -1", "0", 1, 1},
		{number, "/:1,2 1 /0:3,4 0 /0,0:5,6 2 -1", "10", 0, 2},
		{number, "/:1,2 1 /0:3,4 0 /0,0:5,6 2 -1", "110", 2, 3},
		{number, "/:1,2 1 /0:3,4 0 /0,0:5,6 2 -1", "1110", -1, 3},
		{list, "/:1,2 2 /0:3,4 0 /1:5,6 1 2", "1" + "100" + "0", 1, 3},
		{list, "/:1,2 2 /0:3,4 0 /1:5,6 1 2", "1" + "100" + "100", 2, 3},
		{list, "/:1,2 2 /0:3,4 0 /1:5,6 1 2", "1" + "0" + "100", 0, 2},
		{list, "/:2,1 /1,0:2,3 4 5", "1" + "100" + "1" + "100" + "0", 5, 2},
		{list, "/:2,1 /1,0:2,3 4 5", "1" + "100" + "1" + "0" + "0", 4, 2},
		// Two may go on at one node, one may ask what was asked, and some may be come to from nowhere.
		{number, "/:1,1 3", "0", 3, 1},
		{number, "/:1,1 3", "10", 3, 1},
		{number, "/:1,2 4 /:3,4 5 6", "10", 6, 2},
		{number, "3 /0:2,2 4 -1", "10", 3, 0},
		{number, "/:3,3 8 9 6 7", "0", 6, 1},
		// A path that is not come to may be any.
		{number, "/:1,2 4 /5,-1:3,4 5 6", "0", 4, 1},
		{number, "/:1,2 4 /0,0,0:3,4 5 6", "0", 4, 1},
		{number, "4 /9223372036854775807:2,3 5 6", "10", 4, 0},
		{list, "/:1,2 4 /0,0:3,4 5 6", "0", 4, 1},
	} {
		nodes := nodesOf(c.nodes)
		checkNodesRun(t, c.d, nodes, valueOf(c.value), c.rule, c.looks)
		if got := nodesText(nodes); got != c.nodes {
			t.Errorf("changed: %s, was %s", got, c.nodes)
		}
	}
}

// TestRunNodesNoSuchPath comes to a path that is none of the value's.
func TestRunNodesNoSuchPath(t *testing.T) {
	list := dataOf(0, 2, 1)
	for _, c := range []struct{ nodes, value string }{
		{"/0:1,2,3 4 5 6", "0"},
		{"/1:1,2,3 4 5 6", "0"},
		{"/1:1,2,3 4 5 6", "20"},
		{"/2:1,2,3 4 5 6", "100"},
		{"/-1:1,2,3 4 5 6", "100"},
		{"/9223372036854775807:1,2,3 4 5 6", "100"},
		{"/-9223372036854775808:1,2,3 4 5 6", "100"},
		{"/0,0:1,2,3 4 5 6", "100"},
		{"/1,0:1,2,3 4 5 6", "1" + "20" + "0"},
		{"/0,1:1,2,3 4 5 6", "1" + "20" + "0"},
		{"/0,0,0:1,2,3 4 5 6", "1" + "20" + "0"},
		{"/:1,2,3 4 /0,0:4,5,6 3 5 6 7", "100"},
		{"/:1,1,1 /0:2,3,4 5 6 7", "0"},
	} {
		checkNodesRefused(t, list, nodesOf(c.nodes), valueOf(c.value))
	}
	long := impl.Node{Rule: -2, Path: make([]int, 100000), Next: []int{1, 1, 1}}
	checkNodesRefused(t, list, []impl.Node{long, {}}, valueOf("20"))
	// As deep as a value can be.
	deep := slices.Repeat([]int{2}, 59)
	for at := range 60 {
		nodes := []impl.Node{{Rule: -2, Path: make([]int, at), Next: []int{1, 1, 2}}, {Rule: 8}, {Rule: 9}}
		want := 9
		if at == 59 {
			want = 8
		}
		checkNodesRun(t, list, nodes, append(slices.Clone(deep), 0), want, 1)
	}
	checkNodesRefused(t, list, []impl.Node{{Rule: -2, Path: make([]int, 60), Next: []int{1, 1, 1}}, {}}, append(deep, 0))
}

// spoiledNodes tells nodes of two constructors that are not as said.
func spoiledNodes() [][]impl.Node {
	const most, least = 1<<63 - 1, -1 << 63
	out := [][]impl.Node{nil, {}}
	for _, rule := range []int{-3, -4, -100, least} {
		out = append(out, []impl.Node{{Rule: rule}}, []impl.Node{{Rule: 0}, {Rule: rule}}, []impl.Node{{Rule: rule, Next: []int{1, 2}}, {}, {}}, []impl.Node{{Rule: -2, Next: []int{1, 2}}, {}, {Rule: rule}})
	}
	for _, rule := range []int{0, 1, 7, most, -1} {
		out = append(out,
			[]impl.Node{{Rule: rule, Path: []int{0}}},
			[]impl.Node{{Rule: rule, Next: []int{1, 2}}, {}, {}},
			[]impl.Node{{Rule: rule, Next: []int{1}}, {}, {}},
			[]impl.Node{{Rule: rule, Path: []int{0}, Next: []int{1, 2}}, {}, {}},
			[]impl.Node{{}, {Rule: rule, Path: []int{0}}},
			[]impl.Node{{}, {Rule: rule, Next: []int{0}}},
			[]impl.Node{{Rule: -2, Next: []int{1, 2}}, {}, {Rule: rule, Path: []int{0}}},
		)
	}
	for _, next := range [][]int{nil, {}, {1}, {1, 2, 3}, {1, 2, 3, 3}, {1, 0}, {0, 1}, {0, 0}, {-1, 1}, {1, -1}, {1, 4}, {4, 1}, {most, 1}, {1, least}, make([]int, 1000)} {
		out = append(out,
			[]impl.Node{{Rule: -2, Next: next}, {}, {}, {}},
			[]impl.Node{{Rule: -2, Path: []int{0}, Next: next}, {}, {}, {}},
		)
	}
	for _, next := range [][]int{{1, 2}, {2, 1}, {0, 2}, {2, 0}, {1, 1}, {2, 3}} {
		// Of the second one of three.
		out = append(out, []impl.Node{{}, {Rule: -2, Next: next}, {}})
	}
	return append(out, []impl.Node{{Rule: -2, Next: []int{1, 1}}}, make([]impl.Node, 201), make([]impl.Node, 100000))
}

func TestRunNodesNotAsSaid(t *testing.T) {
	d := dataOf(0, 1)
	for _, nodes := range spoiledNodes() {
		kept := cloneNodes(nodes)
		for _, v := range []string{"0", "10", "110"} {
			checkNodesRefused(t, d, nodes, valueOf(v))
		}
		if !sameNodes(nodes, kept) {
			t.Errorf("changed: %s, was %s", nodesText(nodes), nodesText(kept))
		}
	}
	// Just 200 nodes, the last one of which is come to.
	most := make([]impl.Node, 200)
	most[0] = impl.Node{Rule: -2, Next: []int{198, 199}}
	most[198].Rule, most[199].Rule = 5, 6
	checkNodesRun(t, d, most, valueOf("0"), 5, 1)
	checkNodesRun(t, d, most, valueOf("10"), 6, 1)
	// Each of as many looks but the last one, which comes to a rule.
	for at := range 199 {
		most[at] = impl.Node{Rule: -2, Next: []int{at + 1, at + 1}}
	}
	checkNodesRun(t, d, most, valueOf("10"), 6, 199)
	for at := range most {
		was := most[at]
		most[at].Rule = -3
		checkNodesRefused(t, d, most, valueOf("10"))
		most[at] = was
	}
	// As many Next as the value's data have constructors, not other data.
	three := nodesOf("/:1,2,3 4 5 6")
	checkNodesRun(t, dataOf(0, 1, 2), three, valueOf("10"), 5, 1)
	checkNodesRefused(t, d, three, valueOf("10"))
	checkNodesRefused(t, dataOf(0, 1, 2, 0), three, valueOf("10"))
}

// asksTwice tells whether a path is asked twice on some way from a node on.
func asksTwice(nodes []impl.Node, at int, asked [][]int) bool {
	n := nodes[at]
	if n.Rule != -2 {
		return false
	}
	if slices.ContainsFunc(asked, func(path []int) bool { return slices.Equal(path, n.Path) }) {
		return true
	}
	asked = append(slices.Clone(asked), n.Path)
	return slices.ContainsFunc(n.Next, func(next int) bool { return asksTwice(nodes, next, asked) })
}

// checkPromise8: the tree comes to the first rule that fits, and asks no path twice.
func checkPromise8(t *testing.T, d impl.Data, rules [][]impl.Pat, values [][]int) int {
	t.Helper()
	nodes, ok := impl.CompileRules(d, rules)
	if !ok {
		return 0
	}
	if asksTwice(nodes, 0, nil) {
		t.Errorf("%v, %s: asks twice: %s", d.Cons, rulesText(rules), nodesText(nodes))
	}
	for _, v := range values {
		first, okFirst := impl.FirstMatch(d, rules, v)
		rule, looks, ok := impl.RunNodes(d, nodes, v)
		if rule != first || !ok || !okFirst {
			t.Errorf("%v, %s, %v: %d %v %v, FirstMatch tells %d", d.Cons, rulesText(rules), v, rule, ok, okFirst, first)
		}
		if want := plainLooks(d, nodes, v); looks != want {
			t.Errorf("%v, %s, %v: %d looks, want %d", d.Cons, rulesText(rules), v, looks, want)
		}
		if want := plainFirst(d, rules, v); first != want {
			t.Errorf("%v, %s, %v: %d, want %d", d.Cons, rulesText(rules), v, first, want)
		}
	}
	return len(nodes)
}

// plainLooks counts how many nodes that look are on a value's way.
func plainLooks(d impl.Data, nodes []impl.Node, v []int) int {
	whole := shapeOfValue(d, v)
	looks := 0
	for at := 0; nodes[at].Rule == -2; looks++ {
		s := whole
		for _, k := range nodes[at].Path {
			s = s.parts[k]
		}
		at = nodes[at].Next[s.con]
	}
	return looks
}

func TestPromise8OfAll(t *testing.T) {
	for _, d := range []impl.Data{dataOf(0), dataOf(0, 0), dataOf(0, 1), dataOf(2, 0), dataOf(0, 2, 1)} {
		values := valuesUpTo(d, 5)
		patterns := patternsUpTo(d, 4)
		for _, one := range patterns {
			for _, other := range patterns {
				for _, last := range patterns {
					checkPromise8(t, d, [][]impl.Pat{one, other, last}, values)
				}
			}
		}
	}
}

func TestPromise8Drawn(t *testing.T) {
	r := draw(805)
	large := 0
	for range 12000 {
		d := drawData(&r)
		rules := drawRules(&r, d, 8)
		var values [][]int
		for range 12 {
			values = append(values, drawValue(&r, d, rules))
		}
		if checkPromise8(t, d, rules, values) > 60 {
			large++
		}
	}
	if large < 100 {
		t.Error("few are large:", large)
	}
}
