package tests

import (
	"slices"
	"testing"

	"loop.example/g00339/impl"
)

// plainPreds tells for each block the reached ones that go on to it.
func plainPreds(g impl.Graph) [][]int {
	out := make([][]int, len(g.Next))
	for b := range out {
		out[b] = plainList(g, func(p int) bool { return plainLeads(g, 0, p) && slices.Contains(g.Next[p], b) })
	}
	return out
}

// plainFrontier asks each edge: whether nobody gets to its beginning without x, but to its end, or that is x.
func plainFrontier(g impl.Graph) [][]int {
	preds, out := plainPreds(g), make([][]int, len(g.Next))
	for x := range out {
		out[x] = plainList(g, func(y int) bool {
			return (x == y || plainLeads(g, 0, y, x)) && slices.ContainsFunc(preds[y], func(p int) bool { return !plainLeads(g, 0, p, x) })
		})
	}
	return out
}

// plainJoins adds whole frontiers till they bring nothing that is not there.
func plainJoins(frontier [][]int, sets []int) []int {
	var out []int
	toLook := slices.Clone(sets)
	for len(toLook) > 0 {
		for _, y := range frontier[toLook[0]] {
			if !slices.Contains(out, y) {
				out = append(out, y)
				toLook = append(toLook, y)
			}
		}
		toLook = toLook[1:]
	}
	slices.Sort(out)
	return out
}

// plainOwners looks for the owner that all other owners ahead of a block are ahead of, too.
func plainOwners(g impl.Graph, dominators [][]int, owners []int) []int {
	out := make([]int, len(g.Next))
	for b := range out {
		out[b] = -1
		for _, k := range dominators[b] {
			if slices.Contains(owners, k) && (out[b] < 0 || slices.Contains(dominators[k], out[b])) {
				out[b] = k
			}
		}
	}
	return out
}

// A reach tells by bits which owners get to a block's beginning with no other owner between; the bit behind all blocks is who comes from outside to block 0.
type reach struct {
	preds  [][]int
	owners []bool
	in     []int
}

func (r *reach) outOf(b int) int {
	if r.owners[b] {
		return 1 << b
	}
	return r.in[b]
}

// comers tells for each edge to a block who comes there.
func (r *reach) comers(b int) []int {
	var out []int
	if b == 0 {
		out = append(out, 1<<len(r.in))
	}
	for _, p := range r.preds[b] {
		out = append(out, r.outOf(p))
	}
	return out
}

func (r *reach) settle() {
	clear(r.in)
	for changed := true; changed; {
		changed = false
		for b := range r.in {
			for _, who := range r.comers(b) {
				changed = changed || r.in[b]|who != r.in[b]
				r.in[b] |= who
			}
		}
	}
}

// joinsByReach tells where owners join, and who owns each block, by who gets there, with no word of dominators: where unlike ones come by unlike edges a new owner stands, till there is no such place.
func joinsByReach(g impl.Graph, preds [][]int, sets []int) ([]int, []int) {
	r := reach{preds: preds, owners: make([]bool, len(g.Next)), in: make([]int, len(g.Next))}
	for _, s := range sets {
		r.owners[s] = true
	}
	joins := make([]bool, len(g.Next))
	for grown := true; grown; {
		grown = false
		r.settle()
		for b := range joins {
			comers := r.comers(b)
			if len(comers) > 0 && !joins[b] && slices.Min(comers) != slices.Max(comers) {
				joins[b], grown = true, true
			}
		}
		for b := range joins {
			r.owners[b] = r.owners[b] || joins[b]
		}
	}
	owners := make([]int, len(g.Next))
	for b := range owners {
		owners[b] = -1
		for k := range owners {
			if r.outOf(b) == 1<<k {
				owners[b] = k
			}
		}
	}
	return plainList(g, func(b int) bool { return joins[b] }), owners
}

// sublists hands on each list of some of the numbers, in their order.
func sublists(l []int, each func(some []int)) {
	for bits := range 1 << len(l) {
		var some []int
		for k, n := range l {
			if bits>>k&1 == 1 {
				some = append(some, n)
			}
		}
		each(some)
	}
}

func drawSome(r *draw, l []int) []int {
	of := 1 + r.below(6)
	return slices.DeleteFunc(slices.Clone(l), func(int) bool { return r.below(of) > 0 })
}

// drawSets draws rising ones of the blocks, the first one among them.
func drawSets(r *draw, reached []int) []int {
	return append([]int{reached[0]}, drawSome(r, reached[1:])...)
}

func merged(a, b []int) []int {
	out := slices.Sorted(slices.Values(append(slices.Clone(a), b...)))
	return slices.Compact(out)
}

func checkPreds(t *testing.T, g impl.Graph, want [][]int, is bool) {
	t.Helper()
	kept := cloneGraph(g)
	if got, ok := impl.PredsOf(g); ok != is || !sameLists(got, want) {
		t.Errorf("PredsOf(%v): %v %v, want %v %v", g.Next, got, ok, want, is)
	}
	checkKept(t, g, kept)
}

func checkFrontier(t *testing.T, g impl.Graph, want [][]int, is bool) {
	t.Helper()
	kept := cloneGraph(g)
	if got, ok := impl.FrontierOf(g); ok != is || !sameLists(got, want) {
		t.Errorf("FrontierOf(%v): %v %v, want %v %v", g.Next, got, ok, want, is)
	}
	checkKept(t, g, kept)
}

func checkJoins(t *testing.T, g impl.Graph, sets []int, want []int, is bool) {
	t.Helper()
	kept, setsKept := cloneGraph(g), slices.Clone(sets)
	if got, ok := impl.JoinsOf(g, sets); ok != is || !slices.Equal(got, want) {
		t.Errorf("JoinsOf(%v, %v): %v %v, want %v %v", g.Next, sets, got, ok, want, is)
	}
	checkKept(t, g, kept)
	checkNumbersKept(t, sets, setsKept)
}

func checkOwners(t *testing.T, g impl.Graph, sets []int, want []int, is bool) {
	t.Helper()
	kept, setsKept := cloneGraph(g), slices.Clone(sets)
	if got, ok := impl.OwnerAt(g, sets); ok != is || !slices.Equal(got, want) {
		t.Errorf("OwnerAt(%v, %v): %v %v, want %v %v", g.Next, sets, got, ok, want, is)
	}
	checkKept(t, g, kept)
	checkNumbersKept(t, sets, setsKept)
}

func checkMeeting(t *testing.T, g impl.Graph, a, b int, want bool, is bool) {
	t.Helper()
	kept := cloneGraph(g)
	if got, ok := impl.MeetingOf(g, a, b); ok != is || got != want {
		t.Errorf("MeetingOf(%v, %d, %d): %v %v, want %v %v", g.Next, a, b, got, ok, want, is)
	}
	checkKept(t, g, kept)
}

func checkStrict(t *testing.T, g impl.Graph, sets, uses []int, want bool, is bool) {
	t.Helper()
	kept, setsKept, usesKept := cloneGraph(g), slices.Clone(sets), slices.Clone(uses)
	if got, ok := impl.IsStrict(g, sets, uses); ok != is || got != want {
		t.Errorf("IsStrict(%v, %v, %v): %v %v, want %v %v", g.Next, sets, uses, got, ok, want, is)
	}
	checkKept(t, g, kept)
	checkNumbersKept(t, sets, setsKept)
	checkNumbersKept(t, uses, usesKept)
}

// checkNumbersKept tells a fault where a call changed a list of numbers.
func checkNumbersKept(t *testing.T, l, kept []int) {
	t.Helper()
	if !slices.Equal(l, kept) {
		t.Errorf("changed: %v, was %v", l, kept)
	}
}

// checkEdges holds what is told of a good graph alone, and of each two blocks, against the plain words.
func checkEdges(t *testing.T, g impl.Graph) {
	t.Helper()
	preds, frontier, reached := plainPreds(g), plainFrontier(g), plainReached(g)
	checkPreds(t, g, preds, true)
	checkFrontier(t, g, frontier, true)
	around := make([][]int, len(g.Next))
	for _, b := range reached {
		around[b] = merged([]int{b}, plainJoins(frontier, []int{b}))
		joins, _ := joinsByReach(g, preds, []int{b})
		if found := merged([]int{b}, joins); !slices.Equal(found, around[b]) {
			t.Errorf("%v: the tests' own joins of %d are %v and %v", g.Next, b, found, around[b])
		}
	}
	for a := range g.Next {
		for b := range g.Next {
			is := a != b && around[a] != nil && around[b] != nil
			meets := is && slices.ContainsFunc(around[a], func(k int) bool { return slices.Contains(around[b], k) })
			checkMeeting(t, g, a, b, meets, is)
		}
	}
}

// checkSets holds what is told of sets against who gets where, and against the plain words.
func checkSets(t *testing.T, g impl.Graph, preds [][]int, sets []int) {
	t.Helper()
	joins, owners := joinsByReach(g, preds, sets)
	checkJoins(t, g, sets, joins, true)
	checkOwners(t, g, sets, owners, true)
}

func checkSetsByWords(t *testing.T, g impl.Graph, sets []int) {
	t.Helper()
	joins := plainJoins(plainFrontier(g), sets)
	checkJoins(t, g, sets, joins, true)
	checkOwners(t, g, sets, plainOwners(g, plainDominators(g), merged(sets, joins)), true)
}

// checkUses asks of each use whether there is a set without which nobody gets there.
func checkUses(t *testing.T, g impl.Graph, sets, uses []int) bool {
	t.Helper()
	want := true
	for _, u := range uses {
		want = want && slices.ContainsFunc(sets, func(s int) bool { return !plainLeads(g, 0, u, s) })
	}
	checkStrict(t, g, sets, uses, want, true)
	return want
}
