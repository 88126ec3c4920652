package tests

import (
	"fmt"
	"slices"
	"strconv"
	"strings"
	"testing"

	"loop.example/g00339/impl"
)

// compOf reads a computation with blanks between its cells: a, b and c ask the operations, a number is told.
func compOf(text string) []impl.Comp {
	var out []impl.Comp
	for _, word := range strings.Fields(text) {
		if op := strings.Index("abc", word); op >= 0 {
			out = append(out, impl.Comp{Kind: impl.CompAsk, N: op})
		} else {
			out = append(out, impl.Comp{Kind: impl.CompRet, N: numbersOf(word)[0]})
		}
	}
	return out
}

// compText writes what compOf reads, and other cells as they are.
func compText(c []impl.Comp) string {
	var words []string
	for _, cell := range c {
		word := fmt.Sprint(cell)
		if cell.Kind == impl.CompRet {
			word = strconv.Itoa(cell.N)
		} else if cell.Kind == impl.CompAsk && cell.N >= 0 && cell.N < impl.Ops {
			word = "abc"[cell.N : cell.N+1]
		}
		words = append(words, word)
	}
	return strings.Join(words, " ")
}

// ruleOf reads a rule: F, S, B and P by their names, a number is told at once.
func ruleOf(word string) impl.Rule {
	switch word {
	case "F":
		return impl.Rule{Kind: impl.RuleFirst}
	case "S":
		return impl.Rule{Kind: impl.RuleSecond}
	case "B":
		return impl.Rule{Kind: impl.RuleBoth}
	case "P":
		return impl.Rule{Kind: impl.RulePass}
	}
	return impl.Rule{Kind: impl.RuleStop, N: numbersOf(word)[0]}
}

// handlerOf reads a handler: its Ret and its rules, with blanks between them.
func handlerOf(text string) impl.Handler {
	words := strings.Fields(text)
	h := impl.Handler{Ret: numbersOf(words[0])[0]}
	for _, word := range words[1:] {
		h.Rules = append(h.Rules, ruleOf(word))
	}
	return h
}

func cloneHandler(h impl.Handler) impl.Handler {
	return impl.Handler{Ret: h.Ret, Rules: slices.Clone(h.Rules)}
}

func sameHandler(a, b impl.Handler) bool {
	return a.Ret == b.Ret && slices.Equal(a.Rules, b.Rules)
}

// An asking is a computation as a tree; one that tells a number has no parts.
type asking struct {
	n             int
	first, second *asking
}

// askingOf reads cells that are good.
func askingOf(c []impl.Comp) *asking {
	out, _ := askingAhead(c)
	return out
}

func askingAhead(c []impl.Comp) (*asking, []impl.Comp) {
	if c[0].Kind == impl.CompRet {
		return &asking{n: c[0].N}, c[1:]
	}
	first, rest := askingAhead(c[1:])
	second, rest := askingAhead(rest)
	return &asking{c[0].N, first, second}, rest
}

func (a *asking) comp() []impl.Comp {
	if a.first == nil {
		return []impl.Comp{{Kind: impl.CompRet, N: a.n}}
	}
	return append(append([]impl.Comp{{Kind: impl.CompAsk, N: a.n}}, a.first.comp()...), a.second.comp()...)
}

func (a *asking) told() []int {
	if a.first == nil {
		return []int{a.n}
	}
	return append(a.first.told(), a.second.told()...)
}

func (a *asking) isSmall() bool {
	return len(a.comp()) <= impl.MaxComp
}

// then puts what next makes of it in the place of each number told.
func (a *asking) then(next func(n int) *asking) *asking {
	if a.first == nil {
		return next(a.n)
	}
	return &asking{a.n, a.first.then(next), a.second.then(next)}
}

func (a *asking) more(by int) *asking {
	return a.then(func(n int) *asking {
		return &asking{n: (n + by) % 100}
	})
}

// plainHandle handles a tree by the document's words; false where a part that is handled, and stays, has too many cells.
func plainHandle(h impl.Handler, a *asking) (*asking, bool) {
	if a.first == nil {
		return &asking{n: (a.n + h.Ret) % 100}, true
	}
	rule := h.Rules[a.n]
	switch rule.Kind {
	case impl.RuleFirst:
		return plainHandle(h, a.first)
	case impl.RuleSecond:
		return plainHandle(h, a.second)
	case impl.RuleStop:
		return &asking{n: rule.N}, true
	}
	first, ok := plainHandle(h, a.first)
	second, too := plainHandle(h, a.second)
	if !ok || !too {
		return nil, false
	}
	out := &asking{a.n, first, second}
	if rule.Kind == impl.RuleBoth {
		out = first.then(second.more)
	}
	return out, out.isSmall()
}

// A goingOn is told a number and the answers that are left, and tells what comes of it: a number, how many answers are left then, and whether they were enough.
type goingOn func(n int, left []bool) (int, int, bool)

func tellIt(n int, left []bool) (int, int, bool) {
	return n, len(left), true
}

// askOn runs a tree by answers and hands on what it tells.
func (a *asking) askOn(left []bool, next goingOn) (int, int, bool) {
	if a.first == nil {
		return next(a.n, left)
	}
	if len(left) == 0 {
		return 0, 0, false
	}
	if left[0] {
		return a.first.askOn(left[1:], next)
	}
	return a.second.askOn(left[1:], next)
}

// handOn runs a tree as it is with h around it, without making anything: what each operation does is done at once.
func (a *asking) handOn(h impl.Handler, left []bool, next goingOn) (int, int, bool) {
	if a.first == nil {
		return next((a.n+h.Ret)%100, left)
	}
	rule := h.Rules[a.n]
	switch rule.Kind {
	case impl.RuleFirst:
		return a.first.handOn(h, left, next)
	case impl.RuleSecond:
		return a.second.handOn(h, left, next)
	case impl.RuleStop:
		return next(rule.N, left)
	case impl.RuleBoth:
		return a.first.handOn(h, left, func(n int, left []bool) (int, int, bool) {
			return a.second.handOn(h, left, func(m int, left []bool) (int, int, bool) {
				return next((n+m)%100, left)
			})
		})
	}
	if len(left) == 0 {
		return 0, 0, false
	}
	if left[0] {
		return a.first.handOn(h, left[1:], next)
	}
	return a.second.handOn(h, left[1:], next)
}

// allAnswers tells each list of that many answers.
func allAnswers(many int) [][]bool {
	out := [][]bool{nil}
	for range many {
		var longer [][]bool
		for _, l := range out {
			longer = append(longer, append(slices.Clone(l), true), append(slices.Clone(l), false))
		}
		out = longer
	}
	return out
}

// askingsOf tells each tree that asks that often, with other numbers told at each place.
func askingsOf(asks int) []*asking {
	var out []*asking
	for _, a := range unnumbered(asks) {
		told := 1
		out = append(out, a.then(func(int) *asking {
			n := told
			told = told * 7 % 100
			return &asking{n: n}
		}))
	}
	return out
}

func unnumbered(asks int) []*asking {
	if asks == 0 {
		return []*asking{{}}
	}
	var out []*asking
	for ahead := range asks {
		for _, first := range unnumbered(ahead) {
			for _, second := range unnumbered(asks - 1 - ahead) {
				for op := range impl.Ops {
					out = append(out, &asking{op, first, second})
				}
			}
		}
	}
	return out
}

// allHandlers tells a handler for each choice of the kinds of its rules.
func allHandlers(ret int, rules ...string) []impl.Handler {
	var out []impl.Handler
	for _, a := range rules {
		for _, b := range rules {
			for _, c := range rules {
				out = append(out, impl.Handler{Ret: ret, Rules: []impl.Rule{ruleOf(a), ruleOf(b), ruleOf(c)}})
			}
		}
	}
	return out
}

func drawAsking(r *draw, asks int) *asking {
	if asks == 0 {
		return &asking{n: r.below(100)}
	}
	ahead := r.below(asks)
	if r.below(3) == 0 {
		ahead = (asks - 1) * r.below(2)
	}
	return &asking{r.below(impl.Ops), drawAsking(r, ahead), drawAsking(r, asks-1-ahead)}
}

// drawComp draws a computation of 1..59 cells.
func drawComp(r *draw) []impl.Comp {
	asks := r.below(30)
	if r.below(2) == 0 {
		asks = r.below(8)
	}
	return drawAsking(r, asks).comp()
}

// drawHandler draws a handler with rules of all kinds but one, mostly of those that keep both computations.
func drawHandler(r *draw, but int) impl.Handler {
	h := impl.Handler{Ret: r.below(100)}
	keeping := r.below(3) > 0
	for range impl.Ops {
		rule := impl.Rule{Kind: drawKind(r, keeping)}
		for rule.Kind == but {
			rule.Kind = drawKind(r, keeping)
		}
		if rule.Kind == impl.RuleStop {
			rule.N = r.below(100)
		}
		h.Rules = append(h.Rules, rule)
	}
	return h
}

func drawKind(r *draw, keeping bool) int {
	if keeping && r.below(6) > 0 {
		return []int{impl.RuleBoth, impl.RulePass}[r.below(2)]
	}
	return 1 + r.below(5)
}

func drawAnswers(r *draw, most int) []bool {
	out := make([]bool, r.below(most+1))
	for k := range out {
		out[k] = r.below(2) == 0
	}
	return out
}

// chainOf asks the operation op that often, going on in the second computation, and tells 0, 1 and so on.
func chainOf(op int, asks int) []impl.Comp {
	var out []impl.Comp
	for k := range asks {
		out = append(out, impl.Comp{Kind: impl.CompAsk, N: op}, impl.Comp{Kind: impl.CompRet, N: k})
	}
	return append(out, impl.Comp{Kind: impl.CompRet, N: asks})
}

// nestOf asks the operation op that often, going on in the first computation, and tells 0, 1 and so on.
func nestOf(op int, asks int) []impl.Comp {
	out := slices.Repeat([]impl.Comp{{Kind: impl.CompAsk, N: op}}, asks)
	for k := range asks + 1 {
		out = append(out, impl.Comp{Kind: impl.CompRet, N: k})
	}
	return out
}

// askedOf asks op, with the two behind it.
func askedOf(op int, first, second []impl.Comp) []impl.Comp {
	return slices.Concat([]impl.Comp{{Kind: impl.CompAsk, N: op}}, first, second)
}

func checkHandled(t *testing.T, h impl.Handler, c []impl.Comp, want []impl.Comp, is bool) {
	t.Helper()
	keptHandler, kept := cloneHandler(h), slices.Clone(c)
	got, ok := impl.HandleComp(h, c)
	if ok != is || !slices.Equal(got, want) {
		t.Errorf("HandleComp(%v, %s): %s %v, want %s %v", h, compText(c), compText(got), ok, compText(want), is)
	}
	if !sameHandler(h, keptHandler) || !slices.Equal(c, kept) {
		t.Errorf("changed: %v %s, was %v %s", h, compText(c), keptHandler, compText(kept))
	}
}

// checkAsPlain holds what is handled against the plain words.
func checkAsPlain(t *testing.T, h impl.Handler, c []impl.Comp) {
	t.Helper()
	want, ok := plainHandle(h, askingOf(c))
	if !ok {
		checkHandled(t, h, c, nil, false)
		return
	}
	checkHandled(t, h, c, want.comp(), true)
}

func checkTold(t *testing.T, c []impl.Comp, answers []bool, n, asked int, is bool) {
	t.Helper()
	keptComp, kept := slices.Clone(c), slices.Clone(answers)
	gotN, gotAsked, ok := impl.RunComp(c, answers)
	if gotN != n || gotAsked != asked || ok != is {
		t.Errorf("RunComp(%s, %v): %d %d %v, want %d %d %v", compText(c), answers, gotN, gotAsked, ok, n, asked, is)
	}
	if !slices.Equal(c, keptComp) || !slices.Equal(answers, kept) {
		t.Errorf("changed: %s %v, was %s %v", compText(c), answers, compText(keptComp), kept)
	}
}

func checkThen(t *testing.T, c []impl.Comp, l [][]impl.Comp, want []impl.Comp, is bool) {
	t.Helper()
	keptComp, kept := slices.Clone(c), cloneComps(l)
	got, ok := impl.ThenComp(c, l)
	if ok != is || !slices.Equal(got, want) {
		t.Errorf("ThenComp(%s, %d of them): %s %v, want %s %v", compText(c), len(l), compText(got), ok, compText(want), is)
	}
	if !slices.Equal(c, keptComp) || !slices.EqualFunc(l, kept, slices.Equal) {
		t.Errorf("changed: %s, was %s; or one of %d", compText(c), compText(keptComp), len(l))
	}
}

func cloneComps(l [][]impl.Comp) [][]impl.Comp {
	out := make([][]impl.Comp, len(l))
	for k, c := range l {
		out[k] = slices.Clone(c)
	}
	return out
}

func checkAfter(t *testing.T, g, h impl.Handler, want impl.Handler, is bool) {
	t.Helper()
	keptG, keptH := cloneHandler(g), cloneHandler(h)
	got, ok := impl.AfterBoth(g, h)
	if ok != is || !sameHandler(got, want) {
		t.Errorf("AfterBoth(%v, %v): %v %v, want %v %v", g, h, got, ok, want, is)
	}
	if !sameHandler(g, keptG) || !sameHandler(h, keptH) {
		t.Errorf("changed: %v %v, was %v %v", g, h, keptG, keptH)
	}
}
