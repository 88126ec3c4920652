package tests

import (
	"fmt"
	"slices"
	"testing"

	"loop.example/g00339/impl"
)

func checkCall(t *testing.T, text string, want string) {
	t.Helper()
	got, ok := impl.CallStep(termOf(text))
	sameTerm(t, fmt.Sprintf("CallStep(%q)", text), got, ok, termOf(want), want != "")
}

func TestCallOfManyTerms(t *testing.T) {
	stepped := 0
	for _, l := range reduceTerms(20000) {
		got, ok := impl.CallStep(l)
		want, is := plainCall(l)
		sameTerm(t, fmt.Sprintf("CallStep(%q)", textOf(l)), got, ok, want, is)
		if is {
			stepped++
			checkLeads(t, l, want, true, true)
		}
	}
	if stepped < 5000 {
		t.Error("few step:", stepped)
	}
}

func TestCallByHand(t *testing.T) {
	checkCall(t, "@ \\ + v0 v0 + 1 2", "@ \\ + v0 v0 3")
	checkCall(t, "@ \\ + v0 v0 3", "+ 3 3")
	checkCall(t, "@ @ \\ v0 \\ v0 + 1 2", "@ \\ v0 + 1 2")
	checkCall(t, "@ + 1 2 + 3 4", "@ 3 + 3 4")
	checkCall(t, "@ 3 + 3 4", "@ 3 7")
	checkCall(t, "@ 3 7", "")
	checkCall(t, "@ \\ \\ v1 \\ v0", "\\ \\ v0")
	checkCall(t, "@ \\ + 1 2 5", "+ 1 2")
	checkCall(t, "= + 1 2 + v0 + 3 4", "= 3 + v0 + 3 4")
	checkCall(t, "= 3 + v0 + 3 4", "+ 3 + 3 4")
	checkCall(t, "= \\ + 1 2 v0", "\\ + 1 2")
	checkCall(t, "+ + 1 2 + 3 4", "+ 3 + 3 4")
	checkCall(t, "+ 3 + 3 4", "+ 3 7")
	checkCall(t, "+ 3 7", "10")
	checkCall(t, "+ \\ v0 + 3 4", "+ \\ v0 7")
	checkCall(t, "? + 0 0 + 1 2 + 3 4", "? 0 + 1 2 + 3 4")
	checkCall(t, "? 0 + 1 2 + 3 4", "+ 1 2")
	checkCall(t, "? 9 + 1 2 + 3 4", "+ 3 4")
	checkCall(t, "? @ \\ v0 0 1 2", "? 0 1 2")
	checkCall(t, "@ \\ @ v0 v0 \\ @ v0 v0", "@ \\ @ v0 v0 \\ @ v0 v0")
	checkCall(t, "+ 999999 1", "1000000")
}

func TestCallStuck(t *testing.T) {
	for _, text := range []string{
		"v0", "5", "\\ v0", "\\ + 1 2", "\\ @ \\ v0 1",
		"@ v0 + 1 2", "@ 5 \\ v0", "@ \\ v0 v1", "@ \\ v0 @ v0 1", "@ \\ v0 @ 1 2",
		"= v0 1", "= @ 1 2 + 3 4", "= + v0 1 + 1 1",
		"+ v0 + 1 2", "+ 1 v0", "+ 1 \\ v0", "+ \\ v0 1", "+ \\ v0 \\ v0",
		"? v0 + 1 2 + 3 4", "? \\ v0 + 1 2 3", "? @ 1 2 + 1 2 3",
		"+ 1000000 1", "+ -1 -1000000", "+ + 1000000 1 + 1 1", "@ + 1000000 1 + 1 1", "= + 1000000 1 3",
	} {
		checkCall(t, text, "")
	}
}

func TestCallRoom(t *testing.T) {
	lam := append(lams(1), stuckTerm(297)...)
	l := slices.Concat(termOf("="), lam, termOf("+ v0 v0"))
	for ahead := range 5 {
		got, ok := impl.CallStep(slices.Concat(termOf("+"), l, lams(ahead, tmNum(1))))
		var want []impl.Cell
		if ahead <= 1 {
			want = slices.Concat(termOf("+ +"), lam, lam, lams(ahead, tmNum(1)))
		}
		sameTerm(t, fmt.Sprint("beside ", ahead), got, ok, want, want != nil)
	}
	checkCall(t, "= \\ v97 \\ \\ v2", "\\ \\ \\ v99")
	checkCall(t, "= \\ v98 \\ \\ v2", "")
	checkCall(t, "@ \\ \\ v1 \\ v98", "\\ \\ v99")
	checkCall(t, "@ \\ \\ v1 \\ v99", "")
}

func TestValues(t *testing.T) {
	for text, want := range map[string]bool{"5": true, "-1000000": true, "\\ v0": true, "\\ + 1 2": true, "v0": false, "@ \\ v0 1": false, "+ 1 2": false, "? 0 1 2": false, "= 1 2": false} {
		got, ok := impl.IsValue(termOf(text))
		if got != want || !ok {
			t.Errorf("IsValue(%q): %v %v", text, got, ok)
		}
	}
}

func checkNormal(t *testing.T, text string, steps int, want string, made int) {
	t.Helper()
	got, n, ok := impl.NormalOf(termOf(text), steps)
	sameTerm(t, fmt.Sprintf("NormalOf(%q, %d)", text, steps), got, ok, termOf(want), want != "")
	if n != made {
		t.Errorf("NormalOf(%q, %d): %d steps, want %d", text, steps, n, made)
	}
}

func TestNormalOfManyTerms(t *testing.T) {
	for i, l := range reduceTerms(9000) {
		steps := []int{0, 1, 2, 3, 10, 60}[i%6]
		got, n, ok := impl.NormalOf(l, steps)
		want, made, is := plainNormal(l, steps)
		sameTerm(t, fmt.Sprintf("NormalOf(%q, %d)", textOf(l), steps), got, ok, want, is)
		if n != made {
			t.Errorf("NormalOf(%q, %d): %d steps, want %d", textOf(l), steps, n, made)
		}
	}
}

func TestNormalByHand(t *testing.T) {
	const text = "@ \\ + v0 v0 + 1 2"
	checkNormal(t, text, 0, text, 0)
	checkNormal(t, text, 1, "+ + 1 2 + 1 2", 1)
	checkNormal(t, text, 2, "+ 3 + 1 2", 2)
	checkNormal(t, text, 3, "+ 3 3", 3)
	checkNormal(t, text, 4, "6", 4)
	checkNormal(t, text, 5, "6", 4)
	checkNormal(t, text, 60, "6", 4)
	checkNormal(t, text, 61, "", 0)
	checkNormal(t, text, -1, "", 0)
	checkNormal(t, text, 1<<63-1, "", 0)
	checkNormal(t, text, -1<<63, "", 0)
	checkNormal(t, "v3", 0, "v3", 0)
	checkNormal(t, "v3", 60, "v3", 0)
	const endless = "@ \\ @ v0 v0 \\ @ v0 v0"
	checkNormal(t, endless, 60, endless, 60)
	checkNormal(t, "@ \\ 1 "+endless, 60, "1", 1)
	checkNormal(t, "? 0 1 "+endless, 60, "1", 1)
	checkNormal(t, "@ @ \\ \\ v1 5 "+endless, 60, "5", 2)
	checkNormal(t, "\\ + + 1 2 @ \\ v0 v1", 60, "\\ + 3 v1", 2)
	checkNormal(t, "+ + 999999 1 + 1 1", 60, "+ 1000000 2", 2)
	checkNormal(t, "@ \\ \\ v1 v99", 0, "@ \\ \\ v1 v99", 0)
	checkNormal(t, "@ \\ \\ v1 v99", 1, "", 0)
	checkNormal(t, "? 0 1 @ \\ \\ v1 v99", 60, "1", 1)
}

func TestNormalRoom(t *testing.T) {
	grows := termOf("@ \\ @ @ v0 v0 v0 \\ @ @ v0 v0 v0")
	for _, steps := range []int{0, 1, 2, 3, 30, 59, 60} {
		got, n, ok := impl.NormalOf(grows, steps)
		want, made, is := plainNormal(grows, steps)
		sameTerm(t, fmt.Sprint("grows ", steps), got, ok, want, is)
		if n != made {
			t.Error(steps, n, made)
		}
	}
	room := slices.Concat(termOf("+ + 1 2"), doubled(297))
	got, n, ok := impl.NormalOf(room, 60)
	sameTerm(t, "room", got, ok, slices.Concat(termOf("+ 3 +"), stuckTerm(297), stuckTerm(297)), true)
	if n != 2 {
		t.Error(n)
	}
	beyond := slices.Concat(termOf("+ + 1 2"), doubled(299))
	got, n, ok = impl.NormalOf(beyond, 1)
	sameTerm(t, "the others are not asked", got, ok && n == 1, slices.Concat(termOf("+ 3"), doubled(299)), true)
	got, n, ok = impl.NormalOf(beyond, 2)
	sameTerm(t, "two steps", got, ok, nil, false)
	if n != 0 {
		t.Error(n)
	}
	got, n, ok = impl.NormalOf(slices.Concat(termOf("? 0 1"), doubled(500)), 60)
	sameTerm(t, "left away", got, ok, termOf("1"), true)
	if n != 1 {
		t.Error(n)
	}
	sixty := append(slices.Repeat(termOf("@ + 1 1"), 60), tmNum(1))
	got, n, ok = impl.NormalOf(sixty, 60)
	sameTerm(t, "just sixty", got, ok, append(slices.Repeat(termOf("@ 2"), 60), tmNum(1)), true)
	if n != 60 {
		t.Error(n)
	}
	got, n, ok = impl.NormalOf(append(termOf("@ + 1 1"), sixty...), 60)
	sameTerm(t, "one is left", got, ok, append(slices.Repeat(termOf("@ 2"), 60), termOf("@ + 1 1 1")...), true)
	if n != 60 {
		t.Error(n)
	}
}
