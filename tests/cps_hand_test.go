package tests

import (
	"slices"
	"testing"

	"loop.example/g00339/impl"
)

func checkHanded(t *testing.T, l []impl.Cell, want []impl.Cell, is bool) {
	t.Helper()
	got, ok := impl.HandOn(l)
	sameTerm(t, "HandOn of "+textOf(l), got, ok, want, is)
	if size, ok := impl.HandedSize(l); size != len(want) || ok != is {
		t.Errorf("HandedSize(%q): %d %v, want %d %v", textOf(l), size, ok, len(want), is)
	}
}

func TestHandOnByHand(t *testing.T) {
	for text, want := range map[string]string{
		"5":        "\\ @ v0 5",
		"-1000000": "\\ @ v0 -1000000",
		"\\ v0":    "\\ @ v0 \\ \\ @ v0 v1",
		"\\ 7":     "\\ @ v0 \\ \\ @ v0 7",
		"+ 1 2":    "\\ @ \\ @ v0 1 \\ @ \\ @ v0 2 \\ @ v2 + v1 v0",
		"@ 1 2":    "\\ @ \\ @ v0 1 \\ @ \\ @ v0 2 \\ @ @ v1 v0 v2",
		"? 1 2 3":  "\\ @ \\ @ v0 1 \\ ? v0 @ \\ @ v0 2 v1 @ \\ @ v0 3 v1",
		"= 1 2":    "\\ @ \\ @ v0 1 \\ @ \\ @ v0 2 v1",
		// The variable of a TmLet is what its first part came to.
		"= 1 v0":        "\\ @ \\ @ v0 1 \\ @ \\ @ v0 v1 v1",
		"= 1 = 2 v0":    "\\ @ \\ @ v0 1 \\ @ \\ @ \\ @ v0 2 \\ @ \\ @ v0 v1 v1 v1",
		"= 1 = 2 v1":    "\\ @ \\ @ v0 1 \\ @ \\ @ \\ @ v0 2 \\ @ \\ @ v0 v3 v1 v1",
		"= = 1 v0 v0":   "\\ @ \\ @ \\ @ v0 1 \\ @ \\ @ v0 v1 v1 \\ @ \\ @ v0 v1 v1",
		"= 1 \\ + v1 2": "\\ @ \\ @ v0 1 \\ @ \\ @ v0 \\ \\ @ \\ @ v0 v4 \\ @ \\ @ v0 2 \\ @ v2 + v1 v0 v1",
		// Functions within one another: what is next stands between their variables.
		"\\ \\ v0":      "\\ @ v0 \\ \\ @ v0 \\ \\ @ v0 v1",
		"\\ \\ v1":      "\\ @ v0 \\ \\ @ v0 \\ \\ @ v0 v3",
		"\\ \\ \\ v2":   "\\ @ v0 \\ \\ @ v0 \\ \\ @ v0 \\ \\ @ v0 v5",
		"\\ + v0 v0":    "\\ @ v0 \\ \\ @ \\ @ v0 v2 \\ @ \\ @ v0 v3 \\ @ v2 + v1 v0",
		"\\ @ v0 v0":    "\\ @ v0 \\ \\ @ \\ @ v0 v2 \\ @ \\ @ v0 v3 \\ @ @ v1 v0 v2",
		"\\ ? v0 v0 v0": "\\ @ v0 \\ \\ @ \\ @ v0 v2 \\ ? v0 @ \\ @ v0 v3 v1 @ \\ @ v0 v3 v1",
		"\\ = v0 v1":    "\\ @ v0 \\ \\ @ \\ @ v0 v2 \\ @ \\ @ v0 v3 v1",
		"\\ = v0 v0":    "\\ @ v0 \\ \\ @ \\ @ v0 v2 \\ @ \\ @ v0 v1 v1",
		// A part in each place of another one.
		"+ + 1 2 3":    "\\ @ \\ @ \\ @ v0 1 \\ @ \\ @ v0 2 \\ @ v2 + v1 v0 \\ @ \\ @ v0 3 \\ @ v2 + v1 v0",
		"+ 1 + 2 3":    "\\ @ \\ @ v0 1 \\ @ \\ @ \\ @ v0 2 \\ @ \\ @ v0 3 \\ @ v2 + v1 v0 \\ @ v2 + v1 v0",
		"@ \\ v0 5":    "\\ @ \\ @ v0 \\ \\ @ v0 v1 \\ @ \\ @ v0 5 \\ @ @ v1 v0 v2",
		"@ 5 \\ v0":    "\\ @ \\ @ v0 5 \\ @ \\ @ v0 \\ \\ @ v0 v1 \\ @ @ v1 v0 v2",
		"? 0 + 1 2 3":  "\\ @ \\ @ v0 0 \\ ? v0 @ \\ @ \\ @ v0 1 \\ @ \\ @ v0 2 \\ @ v2 + v1 v0 v1 @ \\ @ v0 3 v1",
		"? 0 1 @ 2 3":  "\\ @ \\ @ v0 0 \\ ? v0 @ \\ @ v0 1 v1 @ \\ @ \\ @ v0 2 \\ @ \\ @ v0 3 \\ @ @ v1 v0 v2 v1",
		"? = 1 v0 2 3": "\\ @ \\ @ \\ @ v0 1 \\ @ \\ @ v0 v1 v1 \\ ? v0 @ \\ @ v0 2 v1 @ \\ @ v0 3 v1",
	} {
		checkHanded(t, termOf(text), termOf(want), true)
	}
}

// within tells all ways to put a part in a place of another one; variables of outside are told as seen from there.
func within(part []impl.Cell) [][]impl.Cell {
	under := moved(part, 1, 0)
	return [][]impl.Cell{
		filled("\\ K", under), filled("+ K v0", part), filled("+ v0 K", part), filled("@ K v1", part), filled("@ v1 K", part),
		filled("? K v0 v1", part), filled("? v0 K v1", part), filled("? v0 v1 K", part), filled("= K v0", part), filled("= v0 K", under),
		filled("\\ K", part), filled("= v0 K", part),
	}
}

// TestHandOnOfKindsWithinEachOther puts each kind in each place of each, three deep, with variables near and far.
func TestHandOnOfKindsWithinEachOther(t *testing.T) {
	terms := [][]impl.Cell{termOf("v0"), termOf("v1"), termOf("5")}
	for range 3 {
		var next [][]impl.Cell
		for _, l := range terms {
			next = append(next, within(l)...)
		}
		terms = append(terms, next...)
	}
	for i, l := range terms {
		outside := i % 3
		closed := slices.Concat(slices.Repeat(termOf("= 9"), outside), lams(1), slices.Repeat(termOf("= 8"), outside), lams(5), l)
		checkHanded(t, closed, plainHanded(closed), true)
	}
}

// TestHandOnOfManyTerms holds HandOn against parts that are made alone and moved to their place.
func TestHandOnOfManyTerms(t *testing.T) {
	for i, l := range termsToHand() {
		if len(l) > 6 && i%3 > 0 {
			continue
		}
		want := plainHanded(l)
		if len(want) != plainHandedSize(l) || len(plainFree(want)) > 0 {
			t.Fatalf("%q: %q", textOf(l), textOf(want))
		}
		checkHanded(t, l, want, true)
	}
}

func TestHandOnOfFortyCells(t *testing.T) {
	d := draw(77)
	for range 300 {
		l := drawClosed(&d, 38+d.below(5))
		if len(l) > 40 {
			checkHanded(t, l, nil, false)
		} else {
			checkHanded(t, l, plainHanded(l), true)
		}
	}
	for _, row := range []struct {
		l  []impl.Cell
		is bool
	}{
		{longTerm(39), true}, {longTerm(40), true}, {longTerm(41), false}, {longTerm(42), false}, {longTerm(599), false}, {longTerm(600), false},
		{lams(38, tmVar(37)), true}, {lams(39, tmVar(38)), true}, {lams(40, tmVar(39)), false}, {lams(99, tmVar(98)), false},
		{stuckTerm(39), true}, {stuckTerm(41), false}, {wayDown(19, tmNum(1)), true}, {wayDown(20, tmNum(1)), false},
	} {
		if row.is {
			checkHanded(t, row.l, plainHanded(row.l), true)
		} else {
			checkHanded(t, row.l, nil, false)
		}
	}
}

// TestLargestHanded holds that no term of 40 cells makes one that has too many cells: the largest one is told, and its TmApp is run.
func TestLargestHanded(t *testing.T) {
	largest := 0
	for ifs := range 14 {
		for twos := range 20 {
			ends := 1 + twos + 2*ifs
			if ones := 40 - ifs - twos - ends; ones >= 0 {
				largest = max(largest, 9*ifs+10*twos+4*ends+4*ones)
			}
		}
	}
	if largest != 274 || largest+3 > impl.MaxTerm {
		t.Error("the largest one:", largest)
	}
	for _, text := range []string{"+", "@"} {
		l := slices.Concat(termOf("\\"), slices.Repeat(termOf(text), 19), slices.Repeat(termOf("1"), 20))
		if size, ok := impl.HandedSize(l); size != largest || !ok {
			t.Errorf("HandedSize(%q): %d %v", textOf(l), size, ok)
		}
		if code, num, ok := impl.RunHanded(l, 2000); code != impl.RunFunction || num != 0 || !ok {
			t.Errorf("RunHanded(%q): %d %d %v", textOf(l), code, num, ok)
		}
	}
}

// TestFarthestHanded holds that no variable is too far out: each place binds two at most, and a TmLam has the fewest cells.
func TestFarthestHanded(t *testing.T) {
	farthest := 0
	for _, row := range []struct{ ahead, behind string }{
		{"\\", ""}, {"+ 1", ""}, {"+", "1"}, {"@ 1", ""}, {"@", "1"}, {"? 1 2", ""}, {"? 1", "2"}, {"?", "1 2"}, {"= 1", ""}, {"=", "1"},
	} {
		size := len(termOf(row.ahead)) + len(termOf(row.behind))
		for deep := 0; 2+deep*size <= 40; deep++ {
			l := slices.Concat(lams(1), slices.Repeat(termOf(row.ahead), deep), termOf("v0"), slices.Repeat(termOf(row.behind), deep))
			if row.ahead == "\\" || row.ahead == "= 1" {
				l[1+deep*size].N = deep
			}
			checkHanded(t, l, plainHanded(l), true)
			got, _ := impl.HandOn(l)
			for _, c := range got {
				if c.Kind == impl.TmVar {
					farthest = max(farthest, c.N)
				}
			}
		}
	}
	if farthest != 77 {
		t.Error("the farthest one:", farthest)
	}
}
