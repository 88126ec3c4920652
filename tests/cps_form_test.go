package tests

import (
	"slices"
	"testing"

	"loop.example/g00339/impl"
)

func checkIsHanded(t *testing.T, l []impl.Cell, want bool) {
	t.Helper()
	if is, ok := impl.IsHanded(l); is != want || !ok {
		t.Errorf("IsHanded(%q): %v %v, want %v", textOf(l), is, ok, want)
	}
}

// A part of each kind, and whether it may stand where something is handed on.
var partsToHand = map[string]bool{
	"v0": true, "v99": true, "5": true, "-1000000": true, "\\ v0": true, "\\ \\ 1": true, "\\ @ v0 v1": true,
	"+ 1 2": true, "+ v0 \\ v0": true, "+ + 1 2 3": true, "+ 1 + v2 \\ 3": true, "+ + + 1 v1 2 + 3 4": true,
	"@ v0 v1": false, "? v0 v1 v2": false, "= v0 v1": false, "\\ = 1 v0": false, "\\ @ v0 @ v0 v0": false, "\\ + @ v0 1 2": false,
	"+ 1 @ v0 v0": false, "+ @ v0 v0 1": false, "+ ? v0 1 2 3": false, "+ 1 ? v0 1 2": false, "+ = 1 v0 2": false, "+ 1 = 2 v0": false,
	"+ + 1 @ v0 v0 2": false, "+ 1 + 2 + 3 ? 4 5 6": false,
}

// A part of each kind that is so by itself, but may not stand where something is handed on.
var handedParts = []string{"@ v0 v1", "@ @ v0 v1 + 1 2", "? v0 @ v0 v1 @ v2 v1", "? + v0 1 1 2"}

func TestIsHandedByPlaces(t *testing.T) {
	for text, fits := range partsToHand {
		part := termOf(text)
		for _, place := range []string{"@ v0 K", "+ v0 K", "+ K v0", "? K v0 v1", "\\ @ v0 K", "@ @ v0 1 K", "? v0 @ v1 K 5", "? v0 5 @ v1 K", "@ v0 + K 1", "@ v0 \\ @ v0 K"} {
			checkIsHanded(t, filled(place, part), fits)
		}
	}
	for _, text := range handedParts {
		part := termOf(text)
		for _, place := range []string{"K", "\\ K", "@ K v0", "@ @ K v0 v1", "? v0 K 1", "? v0 1 K", "@ v0 \\ K", "+ \\ K 1", "? \\ K 1 2"} {
			checkIsHanded(t, filled(place, part), true)
		}
		for _, place := range []string{"@ v0 K", "+ 1 K", "+ K 1", "? K 1 2", "@ v0 + 1 K", "@ v0 + K 1", "\\ @ v0 K", "@ v0 \\ + K 1"} {
			checkIsHanded(t, filled(place, part), false)
		}
	}
	for _, place := range []string{"K", "\\ K", "@ K v0", "@ v0 \\ K", "+ \\ K 1", "+ 1 \\ K", "? \\ K 1 2", "? v0 K 1", "? v0 1 K", "@ @ K v0 v1", "= 1 K", "= K 1"} {
		checkIsHanded(t, filled(place, termOf("= 1 v0")), false)
	}
}

// TestIsHandedOfManyTerms asks it of all small terms, also with free variables, and of drawn ones.
func TestIsHandedOfManyTerms(t *testing.T) {
	seen := map[bool]int{}
	look := func(l []impl.Cell) {
		want := namedOf(l).plainIsHanded()
		seen[want]++
		checkIsHanded(t, l, want)
	}
	for _, l := range upToCells(6, 2) {
		look(l)
	}
	d := draw(78)
	for range 4000 {
		look(drawTerm(&d, 4+d.below(30), 100))
	}
	if seen[true] < 1000 || seen[false] < 1000 {
		t.Error("few of a kind:", seen)
	}
	for _, l := range openTerms() {
		look(l)
	}
	for cells := 590; cells <= 600; cells++ {
		look(longTerm(cells))
	}
	look(lams(599, tmVar(99)))
	look(stuckTerm(599))
	look(append(slices.Repeat(termOf("@"), 299), slices.Repeat(termOf("v0"), 300)...))
	look(append(slices.Repeat(termOf("+ v0"), 298), termOf("@ 1 2")...))
	look(append(slices.Repeat(termOf("@ v0"), 298), termOf("= 1 2")...))
}

func TestWhatIsMadeIsHanded(t *testing.T) {
	for i, l := range termsToHand() {
		if len(l) > 5 && i%5 > 0 {
			continue
		}
		made, _ := impl.HandOn(l)
		checkIsHanded(t, made, true)
	}
}

// TestWhatIsSpoiltIsNotHanded puts something in the place of each part of a term that hands on.
func TestWhatIsSpoiltIsNotHanded(t *testing.T) {
	seen := map[bool]int{}
	for _, text := range []string{"+ 1 2", "@ \\ v0 5", "? 1 + 2 3 \\ v0", "= 3 @ \\ ? v0 7 + v0 v1 v0"} {
		made := plainHanded(termOf(text))
		for at := range made {
			part, behind := movedAhead(made[at:], 0, 0)
			for _, instead := range []string{"5", "\\ K", "@ K 1", "@ 1 K", "+ K 1", "+ 1 K", "? K 1 2", "? 1 K 2", "? 1 2 K", "= K 1", "= 1 K"} {
				l := slices.Concat(made[:at], filled(instead, part), behind)
				want := namedOf(l).plainIsHanded()
				seen[want]++
				checkIsHanded(t, l, want)
			}
		}
	}
	if seen[true] < 200 || seen[false] < 200 {
		t.Error("few of a kind:", seen)
	}
}
