package tests

import (
	"testing"

	"loop.example/g00339/impl"
)

func TestMostHeldByHand(t *testing.T) {
	for _, one := range []struct {
		code string
		want int
	}{
		// Of one step, the last step's alone.
		{"0=5", 1}, {"39=5", 1},
		// What is never used is not held, whether it is set again or not.
		{"0=1 1=2", 1}, {"0=1 1=2 2=3 3=4", 1}, {"0=1 0=2 0=3", 1}, {"0=1 1=2 2=3 0=0+0", 1}, {"0=1 1=2 2=0+0", 1}, {"0=1 1=2 1=0+0", 1}, {"0=1 1=0+0 2=0+0", 1},
		// What is used later is held up to there, over what is done between.
		{"0=1 1=2 0=0+1", 2}, {"0=1 1=2 2=3 3=4 0=0+2", 2}, {"0=1 1=2 2=3 0=0+1 0=0+2", 3}, {"0=1 1=2 0=0+1 2=3 0=0+2", 2}, {"0=1 1=2 2=3 3=4 4=0+1", 2}, {"0=1 1=2 2=3 3=4 4=2+3 0=0+4", 3},
		// Used more than once: held up to the last use.
		{"0=1 1=0+0 2=0+1", 2}, {"0=1 1=0+0 2=0+0 3=0+0", 1}, {"0=1 1=0+0 2=0+1 3=0+2", 2}, {"0=1 1=2 2=0+1 3=0+1 4=2+3", 3}, {"0=1 0=0+0 0=0+0", 1},
		// Set again behind its last use: what it held is not held any more, what it holds is, if it is used.
		{"0=1 1=0+0 0=2 1=0+1", 2}, {"0=1 1=2 2=0+1 0=3 1=4 3=0+1", 2}, {"0=1 1=2 2=0+1 0=3 1=4 3=0+1 3=3+2", 3}, {"0=1 1=2 0=3 2=0+1", 2}, {"0=1 1=2 2=3 0=1+2 0=5", 2}, {"0=9 1=8 0=7 1=6 2=0*1", 2},
		// Used and set by one step.
		{"0=1 1=2 0=0+1 1=0+0", 2}, {"0=3 0=0*0", 1}, {"0=3 1=4 0=0*1 1=5 0=1-0", 2},
		// What the last step tells is held behind it alone.
		{"0=1 1=2 2=3 3=1+2", 2}, {"3=1 1=2 2=3 3=1+2", 2}, {"0=1 1=2 2=3", 1}, {"2=1 0=1 1=2 2=0+1", 2},
		{"0=1 1=2 2=3 3=4 4=5 4=4+3 4=4+2 4=4+1 4=4+0", 5}, {"0=1 1=2 0=0+1 1=4 0=0*1 1=9 0=1-0", 2},
	} {
		checkMostHeld(t, stepsOf(one.code), one.want, true)
		checkPlacedCode(t, stepsOf(one.code))
	}
}

// TestMostHeldUpToAllPlaces holds so many places at once, and takes them together one by one.
func TestMostHeldUpToAllPlaces(t *testing.T) {
	for places := 1; places <= 30; places++ {
		var steps []impl.Code
		for place := range places {
			steps = append(steps, impl.Code{Op: impl.LoadOp, To: 39 - place, Num: 1})
		}
		for place := 1; place < places; place++ {
			steps = append(steps, impl.Code{Op: impl.AddOp, To: 39, A: 39, B: 39 - place})
		}
		checkMostHeld(t, steps, places, true)
		checkRunCode(t, steps, places, 40, true)
	}
	var steps []impl.Code
	for place := range 40 {
		steps = append(steps, impl.Code{Op: impl.LoadOp, To: place, Num: 1})
	}
	for place := 0; place < 40; place += 2 {
		steps = append(steps, impl.Code{Op: impl.AddOp, To: place, A: place, B: place + 1})
	}
	checkMostHeld(t, steps, 40, true)
}

// TestMostHeldOfTrees: what is made of a tree holds, at some step, all places that it uses.
func TestMostHeldOfTrees(t *testing.T) {
	r := draw(1305)
	for range 3000 {
		cells := drawCells(&r)
		steps, places, ok := impl.CodeBy(cells, drawRights(&r, len(cells)))
		if !ok {
			t.Fatalf("refused: %v", cells)
		}
		checkMostHeld(t, steps, places, true)
		steps, places, _ = impl.CodeFor(cells)
		checkMostHeld(t, steps, places, true)
	}
}
