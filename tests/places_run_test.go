package tests

import (
	"slices"
	"testing"

	"loop.example/g00339/impl"
)

func TestRunCodeByHand(t *testing.T) {
	for _, one := range []struct {
		code         string
		want, places int
	}{
		{"0=0", 0, 1}, {"0=7", 7, 1}, {"0=1000", 1000, 1}, {"0=-1000", 999003, 1}, {"0=-1", 1000002, 1}, {"39=5", 5, 40}, {"3=5", 5, 4},
		{"0=1 1=2 0=0+1", 3, 2}, {"0=1 1=2 0=0-1", 1000002, 2}, {"0=1 1=2 0=1-0", 1, 2}, {"0=3 1=4 0=0*1", 12, 2},
		{"0=1 1=2 0=0+1 1=4 0=0*1 1=9 0=1-0", 1000000, 2},
		// One place may be used twice, set again, or stay as it is.
		{"0=3 0=0*0", 9, 1}, {"0=3 0=0+0 0=0+0", 12, 1}, {"0=3 0=0-0", 0, 1}, {"0=3 0=4 1=0+0", 8, 2}, {"0=3 1=0+0 0=5 2=0+1", 11, 3}, {"0=1 0=2 0=3", 3, 1},
		// The last step counts, wherever it brings its number; the greatest place counts, wherever it is set.
		{"0=1 39=2", 2, 40}, {"39=1 0=2", 2, 40}, {"39=6 38=7 0=39*38", 42, 40}, {"5=6 20=7 12=5*20 0=12-5", 36, 21}, {"0=9 1=8 2=7 1=0+0", 18, 3},
		// Below 0, at the modulus, and products whose parts are as great as may be.
		{"0=-1000 1=1000 0=0-1", 998003, 2}, {"0=0 1=1 0=0-1 1=1 0=0+1", 0, 2}, {"0=-1 1=-1 2=0*1", 1, 3}, {"0=-1 0=0*0", 1, 1}, {"0=-1 0=0+0", 1000001, 1}, {"0=-1 1=0 0=1-0", 1, 2}, {"0=-1 1=1 0=0+1", 0, 2},
		{"0=1000 0=0*0 1=2 0=0+1", 1000002, 2}, {"0=1000 0=0*0 1=3 0=0+1", 0, 2}, {"0=1000 0=0*0 0=0*0", 9, 1},
	} {
		checkRunCode(t, stepsOf(one.code), one.want, one.places, true)
	}
}

// TestRunCodeOfAnyNumbers: the chapter bounds the numbers of trees, not those of code.
func TestRunCodeOfAnyNumbers(t *testing.T) {
	for _, n := range []int{-1000, 1000, -1001, 1001, 1000002, 1000003, 1000004, -1000002, -1000003, -1000004, 2000006, 1 << 40, -1 << 40, 1<<63 - 1, -1<<63 + 1, -1 << 63} {
		load := impl.Code{Op: impl.LoadOp, Num: n}
		checkPlacedCode(t, []impl.Code{load})
		for op := impl.AddOp; op <= impl.MulOp; op++ {
			for _, m := range []int{-1, 1, n} {
				checkPlacedCode(t, []impl.Code{load, {Op: impl.LoadOp, To: 1, Num: m}, {Op: op, To: 2, A: 0, B: 1}})
				checkPlacedCode(t, []impl.Code{load, {Op: impl.LoadOp, To: 1, Num: m}, {Op: op, To: 2, A: 1, B: 0}, {Op: op, To: 2, A: 2, B: 2}})
			}
		}
	}
	checkRunCode(t, []impl.Code{{Op: impl.LoadOp, Num: 1000003}}, 0, 1, true)
	checkRunCode(t, []impl.Code{{Op: impl.LoadOp, Num: -1000004}}, 1000002, 1, true)
}

// TestCodeCounts: code of 1 to 60 steps is answered, of none and of 61 and more is not.
func TestCodeCounts(t *testing.T) {
	for count := range 130 {
		same := make([]impl.Code, count)
		sum := make([]impl.Code, count)
		for k := range count {
			same[k] = impl.Code{Op: impl.LoadOp, To: k % 40, Num: k}
			sum[k] = impl.Code{Op: impl.AddOp}
		}
		if count > 0 {
			sum[0] = impl.Code{Op: impl.LoadOp, Num: 1}
		}
		if count < 1 || count > 60 {
			checkPlacedCodeRefused(t, same)
			checkPlacedCodeRefused(t, sum)
			continue
		}
		checkRunCode(t, same, count-1, min(count, 40), true)
		checkPlacedCode(t, same)
		checkPlacedCode(t, sum)
	}
	checkPlacedCodeRefused(t, nil)
	checkPlacedCodeRefused(t, []impl.Code{})
	checkPlacedCodeRefused(t, slices.Repeat(stepsOf("0=1"), 100000))
}

// TestCodeOfWrongFields sets each field of each step to many numbers.
func TestCodeOfWrongFields(t *testing.T) {
	const most, least = 1<<63 - 1, -1 << 63
	numbers := []int{least, -1 << 32, -40, -39, -5, -4, -3, -2, -1, 0, 1, 2, 3, 4, 5, 8, 38, 39, 40, 41, 60, 256, 257, 1 << 32, 1<<32 + 1, most}
	for _, text := range []string{"0=5", "39=0", "0=1 1=2 0=0+1", "3=1 2=2 3=3-2 3=3*3", "0=4 0=0+0", "39=1 38=2 0=38-39 39=0*0"} {
		for at := range stepsOf(text) {
			for _, n := range numbers {
				for _, field := range []func(*impl.Code) *int{
					func(c *impl.Code) *int { return &c.Op }, func(c *impl.Code) *int { return &c.To }, func(c *impl.Code) *int { return &c.A },
					func(c *impl.Code) *int { return &c.B }, func(c *impl.Code) *int { return &c.Num },
				} {
					steps := stepsOf(text)
					*field(&steps[at]) = n
					checkPlacedCode(t, steps)
				}
			}
		}
	}
}

func TestCodeThatIsRefused(t *testing.T) {
	load, add := impl.LoadOp, impl.AddOp
	for _, steps := range [][]impl.Code{
		{{}}, {{Op: 5}}, {{Op: -1}}, {{Num: 3}}, {{Op: load, To: -1}}, {{Op: load, To: 40}}, {{Op: load, A: 1}}, {{Op: load, B: 1}}, {{Op: load, A: -1}}, {{Op: load, B: 40}}, {{Op: load, To: 1, A: 1, B: 1}},
		{{Op: load}, {Op: add, A: -1}}, {{Op: load}, {Op: add, B: -1}}, {{Op: load}, {Op: add, A: 40}}, {{Op: load}, {Op: add, B: 40}}, {{Op: load}, {Op: add, To: -1}}, {{Op: load}, {Op: add, To: 40}},
		{{Op: load}, {Op: add, Num: 1}}, {{Op: load}, {Op: add, Num: -1}}, {{Op: load}, {}}, {{Op: load}, {Op: 5}}, {{Op: load}, {Op: 0, A: 0}}, {{}, {Op: load}}, {{Op: load}, {Op: load}, {Op: 9}},
	} {
		checkPlacedCodeRefused(t, steps)
	}
}

// TestPlacesUsedTooEarly: each place is set by a step ahead of the one that uses it.
func TestPlacesUsedTooEarly(t *testing.T) {
	for _, text := range []string{
		"0=0+0", "1=0+0", "0=1 0=0+1", "0=1 0=1+0", "0=1 0=1+1", "0=1 1=0+1", "0=1 1=1+0", "1=1 0=0+1", "0=1 39=38*0", "0=1 1=2 3=2-1", "0=1 2=0+1 1=2", "0=0+1 0=1 1=2", "0=1 1=2 2=0+1 3=2*3", "0=1 1=0+0 2=0+1 4=2*3 3=1",
	} {
		checkPlacedCodeRefused(t, stepsOf(text))
	}
	// At the last step that there may be, too.
	steps := slices.Repeat(stepsOf("0=1"), 59)
	checkPlacedCode(t, append(slices.Clone(steps), stepsOf("1=0+0")...))
	checkPlacedCodeRefused(t, append(slices.Clone(steps), stepsOf("0=0+1")...))
}

// TestAllRowsOfSteps holds each row of few steps on two places against the words.
func TestAllRowsOfSteps(t *testing.T) {
	kinds := stepsOf("0=2 1=-3 0=0+1 1=1-0 0=1*1 1=0+0 1=0*1")
	rows, good := [][]impl.Code{nil}, 0
	for range 4 {
		var longer [][]impl.Code
		for _, row := range rows {
			for _, step := range kinds {
				next := append(slices.Clone(row), step)
				longer = append(longer, next)
				checkPlacedCode(t, next)
				if plainIsCode(next) {
					good++
				}
			}
		}
		rows = longer
	}
	if good < 250 {
		t.Errorf("too few that are good: %d", good)
	}
}

func TestStepsDrawn(t *testing.T) {
	r := draw(1304)
	unheld, whole := 0, 0
	var held [21]int
	for range 5000 {
		steps := drawSteps(&r)
		if !plainIsCode(steps) {
			t.Fatalf("drawn, but not good: %v", steps)
		}
		checkPlacedCode(t, steps)
		most := plainMostHeld(steps)
		held[min(most, 20)]++
		if _, places := plainRunCode(steps); most < places {
			unheld++
		}
		if len(steps) == 60 {
			whole++
		}
		at := r.below(len(steps))
		switch spoiled := slices.Clone(steps); r.below(5) {
		case 0:
			spoiled[at].To = r.below(44) - 2
			checkPlacedCode(t, spoiled)
		case 1:
			spoiled[at].A = r.below(44) - 2
			checkPlacedCode(t, spoiled)
		case 2:
			spoiled[at].B = r.below(44) - 2
			checkPlacedCode(t, spoiled)
		case 3:
			spoiled[at].Op = r.below(8) - 2
			checkPlacedCode(t, spoiled)
		default:
			checkPlacedCode(t, slices.Delete(spoiled, at, at+1))
		}
	}
	if unheld < 500 || whole < 30 {
		t.Errorf("too few that hold fewer than they use: %d, of 60 steps: %d", unheld, whole)
	}
	for n := 1; n <= 8; n++ {
		if held[n] < 50 {
			t.Errorf("too few that hold %d: %d", n, held[n])
		}
	}
}
