package tests

import (
	"slices"
	"strings"
	"testing"

	"loop.example/g00339/impl"
)

func TestFirstMatch(t *testing.T) {
	d := dataOf(0, 1, 2)
	for _, c := range []struct {
		rules, value string
		want         int
	}{
		{"", "0", -1},
		{"", "2100", -1},
		{"_", "0", 0},
		{"_", "2100", 0},
		{"0", "0", 0},
		{"0", "10", -1},
		{"1_", "10", 0},
		{"1_", "12100", 0},
		{"1_", "0", -1},
		{"1_", "200", -1},
		{"10 0 110", "110", 2},
		{"10 0 110", "1110", -1},
		{"_ 0 1_", "10", 0},
		{"0 _ 1_", "10", 1},
		{"0 1_ _", "10", 1},
		{"0 1_ _", "200", 2},
		{"20_ 2_0 2__", "200", 0},
		{"20_ 2_0 2__", "2100", 1},
		{"20_ 2_0 2__", "21010", 2},
		{"20_ 2_0 2__", "2010", 0},
		{"20_ 2_0 2__", "10", -1},
		{"2_0", "22001200", -1},
		{"2_0", "22000", 0},
		{"2_1_", "22001200", 0},
		{"2_1_", "22000", -1},
		{"2_21_1_", "2210021010", 0},
		{"0 0 0 0 0 0 0 0", "0", 0},
		{"0 0 0 0 0 0 0 1_", "10", 7},
		{"0 0 0 0 0 0 0 0", "10", -1},
	} {
		checkFirst(t, d, rulesOf(c.rules), valueOf(c.value), c.want)
	}
}

// TestFirstMatchOfLong holds patterns of 40 cells against values of up to 60 numbers.
func TestFirstMatchOfLong(t *testing.T) {
	d := dataOf(0, 1, 2)
	ones := func(n int, last string) string { return strings.Repeat("1", n) + last }
	rules := rulesOf(ones(39, "0") + " " + ones(39, "_") + " " + strings.Repeat("2_", 19) + "1_ _")
	checkFirst(t, d, rules, valueOf(ones(39, "0")), 0)
	checkFirst(t, d, rules, valueOf(ones(40, "0")), 1)
	checkFirst(t, d, rules, valueOf(ones(59, "0")), 1)
	checkFirst(t, d, rules, valueOf(ones(38, "0")), 3)
	checkFirst(t, d, rules, valueOf(strings.Repeat("20", 19)+"10"), 2)
	checkFirst(t, d, rules, valueOf(strings.Repeat("20", 19)+ones(21, "0")), 2)
	checkFirst(t, d, rules, valueOf(strings.Repeat("20", 29)+"10"), 3)
}

// TestFirstMatchOfAll holds all pairs of small patterns, and some more, against all small values.
func TestFirstMatchOfAll(t *testing.T) {
	for _, d := range []impl.Data{dataOf(0), dataOf(0, 1), dataOf(2, 0), dataOf(0, 2, 1)} {
		values := valuesUpTo(d, 5)
		patterns := patternsUpTo(d, 3)
		for _, one := range patterns {
			for _, other := range patterns {
				rules := [][]impl.Pat{one, other}
				for _, v := range values {
					checkFirst(t, d, rules, v, plainFirst(d, rules, v))
				}
			}
		}
	}
}

func TestFirstMatchDrawn(t *testing.T) {
	r := draw(801)
	came := make([]int, 9)
	for range 10000 {
		d := drawData(&r)
		rules := drawRules(&r, d, 8)
		v := drawValue(&r, d, rules)
		want := plainFirst(d, rules, v)
		came[want+1]++
		checkFirst(t, d, rules, v, want)
	}
	if slices.Min(came) < 5 {
		t.Error("some are hardly drawn:", came)
	}
}
