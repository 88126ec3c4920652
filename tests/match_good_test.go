package tests

import (
	"slices"
	"strings"
	"testing"

	"loop.example/g00339/impl"
)

func TestGoodData(t *testing.T) {
	const most, least = 1<<63 - 1, -1 << 63
	for _, cons := range [][]int{{0}, {0, 0}, {0, 1}, {1, 0}, {2, 0}, {0, 0, 0, 0}, {2, 2, 2, 0}, {0, 2, 1, 2}, {1, 0, 1}} {
		if !impl.GoodData(dataOf(cons...)) {
			t.Error("not told good:", cons)
		}
	}
	for _, cons := range [][]int{nil, {}, {1}, {2}, {1, 2}, {1, 1, 1, 1}, {2, 1, 2}, {-1}, {-1, 0}, {0, -1}, {3, 0}, {0, 3}, {0, 1, 2, 3}, {0, 0, 0, 0, 0}, {0, 1, 2, 1, 2}, {1, 1, 1, 1, 0}, {0, most}, {least, 0}, make([]int, 1000)} {
		if impl.GoodData(dataOf(cons...)) {
			t.Error("told good:", cons)
		}
	}
}

// TestGoodDataOfAll asks all lists of at most five numbers in -1..3.
func TestGoodDataOfAll(t *testing.T) {
	rows := [][]int{nil}
	for len(rows[0]) < 6 {
		var more [][]int
		for _, row := range rows {
			want := len(row) >= 1 && len(row) <= 4
			none := 0
			for _, parts := range row {
				if parts < 0 || parts > 2 {
					want = false
				}
				if parts == 0 {
					none++
				}
			}
			if got := impl.GoodData(dataOf(row...)); got != (want && none > 0) {
				t.Errorf("GoodData(%v): %v", row, got)
			}
			for parts := -1; parts <= 3; parts++ {
				more = append(more, append(slices.Clone(row), parts))
			}
		}
		rows = more
	}
}

func TestGoodRules(t *testing.T) {
	d := dataOf(0, 1, 2)
	for _, text := range []string{"", "_", "0", "1_", "10", "2__", "210_", "210200", "2_10", "_ _", "0 1_ 2__", "_ _ _ _ _ _ _ _", strings.Repeat("1", 39) + "0", strings.Repeat("1", 39) + "_", strings.Repeat("2_", 19) + "1_", "2" + strings.Repeat("1", 37) + "00"} {
		if !impl.GoodRules(d, rulesOf(text)) {
			t.Errorf("not told good: %q", text)
		}
	}
	for _, text := range []string{"1", "2", "2_", "20", "210", "2_1", "2200", "1111", "__", "_0", "00", "0_", "1__", "1_0", "2___", "2__0", "21_0_", "3", "3_", "13", "2_3", "_ 1", "0 1_ 2_", "1 _", "_ _ _ _ _ _ _ _ _", "0 1_ 2__ 0 1_ 2__ 0 1_ 2__", strings.Repeat("1", 40) + "0", strings.Repeat("1", 40) + "_", strings.Repeat("1", 40), strings.Repeat("2_", 20) + "_", strings.Repeat("2_", 20), strings.Repeat("_", 40), strings.Repeat("_", 41)} {
		if impl.GoodRules(d, rulesOf(text)) {
			t.Errorf("told good: %q", text)
		}
	}
}

// wrongCells tells cells that are good in no pattern of three constructors.
func wrongCells() []impl.Pat {
	const most, least = 1<<63 - 1, -1 << 63
	return []impl.Pat{
		{}, {Kind: 3}, {Kind: -1}, {Kind: most}, {Kind: least}, {Kind: 0, Con: 1},
		{Kind: impl.PatAny, Con: 1}, {Kind: impl.PatAny, Con: -1}, {Kind: impl.PatAny, Con: 2}, {Kind: impl.PatAny, Con: most}, {Kind: impl.PatAny, Con: least},
		{Kind: impl.PatOf, Con: -1}, {Kind: impl.PatOf, Con: 3}, {Kind: impl.PatOf, Con: 4}, {Kind: impl.PatOf, Con: most}, {Kind: impl.PatOf, Con: least},
	}
}

func TestGoodRulesOfWrongCells(t *testing.T) {
	d := dataOf(0, 1, 2)
	for _, wrong := range wrongCells() {
		for _, pattern := range []string{"0", "10", "200", "2100", "_", "2__"} {
			for at := range pattern {
				rule := patOf(pattern)
				rule[at] = wrong
				for _, rules := range [][][]impl.Pat{{rule}, {rule, patOf("_")}, {patOf("_"), rule}} {
					if impl.GoodRules(d, rules) {
						t.Errorf("told good: %v", rules)
					}
				}
			}
		}
	}
	for _, rules := range [][][]impl.Pat{{nil}, {{}}, {patOf("_"), nil}, {nil, patOf("_")}, {patOf("0"), {}, patOf("1_")}, make([][]impl.Pat, 8), make([][]impl.Pat, 9)} {
		if impl.GoodRules(d, rules) {
			t.Errorf("told good: %v", rules)
		}
	}
	// A constructor is there or not by the data alone.
	for _, rule := range []string{"1_", "2__", "3"} {
		if impl.GoodRules(dataOf(0), rulesOf(rule)) {
			t.Errorf("told good: %s", rule)
		}
	}
	if !impl.GoodRules(dataOf(0, 1, 2, 0), rulesOf("3 2_3 13")) {
		t.Error("not told good: 3 2_3 13")
	}
}

// TestGoodOfAllRows asks all rows of at most five cells, and of as many numbers.
func TestGoodOfAllRows(t *testing.T) {
	for _, d := range []impl.Data{dataOf(0), dataOf(0, 1), dataOf(2, 0), dataOf(1, 0, 2)} {
		good := map[string]int{}
		for _, l := range patternsUpTo(d, 5) {
			good[patText(l)]++
		}
		rows := []string{""}
		for len(rows[0]) < 6 {
			var more []string
			for _, row := range rows {
				if got := impl.GoodRules(d, [][]impl.Pat{patOf(row)}); got != (good[row] == 1) {
					t.Errorf("GoodRules(%v, %q): %v", d.Cons, row, got)
				}
				if !strings.Contains(row, "_") {
					if got := impl.GoodValue(d, valueOf(row)); got != (good[row] == 1) {
						t.Errorf("GoodValue(%v, %q): %v", d.Cons, row, got)
					}
				}
				for _, cell := range "_0123"[:len(d.Cons)+2] {
					more = append(more, row+string(cell))
				}
			}
			rows = more
		}
	}
}

func TestGoodValue(t *testing.T) {
	d := dataOf(0, 1, 2)
	for _, text := range []string{"0", "10", "200", "2100", "21010", "2" + strings.Repeat("1", 57) + "00", strings.Repeat("1", 59) + "0", strings.Repeat("20", 29) + "10", strings.Repeat("1", 40) + "0"} {
		if !impl.GoodValue(d, valueOf(text)) {
			t.Errorf("not told good: %q", text)
		}
	}
	for _, text := range []string{"", "1", "2", "20", "11", "220", "00", "100", "2000", "3", "13", "203", strings.Repeat("1", 60) + "0", strings.Repeat("1", 60), strings.Repeat("20", 30) + "0", strings.Repeat("20", 30), strings.Repeat("0", 60), strings.Repeat("0", 61)} {
		if impl.GoodValue(d, valueOf(text)) {
			t.Errorf("told good: %q", text)
		}
	}
	for _, con := range []int{-1, 3, 4, 1<<63 - 1, -1 << 63} {
		for _, v := range [][]int{{con}, {1, con}, {2, con, 0}, {2, 0, con}, {con, 0}} {
			if impl.GoodValue(d, v) {
				t.Errorf("told good: %v", v)
			}
		}
	}
}
