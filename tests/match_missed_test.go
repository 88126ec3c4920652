package tests

import (
	"slices"
	"strings"
	"testing"

	"loop.example/g00339/impl"
)

func TestMissedBy(t *testing.T) {
	list := dataOf(0, 2)
	number := dataOf(0, 1)
	for _, c := range []struct {
		d           impl.Data
		rules, want string
	}{
		// No rules: the one row that is looked for is any value.
		{number, "", "_"},
		{dataOf(0), "", "_"},
		{dataOf(0), "0", "-"},
		{dataOf(0), "_", "-"},
		{dataOf(0, 0), "1", "0"},
		{dataOf(0, 0), "1 0", "-"},
		{number, "0 1_", "-"},
		{number, "1_ 0", "-"},
		{number, "_", "-"},
		{number, "_ 0", "-"},
		{number, "0 _", "-"},
		{number, "0", "1_"},
		{number, "1_", "0"},
		{number, "10 0 110", "111_"},
		{number, "0 11_", "10"},
		{number, "0 10 110 1111_", "1110"},
		{number, "10 _", "-"},
		// Just one constructor deep inside.
		{list, "0 10_ 11__0 11__10_ 11__110__", "11__111____"},
		{list, "0 10_ 11__0 11__11___", "11__10_"},
		{list, "0 10_ 11_00 11_010_ 11_011___ 11_1___", "-"},
		// What nothing asks is any value, even where others are named ahead of it.
		{list, "1_0", "0"},
		{list, "0 1_0", "1_1__"},
		{list, "0 10_", "11___"},
		{list, "0 1_0 10_", "11__1__"},
		{list, "0 110__", "10_"},
		{list, "0 10_ 110__", "111____"},
		{list, "0 10_ 11_0_", "11_1___"},
		// Where several are missed the constructors count in their order, from the front on.
		{list, "0 100 11__1__", "101__"},
		{list, "0 101__ 11__1__", "100"},
		{list, "0 10_ 11__1__", "11__0"},
		{dataOf(0, 1, 2, 0), "1_ 3", "0"},
		{dataOf(0, 1, 2, 0), "0 3", "1_"},
		{dataOf(0, 1, 2, 0), "0 1_ 3", "2__"},
		{dataOf(0, 1, 2, 0), "0 1_ 2__", "3"},
		{dataOf(0, 1, 2, 0), "0 11_ 13 20_", "10"},
		{dataOf(0, 1, 2, 0), "0 1_ 203 3", "200"},
		{dataOf(0, 1, 2, 0), "0 1_ 2_3 3", "2_0"},
		{dataOf(0, 1, 2, 0), "0 1_ 2_3 21__ 3", "200"},
		{dataOf(0, 1, 2, 0), "0 1_ 20_ 21_0 2_3 3", "21_1_"},
		{dataOf(2, 0), "1", "0__"},
		{dataOf(2, 0), "1 0__", "-"},
		{dataOf(2, 0), "01_", "00___"},
		{dataOf(2, 0), "00___", "01_"},
		// A row that any value fits, ahead of others, leaves nothing; in a part it counts there alone.
		{list, "_ 10_ 0", "-"},
		{list, "1_0 1_1__", "0"},
		{list, "1__ 10_", "0"},
	} {
		rules := rulesOf(c.rules)
		if c.want == "-" {
			checkMissed(t, c.d, rules, nil, false)
		} else {
			checkMissed(t, c.d, rules, patOf(c.want), true)
		}
		want, is := plainMissed(c.d, rules)
		checkMissed(t, c.d, rules, want, is)
	}
}

// checkAboutMissed holds MissedBy and VainIn against the chapter's way, and against what is left when all that fits others is taken off.
func checkAboutMissed(t *testing.T, d impl.Data, rules [][]impl.Pat) {
	t.Helper()
	kept := cloneRules(rules)
	want, is := plainMissed(d, rules)
	checkMissed(t, d, rules, want, is)
	checkVain(t, d, rules, plainVain(d, rules))
	if left := leftOf(d, anyShape(), shapesOf(d, rules)); is != (len(left) > 0) {
		t.Errorf("%v, %s: %v, left are %d", d.Cons, rulesText(rules), is, len(left))
	}
	if is {
		for _, s := range shapesOf(d, rules) {
			if s.meets(shapeOf(d, want)) {
				t.Errorf("%v, %s: %s is not missed", d.Cons, rulesText(rules), patText(want))
			}
		}
	}
	if !sameRules(rules, kept) {
		t.Errorf("changed: %s, was %s", rulesText(rules), rulesText(kept))
	}
}

func TestMissedAndVainOfAll(t *testing.T) {
	for _, d := range []impl.Data{dataOf(0), dataOf(0, 0), dataOf(0, 1), dataOf(2, 0), dataOf(0, 2, 1)} {
		patterns := patternsUpTo(d, 4)
		for _, one := range patterns {
			checkAboutMissed(t, d, [][]impl.Pat{one})
			for _, other := range patterns {
				checkAboutMissed(t, d, [][]impl.Pat{one, other})
				for _, last := range patterns {
					checkAboutMissed(t, d, [][]impl.Pat{one, other, last})
				}
			}
		}
	}
}

func TestMissedAndVainDrawn(t *testing.T) {
	r := draw(802)
	missed, vain := 0, 0
	for range 6000 {
		d := drawData(&r)
		rules := drawRules(&r, d, 8)
		checkAboutMissed(t, d, rules)
		if _, is := plainMissed(d, rules); is {
			missed++
		}
		vain += len(plainVain(d, rules))
	}
	if missed < 1000 || missed > 5000 || vain < 1000 {
		t.Error("hardly drawn:", missed, vain)
	}
}

// TestVainByValues asks small values one by one: what is vain has none, what is not vain has a small one.
func TestVainByValues(t *testing.T) {
	r := draw(803)
	for _, d := range []impl.Data{dataOf(0), dataOf(0, 1), dataOf(2, 0), dataOf(0, 2, 1)} {
		values := valuesUpTo(d, 7)
		patterns := patternsUpTo(d, 3)
		for range 300 {
			var rules [][]impl.Pat
			for range 1 + r.below(5) {
				rules = append(rules, patterns[r.below(len(patterns))])
			}
			first := map[int]int{}
			for _, v := range values {
				first[plainFirst(d, rules, v)]++
			}
			var want []int
			for number := range rules {
				if first[number] == 0 {
					want = append(want, number)
				}
			}
			checkVain(t, d, rules, want)
			if _, is, ok := impl.MissedBy(d, rules); is != (first[-1] > 0) || !ok {
				t.Errorf("MissedBy(%v, %s): %v %v, of %d values none fits", d.Cons, rulesText(rules), is, ok, first[-1])
			}
		}
	}
}

func TestVainIn(t *testing.T) {
	list := dataOf(0, 2)
	number := dataOf(0, 1)
	for _, c := range []struct {
		d     impl.Data
		rules string
		want  []int
	}{
		{number, "", nil},
		{number, "_", nil},
		{number, "0 1_", nil},
		// Behind one that any value fits.
		{number, "_ 0 1_ _", []int{1, 2, 3}},
		{number, "0 _ 10 1_ 0", []int{2, 3, 4}},
		{dataOf(0), "_ 0", []int{1}},
		{dataOf(0), "0 _", []int{1}},
		// Several ahead make it vain together.
		{number, "0 1_ _", []int{2}},
		{number, "0 10 _ 11_", []int{3}},
		{number, "10 11_ 1_", []int{2}},
		{number, "10 1_ 11_", []int{2}},
		{list, "10_ 11__0 11__1__ 1__", []int{3}},
		{list, "10_ 11__0 1__", nil},
		{list, "1_0 10_ 101__ 1_1__ 1__", []int{2, 4}},
		{list, "0 1_0 1_1__ _", []int{3}},
		{dataOf(0, 1, 2, 0), "0 1_ 2__ 3 _", []int{4}},
		{dataOf(0, 1, 2, 0), "0 1_ 2__ _ 3", []int{4}},
		{dataOf(0, 1, 2, 0), "20_ 21__ 22___ 23_ 2_0 2__", []int{4, 5}},
		// The same twice.
		{number, "0 0", []int{1}},
		{number, "10 0 10 0 1_", []int{2, 3}},
		{list, "1_10_ 1_10_ 1_1__", []int{1}},
		{number, "0 0 0 0 0 0 0 0", []int{1, 2, 3, 4, 5, 6, 7}},
		// A vain one makes nothing vain that was not so without it.
		{list, "100 100 10_ 1_0 1__", []int{1}},
	} {
		checkVain(t, c.d, rulesOf(c.rules), c.want)
		if got := plainVain(c.d, rulesOf(c.rules)); !slices.Equal(got, c.want) {
			t.Errorf("%v, %s: the plain way tells %v", c.d.Cons, c.rules, got)
		}
	}
}

// TestMissedByLong: rules that ask at many places apart from each other are looked at in a moment, though there are more ways through them than could be gone.
func TestMissedByLong(t *testing.T) {
	d := dataOf(2, 0, 0, 0)
	var rules [][]impl.Pat
	for k := range 7 {
		own := slices.Concat(patOf("0"), comb(12, 0, 1), patOf("_"))
		rules = append(rules, slices.Concat(patOf(strings.Repeat("0_", k)), own))
	}
	// What is missed has another constructor at the end of each, and more cells than a rule may have.
	checkMissed(t, d, rules, patOf(strings.Repeat("0"+strings.Repeat("0_", 11)+"0__", 7)+"_"), true)
	rules = append(rules, patOf("_"))
	checkMissed(t, d, rules, nil, false)
	checkVain(t, d, rules, nil)
	// The last two are all together, and ask behind all others.
	two := dataOf(0, 2)
	rules = nil
	for k := range 6 {
		own := slices.Concat(patOf("1"), comb(12, 1, 0), patOf("_"))
		rules = append(rules, slices.Concat(patOf(strings.Repeat("1_", k)), own))
	}
	rules = append(rules, patOf("0"), patOf("1__"))
	checkMissed(t, two, rules, nil, false)
	checkVain(t, two, rules, nil)
	for k := range 40 {
		checkMissed(t, dataOf(0, 1), rulesOf("0 "+strings.Repeat("1", k)+"_"), missedOnes(k), k > 1)
	}
	checkMissed(t, dataOf(0, 1), rulesOf(strings.Repeat("1", 39)+"0"), patOf("0"), true)
}

func missedOnes(k int) []impl.Pat {
	if k < 2 {
		return nil
	}
	return patOf("10")
}
