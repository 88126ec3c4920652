package tests

import (
	"regexp"
	"slices"
	"strconv"
	"strings"

	"loop.example/g00339/impl"
)

var wordForm = regexp.MustCompile(`^(?:[0-9]+|[a-z]+|<=|<<|==|!=|&&|\|\||->|[-+*/%<=!(),;])`)

func num(n int) impl.Token {
	return impl.Token{Kind: impl.TokNumber, Num: n}
}

func name(s string) impl.Token {
	return impl.Token{Kind: impl.TokName, Text: s}
}

func sign(s string) impl.Token {
	return impl.Token{Kind: impl.TokSign, Text: s}
}

func at(place int, t impl.Token) impl.Token {
	t.At = place
	return t
}

// plainToken tells the token of one whole word, apart from the program, and whether it is good.
func plainToken(w string) (impl.Token, bool) {
	switch {
	case w == "":
		return impl.Token{}, false
	case w[0] >= '0' && w[0] <= '9':
		n, err := strconv.Atoi(w)
		return num(n), err == nil && n <= 999999999 && strconv.Itoa(n) == w
	case w[0] >= 'a' && w[0] <= 'z':
		return name(w), len(w) <= 8
	}
	return sign(w), true
}

// plainLex reads a text as the document tells it, apart from the program.
func plainLex(s string) ([]impl.Token, int, bool) {
	if len(s) > 300 {
		return nil, 0, false
	}
	var l []impl.Token
	for i := 0; i < len(s); {
		if s[i] == 32 || s[i] == 10 {
			i++
			continue
		}
		w := wordForm.FindString(s[i:])
		t, ok := plainToken(w)
		if !ok || len(l) == 120 {
			return nil, i, false
		}
		l = append(l, at(i, t))
		i += len(w)
	}
	return l, 0, true
}

// plainText tells the text of a good token, apart from the program.
func plainText(t impl.Token) string {
	if t.Kind == impl.TokNumber {
		return strconv.Itoa(t.Num)
	}
	return t.Text
}

// plainJoin joins good tokens with a blank just where two are not read as these two.
func plainJoin(l []impl.Token) string {
	var b strings.Builder
	for i, t := range l {
		if i > 0 && !readsAs(plainText(l[i-1])+plainText(t), l[i-1], t) {
			b.WriteByte(' ')
		}
		b.WriteString(plainText(t))
	}
	return b.String()
}

// readsAs tells whether a text is read as just these tokens, their At apart.
func readsAs(s string, want ...impl.Token) bool {
	l, _, ok := plainLex(s)
	return ok && slices.Equal(withoutPlaces(l), withoutPlaces(want))
}

func withoutPlaces(l []impl.Token) []impl.Token {
	out := slices.Clone(l)
	for i := range out {
		out[i].At = 0
	}
	return out
}

// sampleTokens are good tokens of each kind: all signs, names and numbers at their bounds.
func sampleTokens() []impl.Token {
	l := []impl.Token{num(0), num(7), num(10), num(99999999), num(100000000), num(999999999), name("a"), name("z"), name("ab"), name("abcdefg"), name("abcdefgh"), name("zzzzzzzz")}
	for _, s := range allSigns() {
		l = append(l, sign(s))
	}
	return l
}

func allSigns() []string {
	return []string{"+", "-", "*", "/", "%", "<", "<=", "==", "!=", "=", "&&", "||", "!", "(", ")", ",", ";", "->", "<<"}
}

// wrongTokens are tokens that are not good, each for one cause.
func wrongTokens() []impl.Token {
	const least, most = -1 << 63, 1<<63 - 1
	l := []impl.Token{
		{}, {Kind: 4}, {Kind: -1}, {Kind: least}, {Kind: most},
		{Text: "a"}, {Num: 1}, {Kind: 4, Text: "a"}, {Kind: 4, Text: "+"}, {Kind: 4, Num: 1}, {Kind: 0, Text: "+"}, {Kind: -2, Text: "a"},
		num(-1), num(1000000000), num(least), num(most), num(1 << 32), num(1<<32 + 5),
		{Kind: impl.TokNumber, Text: "1"}, {Kind: impl.TokNumber, Num: 1, Text: "1"}, {Kind: impl.TokNumber, Num: 1, Text: "a"}, {Kind: impl.TokNumber, Text: "+"}, {Kind: impl.TokNumber, Text: " "},
		name(""), name("abcdefghi"), name(strings.Repeat("a", 300)), name(strings.Repeat("a", 5000)), name("A"), name("aB"), name("a1"), name("1"), name("1a"), name("a b"), name(" a"), name("a "), name("a\n"), name("+"), name("a+"), name("_"), name("`"), name("{"), name("a{"), name("\x00"), name("é"), name("aé"), name("\xff"), name("a\xff"), name("abcdefg\xff"),
		{Kind: impl.TokName, Num: 1, Text: "a"}, {Kind: impl.TokName, Num: -1, Text: "a"}, {Kind: impl.TokName, Num: 1}, {Kind: impl.TokName, Num: most, Text: "a"},
		sign(""), sign("&"), sign("|"), sign(">"), sign(">="), sign("=>"), sign("<-"), sign("++"), sign("<<="), sign("==="), sign("&&&"), sign("+ "), sign(" +"), sign("+a"), sign("a"), sign("1"), sign("."), sign(":"), sign("["), sign("\n"), sign("\x00"), sign("+\x00"), sign("\xff"), sign("<\xff"), sign("()"), sign("--"), sign("!!"), sign(strings.Repeat("+", 5000)),
		{Kind: impl.TokSign, Num: 1, Text: "+"}, {Kind: impl.TokSign, Num: -1, Text: "+"}, {Kind: impl.TokSign, Num: 1},
	}
	for _, t := range []impl.Token{num(1), name("a"), sign("+")} {
		l = append(l, at(-1, t), at(301, t), at(least, t), at(most, t))
	}
	return l
}
