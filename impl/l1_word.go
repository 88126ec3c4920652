package impl

import (
	"strconv"
	"strings"
)

const MaxText = 300
const MaxTokens = 120
const TokNumber = 1
const TokName = 2
const TokSign = 3

const maxNumber = 999999999
const maxDigits = 9
const maxLetters = 8

type Token struct {
	Kind int
	Num  int
	Text string
	At   int
}

func LexText(s string) ([]Token, int, bool) {
	if len(s) > MaxText {
		return nil, 0, false
	}
	var out []Token
	var t Token
	at, size := 0, 0
between:
	at += runAhead(s[at:], isBlank)
	if at == len(s) {
		return out, 0, true
	}
	if len(out) == MaxTokens {
		goto fault
	}
	t, size = wordAhead(s[at:])
	if size == 0 {
		goto fault
	}
	t.At = at
	out = append(out, t)
	at += size
	goto between
fault:
	return nil, at, false
}

// SignsOf makes its list anew each time, so that nobody who writes into it changes the signs that are read.
func SignsOf() []string {
	return []string{"+", "-", "*", "/", "%", "<", "<=", "==", "!=", "=", "&&", "||", "!", "(", ")", ",", ";", "->", "<<"}
}

func TokenText(t Token) (string, bool) {
	if !GoodToken(t) {
		return "", false
	}
	if t.Kind == TokNumber {
		return strconv.Itoa(t.Num), true
	}
	return strings.Clone(t.Text), true
}

// JoinTokens asks for blanks by neighbours alone: no word reaches over a whole token, since no sign has more than two bytes.
func JoinTokens(l []Token) (string, bool) {
	if len(l) > MaxTokens {
		return "", false
	}
	var out strings.Builder
	for i, t := range l {
		text, ok := TokenText(t)
		if !ok {
			return "", false
		}
		if i > 0 && runTogether(l[i-1], t) {
			out.WriteByte(' ')
		}
		out.WriteString(text)
	}
	if out.Len() > MaxText {
		return "", false
	}
	return out.String(), true
}

func NeedsBlank(a Token, b Token) (bool, bool) {
	if !GoodToken(a) || !GoodToken(b) {
		return false, false
	}
	return runTogether(a, b), true
}

func GoodToken(t Token) bool {
	if t.At < 0 || t.At > MaxText {
		return false
	}
	switch t.Kind {
	case TokNumber:
		return t.Num >= 0 && t.Num <= maxNumber && t.Text == ""
	case TokName:
		return t.Num == 0 && isName(t.Text)
	case TokSign:
		return t.Num == 0 && isSign(t.Text)
	}
	return false
}

// runTogether takes two good tokens; it asks LexText itself, so that what needs a blank is just what is read otherwise.
func runTogether(a Token, b Token) bool {
	first, _ := TokenText(a)
	second, _ := TokenText(b)
	l, _, ok := LexText(first + second)
	return !ok || len(l) != 2 || !sameWord(l[0], a) || !sameWord(l[1], b)
}

func sameWord(a Token, b Token) bool {
	a.At, b.At = 0, 0
	return a == b
}

// wordAhead tells the token that begins s and how many bytes it has; 0 where none that is good begins there.
func wordAhead(s string) (Token, int) {
	if n := runAhead(s, isDigit); n > 0 {
		return numberWord(s[:n])
	}
	if n := runAhead(s, isLetter); n > 0 {
		return nameWord(s[:n])
	}
	sign := signAhead(s)
	if sign == "" {
		return Token{}, 0
	}
	return Token{Kind: TokSign, Text: sign}, len(sign)
}

func numberWord(digits string) (Token, int) {
	if len(digits) > maxDigits || digits[0] == '0' && len(digits) > 1 {
		return Token{}, 0
	}
	num := 0
	for _, r := range digits {
		num = num*10 + int(r-'0')
	}
	return Token{Kind: TokNumber, Num: num}, len(digits)
}

// nameWord copies the letters: a token shares no memory with the text that it was read from.
func nameWord(letters string) (Token, int) {
	if len(letters) > maxLetters {
		return Token{}, 0
	}
	return Token{Kind: TokName, Text: strings.Clone(letters)}, len(letters)
}

func signAhead(s string) string {
	longest := ""
	for _, sign := range SignsOf() {
		if len(sign) > len(longest) && strings.HasPrefix(s, sign) {
			longest = sign
		}
	}
	return longest
}

// runAhead counts the bytes ahead of the first rune that does not fit; a rune that fits is to be one byte.
func runAhead(s string, fits func(rune) bool) int {
	for i, r := range s {
		if !fits(r) {
			return i
		}
	}
	return len(s)
}

func isBlank(r rune) bool {
	return r == ' ' || r == '\n'
}

func isDigit(r rune) bool {
	return r >= '0' && r <= '9'
}

func isLetter(r rune) bool {
	return r >= 'a' && r <= 'z'
}

func isName(s string) bool {
	return s != "" && len(s) <= maxLetters && runAhead(s, isLetter) == len(s)
}

func isSign(s string) bool {
	return s != "" && signAhead(s) == s
}
