package book

import "patternbook/api"

// reader goes through a text. Once something went wrong it stays bad, so that its callers need not ask at each step; what it answers then is of no use, but it always ends.
type reader struct {
	text string
	at   int
	bad  bool
}

func isSpace(c byte) bool { return c == ' ' || c == '\n' || c == '\t' || c == '\r' }

func isDigit(c byte) bool { return c >= '0' && c <= '9' }

// more is whether there is something behind the spaces, and all went well up to here.
func (r *reader) more() bool {
	r.run(isSpace)
	return !r.bad && r.at < len(r.text)
}

// run goes on as long as bytes are of one sort, and answers them.
func (r *reader) run(of func(byte) bool) string {
	start := r.at
	for r.at < len(r.text) && of(r.text[r.at]) {
		r.at++
	}
	return r.text[start:r.at]
}

func (r *reader) sees(c byte) bool { return r.more() && r.text[r.at] == c }

func (r *reader) seesWord() bool { return r.more() && isLetter(r.text[r.at]) }

func (r *reader) sign(c byte) {
	if !r.sees(c) {
		r.bad = true
		return
	}
	r.at++
}

func (r *reader) word() string {
	if !r.seesWord() {
		r.bad = true
		return ""
	}
	return r.run(isLetter)
}

// number wants the digits right behind the '-', and takes a number only as it would be printed: no nought in front, no -0.
func (r *reader) number() int {
	minus := r.sees('-')
	if minus {
		r.at++
	}
	s := r.run(isDigit)
	n := numberOf(s)
	if s == "" || s[0] == '0' && (minus || len(s) > 1) || n > api.MaxNumber {
		r.bad = true
		return 0
	}
	if minus {
		return -n
	}
	return n
}

// numberOf is the number of digits; of too many of them only that it is too great.
func numberOf(s string) int {
	n := 0
	for i := range len(s) {
		if n <= api.MaxNumber {
			n = n*10 + int(s[i]-'0')
		}
	}
	return n
}
