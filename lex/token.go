package lex

import (
	"strconv"
	"strings"

	"ostiary/api"
)

// How many bytes a word and how many digits a number has at most.
const (
	mostWord   = 16
	mostDigits = 6
)

// pass: the first place from at on that is not blank.
func pass(s string, at int) int {
	remark := false
	for ; at < len(s); at++ {
		switch s[at] {
		case ' ', '\t', '\r':
		case '\n':
			remark = false
		case '#':
			remark = true
		default:
			if !remark {
				return at
			}
		}
	}
	return at
}

// tokenAt takes places that are not blank alone. A text that is told is a copy, so that it holds on to none that was handed in.
func tokenAt(s string, at int) (Token, api.Errno) {
	if n := signLen(s[at:]); n > 0 {
		return Token{Kind: Sign, Text: strings.Clone(s[at : at+n]), At: at}, api.OK
	}
	run := strings.Clone(s[at : at+runLen(s[at:])])
	kind, e := kindOf(run)
	if e != api.OK {
		return Token{}, e
	}
	t := Token{Kind: kind, Text: run, At: at}
	if kind == Number {
		t.Num, _ = strconv.Atoi(run) // so few digits are always one
	}
	return t, api.OK
}

// signLen: how many bytes the sign that s begins with has, 0 if it begins with none.
func signLen(s string) int {
	n := 0
	switch s[0] {
	case '-':
		if strings.HasPrefix(s, "->") {
			n++
		}
		fallthrough
	case '=', ',', ';', '&', '!', ':':
		n++
	}
	return n
}

// runLen: how many bytes the run that s begins with has.
func runLen(s string) int {
	n := 0
	for n < len(s) && (letter(s[n]) || digit(s[n])) {
		n++
	}
	return n
}

// kindOf: what a run is, or why it is no token. A place at which no run begins has an empty one.
func kindOf(run string) (int, api.Errno) {
	switch {
	case run == "":
		return 0, api.ErrSyntax
	case letter(run[0]):
		if len(run) > mostWord {
			return 0, api.ErrLong
		}
		return Word, api.OK
	case !digits(run):
		return 0, api.ErrSyntax
	case len(run) > mostDigits:
		return 0, api.ErrLong
	case run[0] == '0' && run != "0":
		return 0, api.ErrSyntax
	}
	return Number, api.OK
}

func digits(run string) bool {
	for _, r := range []byte(run) {
		if !digit(r) {
			return false
		}
	}
	return true
}

func letter(c byte) bool { return c >= 'a' && c <= 'z' }

func digit(c byte) bool { return c >= '0' && c <= '9' }
