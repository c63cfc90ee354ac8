package lex_test

import (
	"math/rand"
	"regexp"
	"slices"
	"strconv"
	"strings"
	"testing"

	"ostiary/api"
	"ostiary/lex"
)

// What is blank, what a run is, and which signs there are.
var (
	blank  = regexp.MustCompile(`^(?:[ \t\n\r]|#[^\n]*(?:\n|$))+`)
	run    = regexp.MustCompile(`^[a-z0-9]+`)
	aWord  = regexp.MustCompile(`^[a-z]`)
	digits = regexp.MustCompile(`^[0-9]+$`)
	aNum   = regexp.MustCompile(`^(?:0|[1-9][0-9]*)$`)
	aSign  = regexp.MustCompile(`^(?:->|[=,;&!:-])`)
)

// model is Split, as the chapter tells it.
func model(s string) ([]lex.Token, int, api.Errno) {
	if len(s) > 4096 {
		return nil, 0, api.ErrLong
	}
	var l []lex.Token
	for at := 0; ; {
		at += len(blank.FindString(s[at:]))
		if at == len(s) {
			return l, 0, api.OK
		}
		text, token := run.FindString(s[at:]), lex.Token{At: at}
		switch {
		case aWord.MatchString(text) && len(text) > 16, digits.MatchString(text) && len(text) > 6:
			return nil, at, api.ErrLong
		case aWord.MatchString(text):
			token.Kind, token.Text = lex.Word, text
		case aNum.MatchString(text):
			token.Kind, token.Text = lex.Number, text
			token.Num, _ = strconv.Atoi(text)
		case aSign.MatchString(s[at:]):
			token.Kind, token.Text = lex.Sign, aSign.FindString(s[at:])
		default:
			return nil, at, api.ErrSyntax
		}
		l = append(l, token)
		at += len(token.Text)
	}
}

func isAsTheModel(t *testing.T, s string) {
	t.Helper()
	l, at, e := lex.Split(s)
	want, place, why := model(s)
	if !slices.Equal(l, want) || at != place || e != why {
		t.Errorf("Split of %q: %v, %d, %d; not %v, %d, %d", s, l, at, e, want, place, why)
	}
}

// All texts of up to five of these signs.
func TestAllShortTexts(t *testing.T) {
	texts := []string{""}
	for range 5 {
		var longer []string
		for _, s := range texts {
			isAsTheModel(t, s)
			for _, c := range "a01-># \n" {
				longer = append(longer, s+string(c))
			}
		}
		texts = longer
	}
	for _, s := range texts {
		isAsTheModel(t, s)
	}
}

// parts are such that texts are made of; what of each one is a token, or is none, is the model's.
var parts = []string{"a", "z9", "ann", "group", "allow", "0", "1", "80", "65535", "999999", "1234567", "01", "1a", "-", "->", ">", "=", ",", ";", "&", "!", ":",
	" ", "\t", "\n", "\r", "#", "# a\n", "#;\r", "A", "\xff", "ä", "\x00", "abcdefghijklmnop", "abcdefghijklmnopq"}

// most of them are such that may stand in a policy.
func chance(rnd *rand.Rand, n int) string {
	var b strings.Builder
	for range n {
		p := parts[rnd.Intn(len(parts))]
		if _, _, e := model(p); e != api.OK && rnd.Intn(40) > 0 {
			p = " "
		}
		b.WriteString(p)
	}
	return b.String()
}

func TestTextsByChance(t *testing.T) {
	rnd := rand.New(rand.NewSource(1))
	for range 20000 {
		isAsTheModel(t, chance(rnd, rnd.Intn(40)))
	}
	for range 20000 {
		b := make([]byte, rnd.Intn(20))
		rnd.Read(b)
		isAsTheModel(t, string(b))
	}
	for range 50 {
		isAsTheModel(t, chance(rnd, 2000+rnd.Intn(1000)))
	}
}

// P12.2.

func TestTwoTexts(t *testing.T) {
	rnd := rand.New(rand.NewSource(2))
	for range 20000 {
		a, b := chance(rnd, rnd.Intn(10)), chance(rnd, rnd.Intn(10))
		blank := []string{" ", "\t", "\n", "\r", "#x\n"}[rnd.Intn(5)]
		if strings.Contains(a, "#") { // its last line may be a remark: only a line's end is behind that
			blank = "\n"
		}
		x, atX, e := lex.Split(a)
		y, atY, f := lex.Split(b)
		if e != api.OK {
			refuses(t, a+blank+b, atX, e)
			continue
		}
		moved := len(a) + len(blank)
		if f != api.OK {
			refuses(t, a+blank+b, moved+atY, f)
			continue
		}
		for _, token := range y {
			token.At += moved
			x = append(x, token)
		}
		splits(t, a+blank+b, x...)
	}
}

// P12.3.

// loose are tokens without their places.
func loose(l []lex.Token) []lex.Token {
	l = slices.Clone(l)
	for i := range l {
		l[i].At = 0
	}
	return l
}

func TestBlanksPlayNoPart(t *testing.T) {
	rnd := rand.New(rand.NewSource(3))
	blanks := []string{" ", "\n", "\t", "\r", "  ", "\r\n", "# a -> b;\n", "#\xff\n", " \n#\n "}
	for range 20000 {
		l, _, e := lex.Split(chance(rnd, rnd.Intn(12)))
		if e != api.OK {
			continue
		}
		s := blanks[rnd.Intn(len(blanks))]
		for _, token := range l {
			s += token.Text + blanks[rnd.Intn(len(blanks))]
		}
		other, at, e := lex.Split(s)
		if !slices.Equal(loose(l), loose(other)) || at != 0 || e != api.OK {
			t.Fatalf("Split of %q: %v, %d, %d; not %v", s, other, at, e, l)
		}
		for _, token := range other {
			if s[token.At:token.At+len(token.Text)] != token.Text {
				t.Errorf("%q: %v", s, token)
			}
		}
	}
}

// Without a blank two tokens may be one: a blank keeps them apart.
func TestBlanksKeepTokensApart(t *testing.T) {
	for _, c := range []struct {
		s           string
		with, apart int
	}{{"a|b", 1, 2}, {"1|2", 1, 2}, {"a|1", 1, 2}, {"-|-", 2, 2}, {"a|;", 2, 2}, {"->|-", 2, 2}, {"-|->", 2, 2}} {
		for _, blank := range []string{"", " ", "\n", "\t", "\r", "#\n"} {
			want := c.apart
			if blank == "" {
				want = c.with
			}
			s := strings.Replace(c.s, "|", blank, 1)
			if l, _, e := lex.Split(s); len(l) != want || e != api.OK {
				t.Errorf("Split of %q: %v, %d", s, l, e)
			}
		}
	}
}
