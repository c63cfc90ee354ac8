package lex_test

import (
	"slices"
	"strings"
	"testing"

	"ostiary/api"
	"ostiary/lex"
)

func word(text string, at int) lex.Token { return lex.Token{Kind: lex.Word, Text: text, At: at} }

func sign(text string, at int) lex.Token { return lex.Token{Kind: lex.Sign, Text: text, At: at} }

func number(text string, num, at int) lex.Token {
	return lex.Token{Kind: lex.Number, Text: text, Num: num, At: at}
}

// short tells the beginning of a text.
func short(s string) string {
	if len(s) > 60 {
		return s[:60] + ".."
	}
	return s
}

func splits(t *testing.T, s string, want ...lex.Token) {
	t.Helper()
	if l, at, e := lex.Split(s); !slices.Equal(l, want) || at != 0 || e != api.OK {
		t.Errorf("Split of %q: %v, %d, %d; not %v", short(s), l, at, e, want)
	}
}

func refuses(t *testing.T, s string, place int, want api.Errno) {
	t.Helper()
	if l, at, e := lex.Split(s); len(l) != 0 || at != place || e != want {
		t.Errorf("Split of %q: %v, %d, %d; not %d, %d", short(s), l, at, e, place, want)
	}
}

func TestExample(t *testing.T) {
	splits(t, "via 3: a->b;",
		word("via", 0), number("3", 3, 4), sign(":", 5), word("a", 7), sign("->", 8), word("b", 10), sign(";", 11))
}

func TestKindsAreNumbered(t *testing.T) {
	if lex.Word != 1 || lex.Number != 2 || lex.Sign != 3 {
		t.Error(lex.Word, lex.Number, lex.Sign)
	}
}

// P12.1: Split.

func TestAWholePolicy(t *testing.T) {
	splits(t, "group g=a,b; # of two\nallow:g->!c & d tcp port 80-443;",
		word("group", 0), word("g", 6), sign("=", 7), word("a", 8), sign(",", 9), word("b", 10), sign(";", 11),
		word("allow", 22), sign(":", 27), word("g", 28), sign("->", 29), sign("!", 31), word("c", 32), sign("&", 34), word("d", 36),
		word("tcp", 38), word("port", 42), number("80", 80, 47), sign("-", 49), number("443", 443, 50), sign(";", 53))
}

func TestNothing(t *testing.T) {
	for _, s := range []string{"", " ", "\t", "\n", "\r", "\r\n \t", "#", "##", "# ", "#\n", "#a", "#A\xff\x00>\n", " # a -> b; ", "\n\n#\r#\n\t#"} {
		splits(t, s)
	}
}

// Each byte alone, and each one beside a word, a number and a sign.
func TestEachByte(t *testing.T) {
	for c := range 256 {
		s := string([]byte{byte(c)})
		switch {
		case strings.Contains(" \t\n\r", s):
			splits(t, s)
			splits(t, "a"+s+"1", word("a", 0), number("1", 1, 2))
			splits(t, "1"+s+"a", number("1", 1, 0), word("a", 2))
			splits(t, "-"+s+"-", sign("-", 0), sign("-", 2))
		case s == "#":
			splits(t, s)
			splits(t, "a"+s+"1", word("a", 0))
			splits(t, "1"+s+"a", number("1", 1, 0))
			splits(t, "-"+s+">", sign("-", 0))
		case c >= 'a' && c <= 'z':
			splits(t, s, word(s, 0))
			splits(t, "a"+s+"1", word("a"+s+"1", 0))
			refuses(t, "1"+s+"a", 0, api.ErrSyntax)
			splits(t, "-"+s+"-", sign("-", 0), word(s, 1), sign("-", 2))
		case c >= '0' && c <= '9':
			splits(t, s, number(s, c-'0', 0))
			splits(t, "a"+s+"1", word("a"+s+"1", 0))
			refuses(t, "1"+s+"a", 0, api.ErrSyntax)
			splits(t, "1"+s, number("1"+s, 10+c-'0', 0))
			splits(t, "-"+s+"-", sign("-", 0), number(s, c-'0', 1), sign("-", 2))
		case strings.Contains("=,;&!:-", s):
			splits(t, s, sign(s, 0))
			splits(t, "a"+s+"1", word("a", 0), sign(s, 1), number("1", 1, 2))
			splits(t, "1"+s+"a", number("1", 1, 0), sign(s, 1), word("a", 2))
			splits(t, "-"+s+"-", sign("-", 0), sign(s, 1), sign("-", 2))
			splits(t, s+s+s, sign(s, 0), sign(s, 1), sign(s, 2))
		default:
			refuses(t, s, 0, api.ErrSyntax)
			refuses(t, "a"+s+"1", 1, api.ErrSyntax)
			refuses(t, "1"+s+"a", 1, api.ErrSyntax)
			refuses(t, " a,"+s, 3, api.ErrSyntax)
			splits(t, "a#"+s+"\nb", word("a", 0), word("b", 4))
			if s == ">" {
				splits(t, "-"+s+"-", sign("->", 0), sign("-", 2))
			} else {
				refuses(t, "-"+s+"-", 1, api.ErrSyntax)
			}
		}
	}
}

func TestTheTwoSignsThatBeginAlike(t *testing.T) {
	splits(t, "-", sign("-", 0))
	splits(t, "->", sign("->", 0))
	splits(t, "-->", sign("-", 0), sign("->", 1))
	splits(t, "->-", sign("->", 0), sign("-", 2))
	splits(t, "->->", sign("->", 0), sign("->", 2))
	splits(t, "---", sign("-", 0), sign("-", 1), sign("-", 2))
	splits(t, "a-b", word("a", 0), sign("-", 1), word("b", 2))
	splits(t, "a->b", word("a", 0), sign("->", 1), word("b", 3))
	splits(t, "-=", sign("-", 0), sign("=", 1))
	splits(t, "-#>\n", sign("-", 0))
	for _, s := range []string{"->>", "- >", "-\n>", "-#\n>", "->->>", ",->>", "=>", ":>", "&&>"} {
		refuses(t, s, len(s)-1, api.ErrSyntax)
	}
	refuses(t, ">", 0, api.ErrSyntax)
	refuses(t, ">-", 0, api.ErrSyntax)
}

func TestWordsOfEachLength(t *testing.T) {
	for n := 1; n < 300; n++ {
		for _, s := range []string{strings.Repeat("a", n), strings.Repeat("z", n), "a" + strings.Repeat("0", n-1), "q" + strings.Repeat("x9", n)[:n-1]} {
			if n <= 16 {
				splits(t, s, word(s, 0))
				splits(t, ";"+s+";", sign(";", 0), word(s, 1), sign(";", 1+n))
			} else {
				refuses(t, s, 0, api.ErrLong)
				refuses(t, "; "+s+" A", 2, api.ErrLong)
			}
		}
	}
}

func TestNumbersOfEachLength(t *testing.T) {
	for n := 1; n < 300; n++ {
		for _, c := range []string{"1", "9"} {
			s := strings.Repeat(c, n)
			if n <= 6 {
				num := 0
				for range n {
					num = 10*num + int(c[0]-'0')
				}
				splits(t, s, number(s, num, 0))
				splits(t, "a,"+s+"-", word("a", 0), sign(",", 1), number(s, num, 2), sign("-", 2+n))
			} else {
				refuses(t, s, 0, api.ErrLong)
				refuses(t, "a,"+s+"-", 2, api.ErrLong)
			}
		}
		zeros := strings.Repeat("0", n) // too long counts, whatever the digits are
		switch {
		case n == 1:
			splits(t, zeros, number("0", 0, 0))
		case n <= 6:
			refuses(t, zeros, 0, api.ErrSyntax)
			refuses(t, ","+zeros[1:]+"1", 1, api.ErrSyntax)
		default:
			refuses(t, zeros, 0, api.ErrLong)
			refuses(t, ","+zeros[1:]+"1", 1, api.ErrLong)
		}
	}
}

func TestNumbers(t *testing.T) {
	for s, num := range map[string]int{"0": 0, "1": 1, "7": 7, "10": 10, "80": 80, "100": 100, "65535": 65535, "65536": 65536, "100000": 100000, "102030": 102030, "999999": 999999} {
		splits(t, s, number(s, num, 0))
	}
	splits(t, "0,0", number("0", 0, 0), sign(",", 1), number("0", 0, 2))
	splits(t, "0 1", number("0", 0, 0), number("1", 1, 2))
	splits(t, "1-2", number("1", 1, 0), sign("-", 1), number("2", 2, 2))
	for _, s := range []string{"00", "01", "007", "0123", "000001", "010", "099999"} {
		refuses(t, s, 0, api.ErrSyntax)
		refuses(t, "a:"+s+" A", 2, api.ErrSyntax)
	}
	for _, s := range []string{"1000000", "0000000", "0000001", "1234567", "99999999999999999999", "18446744073709551617"} {
		refuses(t, s, 0, api.ErrLong)
		refuses(t, "a:"+s+" A", 2, api.ErrLong)
	}
}

// A run that begins with a digit and has a letter is too long neither as a word nor as a number.
func TestRunsThatAreNoTokens(t *testing.T) {
	for _, s := range []string{"1a", "0a", "0x1", "12ab34", "123456a", "1234567a", "0000000a", "1aaaaaaaaaaaaaaa", "1aaaaaaaaaaaaaaaa", "1234567890123456z", "12345678901234567z", "9z9", strings.Repeat("7", 300) + "b"} {
		refuses(t, s, 0, api.ErrSyntax)
		refuses(t, "a b "+s+";", 4, api.ErrSyntax)
	}
	splits(t, "a1", word("a1", 0))
	splits(t, "a1b2c3", word("a1b2c3", 0))
	splits(t, "a 1 b", word("a", 0), number("1", 1, 2), word("b", 4))
}

func TestRemarks(t *testing.T) {
	splits(t, "a#b\nc", word("a", 0), word("c", 4))
	splits(t, "a #b\rc\nd", word("a", 0), word("d", 7))
	splits(t, "a#b#c\nd#e", word("a", 0), word("d", 6))
	splits(t, "a#\nb", word("a", 0), word("b", 3))
	splits(t, "#\n#\na", word("a", 4))
	splits(t, "1#2\n3", number("1", 1, 0), number("3", 3, 4))
	splits(t, "# A_ \x00\xff ä 0000000 >\na", word("a", 21))
	splits(t, "a;#"+strings.Repeat("x", 1000), word("a", 0), sign(";", 1))
	refuses(t, "#\n>", 2, api.ErrSyntax)
	refuses(t, "#>\rx\n >#", 6, api.ErrSyntax)
}

// The first place counts, whichever error stands there.
func TestTheFirstPlaceCounts(t *testing.T) {
	long := strings.Repeat("a", 17)
	refuses(t, "a "+long+" A", 2, api.ErrLong)
	refuses(t, "a A "+long, 2, api.ErrSyntax)
	refuses(t, "1234567 01", 0, api.ErrLong)
	refuses(t, "01 1234567", 0, api.ErrSyntax)
	refuses(t, "a\n\n  $ %", 5, api.ErrSyntax)
	refuses(t, "aA", 1, api.ErrSyntax)
	refuses(t, "aaaaaaaaaaaaaaaaA", 16, api.ErrSyntax)
	refuses(t, "ä", 0, api.ErrSyntax)
	refuses(t, "aä", 1, api.ErrSyntax)
	refuses(t, "１", 0, api.ErrSyntax)
	refuses(t, "a\u00a0b", 1, api.ErrSyntax)
	refuses(t, "a\u0085b", 1, api.ErrSyntax)
	refuses(t, "a\vb", 1, api.ErrSyntax)
	refuses(t, "a\fb", 1, api.ErrSyntax)
}

func TestTextsOfEachLength(t *testing.T) {
	for _, n := range []int{4095, 4096} {
		splits(t, strings.Repeat(" ", n))
		splits(t, "#"+strings.Repeat("\xff", n-1))
		splits(t, strings.Repeat("\n", n-1)+"a", word("a", n-1))
		refuses(t, strings.Repeat("a", n), 0, api.ErrLong)
		refuses(t, strings.Repeat(" ", n-1)+"A", n-1, api.ErrSyntax)
		if l, at, e := lex.Split(strings.Repeat(";", n)); len(l) != n || at != 0 || e != api.OK || l[n-1] != sign(";", n-1) {
			t.Error(len(l), at, e)
		}
	}
	for _, n := range []int{4097, 4098, 8192, 65536, 65537, 1 << 20} {
		for _, s := range []string{strings.Repeat(" ", n), strings.Repeat("a", n), strings.Repeat(" a", n)[:n], strings.Repeat(";", n), "A" + strings.Repeat(" ", n-1), strings.Repeat(" ", n-1) + "A", "#" + strings.Repeat("a", n-1), "a 01" + strings.Repeat("\n", n-4)} {
			refuses(t, s, 0, api.ErrLong)
		}
	}
}

// P12.1: Reserved.

func TestReserved(t *testing.T) {
	all := []string{"group", "allow", "deny", "outbound", "via", "any", "tcp", "udp", "ip", "port"}
	for _, s := range all {
		if !lex.Reserved(s) {
			t.Errorf("%q is not", s)
		}
		splits(t, s, word(s, 0))
		near := []string{s[1:], s[:len(s)-1], s + "s", "a" + s, s + " ", " " + s, s + "\x00", s + "1", strings.ToUpper(s), strings.ToUpper(s[:1]) + s[1:], s + s, s + ";"}
		for at := range s {
			near = append(near, s[:at]+"x"+s[at+1:])
		}
		for _, n := range near {
			if lex.Reserved(n) {
				t.Errorf("%q is", n)
			}
		}
	}
	for _, s := range []string{"", " ", "a", "ann", "icmp", "arp", "ports", "groups", "all", "from", "to", "not", "or", "and", "->", "!", "0", "\x00", "groupallow", "group allow", strings.Repeat("group", 1000)} {
		if lex.Reserved(s) {
			t.Errorf("%q is", s)
		}
	}
}

// The rules that hold everywhere.

func TestNoListIsShared(t *testing.T) {
	const s = "allow: a -> b;"
	x, _, _ := lex.Split(s)
	y, _, _ := lex.Split(s)
	was := slices.Clone(y)
	for i := range x {
		x[i] = lex.Token{Text: "no", Num: -1, At: -1}
	}
	_ = append(x[:1], x...)
	z, _, _ := lex.Split(s)
	if !slices.Equal(y, was) || !slices.Equal(z, was) {
		t.Error(y, z)
	}
}
