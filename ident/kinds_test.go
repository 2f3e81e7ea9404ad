package ident

import (
	"regexp"
	"strings"
	"testing"

	"agora/api"
)

// plain is a kind of name without parts: its call, its pattern, its greatest length, the letters that it has beside a to z and 0 to 9.
type plain struct {
	what   string
	is     func(string) bool
	form   *regexp.Regexp
	most   int
	others string
}

func plains() []plain {
	return []plain{
		{"Server", Server, serverForm, api.MaxServer, ".-"},
		{"Type", Type, typeForm, api.MaxType, "._"},
		{"localName", localName, localForm, api.MaxLocal, "._-"},
	}
}

// TestPlainTable (4.1): names by hand.
func TestPlainTable(t *testing.T) {
	for _, c := range []struct {
		s            string
		server, kind bool
	}{
		{"s1", true, true},
		{"a", true, true},
		{"z", true, true},
		{"0", true, true},
		{"9", true, true},
		{".", true, true},
		{"-", true, false},
		{"_", false, true},
		{"s-1.x", true, false},
		{"m.room_x.1", false, true},
		{"m.room.member", true, true},
		{"...", true, true},
		{"", false, false},
		{"A", false, false},
		{"Z", false, false},
		{"aA", false, false},
		{"Aa", false, false},
		{"a:b", false, false},
		{"@a", false, false},
		{"a b", false, false},
		{"a,b", false, false},
		{"a/b", false, false},
		{"a-b_c", false, false},
	} {
		if Server(c.s) != c.server || Type(c.s) != c.kind {
			t.Errorf("%q: server %t, type %t", c.s, Server(c.s), Type(c.s))
		}
	}
}

// TestPlainLetters (4.1): every byte alone, first, last and in the midst, so that the ends of each range and their neighbours are there.
func TestPlainLetters(t *testing.T) {
	for _, k := range plains() {
		count := 0
		for _, c := range oneByte() {
			want := k.form.MatchString(c)
			if want {
				count++
			}
			for _, s := range []string{c, c + "a", "a" + c, "a" + c + "a", c + c} {
				if k.is(s) != want {
					t.Errorf("%s(%q): %t", k.what, s, !want)
				}
			}
		}
		if count != 36+len(k.others) {
			t.Errorf("%s: %d letters", k.what, count)
		}
	}
}

// TestPlainEnds (4.1): the letters at the ends of each range, and those just beside them.
func TestPlainEnds(t *testing.T) {
	for _, k := range plains() {
		for _, s := range strings.Split("azmb0918"+k.others, "") {
			if !k.is(s) {
				t.Errorf("%s(%q): false", k.what, s)
			}
		}
		for _, s := range strings.Split("`{/:AZ@[^~,+!$ \n", "") {
			if k.is(s) {
				t.Errorf("%s(%q): true", k.what, s)
			}
		}
	}
}

// TestPlainLengths (4.1): 1 to the greatest length, no more, no fewer, with each wrong letter at each place.
func TestPlainLengths(t *testing.T) {
	for _, k := range plains() {
		for n := range 4 * k.most {
			if k.is(many(n)) != (n >= 1 && n <= k.most) {
				t.Errorf("%s of %d letters: %t", k.what, n, k.is(many(n)))
			}
		}
		for _, other := range strings.Split(k.others+"z09", "") {
			if !k.is(strings.Repeat(other, k.most)) || k.is(strings.Repeat(other, k.most+1)) {
				t.Errorf("%s of %q", k.what, other)
			}
		}
		for at := range k.most {
			if s := many(at) + "A" + many(k.most-at-1); k.is(s) {
				t.Errorf("%s(%q): true", k.what, s)
			}
		}
	}
}

// TestPlainOdd (4.1): letters of several bytes, bytes that are no letters, lines' ends.
func TestPlainOdd(t *testing.T) {
	for _, k := range plains() {
		for _, s := range oddLetters() {
			if k.is(s) {
				t.Errorf("%s(%q): true", k.what, s)
			}
		}
		if k.is(strings.Repeat("é", k.most)) || k.is(strings.Repeat("a", 1<<20)) {
			t.Errorf("%s: true", k.what)
		}
	}
}
