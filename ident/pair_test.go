package ident

import (
	"strings"
	"testing"

	"agora/api"
)

// pair is users' or rooms' calls, with the sign ahead.
type pair struct {
	what, sign string
	take       taker
	make       func(local, server string) (string, api.Errno)
}

func pairs() []pair {
	return []pair{
		{"User", "@", User, MakeUser},
		{"Room", "!", Room, MakeRoom},
	}
}

// TestTakeRight (4.1): names that are taken apart, and their home.
func TestTakeRight(t *testing.T) {
	for _, p := range pairs() {
		for _, c := range [][2]string{
			{"ann", "s1"},
			{"r", "s2"},
			{"a", "b"},
			{"0", "9"},
			{"ann_1", "s-1.x"},
			{"_", "-"},
			{".", "."},
			{"-", "."},
			{"s1", "s1"},
			{many(api.MaxLocal), "b"},
			{"b", many(api.MaxServer)},
			{many(api.MaxLocal), many(api.MaxServer)},
			{strings.Repeat("_", api.MaxLocal), strings.Repeat("-", api.MaxServer)},
		} {
			s := p.sign + c[0] + ":" + c[1]
			takes(t, p.what, p.take, s, c[0], c[1], true)
			if Home(s) != c[1] {
				t.Errorf("Home(%q): %q", s, Home(s))
			}
		}
	}
}

// TestTakeWrong (4.1, 4.2): what is no user and no room has no parts and no home.
func TestTakeWrong(t *testing.T) {
	for _, sign := range []string{"@", "!"} {
		for _, rest := range []string{
			"", ":", "a", "a:", ":b", "::", "a::b", ":a:b", "a:b:", "a:b:c", "ab",
			"A:b", "Ann:s1", "a:B", "a:s_1", "a b:c", "a:b c", " a:b", "a: b", "a :b", "a:b ", "a:b\n",
			"@a:b", "!a:b", "a@b:c", "a:@b", "a:!b", "$a:b",
			"é:b", "a:é", "a\xff:b", "a:\xff", "a\x00:b", "a;b", "a：b",
			many(api.MaxLocal+1) + ":b", "b:" + many(api.MaxServer+1),
			many(api.MaxLocal) + "b", many(api.MaxLocal + api.MaxServer), many(1 << 16),
		} {
			nobody(t, sign+rest)
		}
	}
	for _, sign := range []string{"", "$", "#", "+", "A", "?", " ", "\x20", "\"", "`", "a@", "a!", " @", " !", "@@", "@!", "!@", "!!", "\x00@"} {
		for _, rest := range []string{"a:b", "ann:s1", ""} {
			nobody(t, sign+rest)
		}
	}
}

// nobody holds that s is neither a user nor a room.
func nobody(t *testing.T, s string) {
	t.Helper()
	takes(t, "User", User, s, "", "", false)
	takes(t, "Room", Room, s, "", "", false)
	if Home(s) != "" {
		t.Errorf("Home(%q): %q", s, Home(s))
	}
}

// TestTakeOther (4.1): no user is a room, no room a user; an event, a server, a type are neither.
func TestTakeOther(t *testing.T) {
	takes(t, "User", User, "!a:b", "", "", false)
	takes(t, "Room", Room, "@a:b", "", "", false)
	for _, s := range []string{"$AAAAAAAAAAE", "s1", "m.room.name"} {
		nobody(t, s)
	}
}

// TestTakeBytes (4.1): every byte at every place of a name, held against the pattern.
func TestTakeBytes(t *testing.T) {
	for _, whole := range []string{"@a_:b-", "!a_:b-", "@a:b", "!::-"} {
		for at := range len(whole) {
			for _, c := range oneByte() {
				held(t, whole[:at]+c+whole[at+1:])
				held(t, whole[:at]+c+whole[at:])
			}
			held(t, whole[:at]+whole[at+1:])
		}
	}
}

// held holds all that is told of s against the pattern.
func held(t *testing.T, s string) {
	t.Helper()
	sign, local, server := "", "", ""
	if m := pairForm.FindStringSubmatch(s); m != nil {
		sign, local, server = m[1], m[2], m[3]
	}
	for _, p := range pairs() {
		if p.sign == sign {
			takes(t, p.what, p.take, s, local, server, true)
		} else {
			takes(t, p.what, p.take, s, "", "", false)
		}
	}
	if Home(s) != server {
		t.Errorf("Home(%q): %q, not %q", s, Home(s), server)
	}
}

// TestMakeRight (4.2): what is made of two names.
func TestMakeRight(t *testing.T) {
	if s, err := MakeUser("ann", "s1"); s != "@ann:s1" || err != api.OK {
		t.Errorf("%q, error %d", s, err)
	}
	if s, err := MakeRoom("r", "s2"); s != "!r:s2" || err != api.OK {
		t.Errorf("%q, error %d", s, err)
	}
	for _, p := range pairs() {
		for _, n := range []int{1, 2, 31, 32} {
			for _, m := range []int{1, 2, 31, 32} {
				s, err := p.make(many(n), many(m))
				if s != p.sign+many(n)+":"+many(m) || err != api.OK {
					t.Errorf("%s of %d and %d letters: %q, error %d", p.what, n, m, s, err)
				}
			}
		}
	}
}

// TestMakeWrong (4.2): ErrArg, if the first, the second or both are no such names.
func TestMakeWrong(t *testing.T) {
	wrong := append(oddLetters(), "A", "aA", "a:b", ":", "@", "@a", "!a", "a:", ":a", "/", "`", "{", "[", many(33), many(1000))
	for _, p := range pairs() {
		for _, w := range wrong {
			for _, c := range [][2]string{{w, "s1"}, {"ann", w}, {w, w}} {
				if s, err := p.make(c[0], c[1]); s != "" || err != api.ErrArg {
					t.Errorf("%s of %q: %q, error %d", p.what, c, s, err)
				}
			}
		}
		if s, err := p.make("a_b", "a_b"); s != "" || err != api.ErrArg {
			t.Errorf("%s: a server with _: %q, error %d", p.what, s, err)
		}
	}
}

// TestMakeBytes (4.2): every byte in either name, held against the patterns.
func TestMakeBytes(t *testing.T) {
	for _, p := range pairs() {
		for _, c := range oneByte() {
			for _, names := range [][2]string{{c, "b"}, {"a" + c + "a", "b"}, {"a", c}, {"a", "b" + c + "b"}} {
				want, fault := p.sign+names[0]+":"+names[1], api.OK
				if !localForm.MatchString(names[0]) || !serverForm.MatchString(names[1]) {
					want, fault = "", api.ErrArg
				}
				if s, err := p.make(names[0], names[1]); s != want || err != fault {
					t.Errorf("%s of %q: %q, error %d", p.what, names, s, err)
				}
			}
		}
	}
}

// TestHome (4.2): the chapter's example, and what has none.
func TestHome(t *testing.T) {
	for s, want := range map[string]string{
		"!r:s2": "s2", "@ann:s1": "s1", "@a:a.b-c": "a.b-c",
		"": "", "s1": "", "r:s2": "", "$AAAAAAAAAAE": "", "#r:s2": "", "@:s1": "", "!R:s2": "", "@a:": "", "@a:b:c": "",
	} {
		if Home(s) != want {
			t.Errorf("Home(%q): %q", s, Home(s))
		}
	}
}
