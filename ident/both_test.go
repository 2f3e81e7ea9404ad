package ident

import (
	"math/rand"
	"testing"

	"agora/api"
)

// chanceName tells a text by chance, mostly of letters that names have.
func chanceName(r *rand.Rand, most int) string {
	letters := "abz019._-"
	if r.Intn(4) == 0 {
		letters += ":@!$A\xc3"
	}
	b := make([]byte, r.Intn(most+2))
	for i := range b {
		b[i] = letters[r.Intn(len(letters))]
	}
	return string(b)
}

// TestApartAgain (4.3): what is made is taken apart as it was, by its own call alone.
func TestApartAgain(t *testing.T) {
	r := rand.New(rand.NewSource(43))
	made := 0
	for range 4000 {
		local, server := chanceName(r, api.MaxLocal), chanceName(r, api.MaxServer)
		for i, p := range pairs() {
			s, err := p.make(local, server)
			if err != api.OK {
				continue
			}
			made++
			takes(t, p.what, p.take, s, local, server, true)
			other := pairs()[1-i]
			takes(t, other.what, other.take, s, "", "", false)
			if Home(s) != server {
				t.Errorf("Home(%q): %q", s, Home(s))
			}
		}
	}
	if made < 1000 {
		t.Errorf("only %d were made", made)
	}
}

// TestMadeAgain (4.3): what is taken apart is made again of its parts.
func TestMadeAgain(t *testing.T) {
	r := rand.New(rand.NewSource(44))
	taken := 0
	for range 20000 {
		s := "@!"[r.Intn(2):][:1] + chanceName(r, 3) + ":" + chanceName(r, 3)
		held(t, s)
		for _, p := range pairs() {
			local, server, ok := p.take(s)
			if !ok {
				continue
			}
			taken++
			if again, err := p.make(local, server); again != s || err != api.OK {
				t.Errorf("%q of %q became %q, error %d", s, []string{local, server}, again, err)
			}
		}
	}
	if taken < 1000 {
		t.Errorf("only %d were taken apart", taken)
	}
}

// TestSameParts (4.3): two names are the same just if their parts and their kinds are.
func TestSameParts(t *testing.T) {
	parts := []string{"a", "b", "ab", "aa", "ba", "a.b", "a-b", ".", "-", "a.", ".a", "0", "a0"}
	of := map[string][3]string{}
	for _, p := range pairs() {
		for _, local := range append(parts, "_", "a_b") {
			for _, server := range parts {
				s, err := p.make(local, server)
				now := [3]string{p.what, local, server}
				if was, stood := of[s]; err != api.OK || stood {
					t.Errorf("%q: error %d, made of %q and of %q", s, err, was, now)
				}
				of[s] = now
			}
		}
	}
}

// TestOneKind (4.3): no text is a name of two kinds with a sign.
func TestOneKind(t *testing.T) {
	for _, s := range []string{"@a:b", "!a:b", "$AAAAAAAAAAE", "@AAAAAAAAAAE", "s1", "a.b"} {
		_, _, user := User(s)
		_, _, room := Room(s)
		kinds := 0
		for _, is := range []bool{user, room, Event(s), Server(s) || Type(s)} {
			if is {
				kinds++
			}
		}
		if kinds > 1 {
			t.Errorf("%q is of %d kinds", s, kinds)
		}
	}
}
