package ident

import (
	"math/rand"
	"testing"
)

// TestAllTexts (R1, R5): every call ends at all texts and tells the same twice, and what it tells is what the patterns tell.
func TestAllTexts(t *testing.T) {
	r := rand.New(rand.NewSource(5))
	for range 5000 {
		b := make([]byte, r.Intn(80))
		r.Read(b)
		if len(b) > 0 && r.Intn(2) == 0 {
			b[0] = "@!$"[r.Intn(3)]
		}
		s := string(b)
		for range 2 {
			if Server(s) != serverForm.MatchString(s) || Type(s) != typeForm.MatchString(s) || Event(s) != eventForm(s) {
				t.Errorf("%q: %t, %t, %t", s, Server(s), Type(s), Event(s))
			}
			held(t, s)
		}
	}
}

// TestShortTexts (R1): all texts of four bytes out of those that matter.
func TestShortTexts(t *testing.T) {
	letters := "@!$:aAz0._-\xff"
	for i := range letters {
		for j := range letters {
			for k := range letters {
				for l := range letters {
					held(t, string([]byte{letters[i], letters[j], letters[k], letters[l]}))
				}
			}
		}
	}
}

// TestZeroBeside (R2): beside a false or an error everything is zero, also where one part alone is right.
func TestZeroBeside(t *testing.T) {
	for _, s := range []string{"@ann:S1", "@Ann:s1", "!r:", "!:s1", "@ann:s1:", "@ann"} {
		nobody(t, s)
	}
	for _, p := range pairs() {
		for _, c := range [][2]string{{"ann", ""}, {"", "s1"}, {"", ""}} {
			if s, err := p.make(c[0], c[1]); s != "" || err == 0 {
				t.Errorf("%s of %q: %q, error %d", p.what, c, s, err)
			}
		}
	}
}
