package ident

import (
	"encoding/base64"
	"math/rand"
	"strings"
	"testing"

	"agora/base"
)

// TestEventTable (4.1): events' names by hand.
func TestEventTable(t *testing.T) {
	for s, want := range map[string]bool{
		"$AAAAAAAAAAE":    true,
		"$AAAAAAAAAAA":    true,
		"$//////////8":    true,
		"$++++++++++8":    true,
		"$azAZ09+/azA":    true,
		"$AAAAAAAAAAF":    false, // a bit that no byte has
		"$AAAAAAAAAAB":    false,
		"$AAAAAAAAAA/":    false,
		"$AAAAAAAAAA":     false, // ten letters
		"$AAAAAAAAAAAA":   false, // twelve letters: nine bytes
		"$AAAAAAAAAAE=":   false,
		"$AAAAAAAAAA=":    false,
		"$AAAAAAAA-AE":    false,
		"$AAAAAAAA_AE":    false,
		"$AAAA AAAAAE":    false,
		"$AAAAAAAAA\nE":   false,
		"$AAAAAAAAAéE":    false,
		"$AAAAAAAA\xffAE": false,
		"AAAAAAAAAAE":     false, // no sign
		"AAAAAAAAAAAE":    false,
		"@AAAAAAAAAAE":    false, // another sign
		"!AAAAAAAAAAE":    false,
		"#AAAAAAAAAAE":    false,
		"%AAAAAAAAAAE":    false,
		"$$AAAAAAAAAAE":   false,
		"$$AAAAAAAAAE":    false,
		" $AAAAAAAAAAE":   false,
		"AAAAAAAAAAE$":    false,
		"$AAAAAAAAAAE ":   false,
		"$AAAAAAAAAAE$":   false,
		"":                false,
		"$":               false,
		"$AAAAAAAAAAE:s":  false,
	} {
		if Event(s) != want {
			t.Errorf("Event(%q): %t", s, !want)
		}
	}
}

// TestEventBytes (4.1): every byte at every place, ahead too, held against Go's own base64 and against Decode.
func TestEventBytes(t *testing.T) {
	for _, whole := range []string{"$AAAAAAAAAAE", "$azAZ09+/azA"} {
		for at := range len(whole) {
			for c := range 256 {
				b := []byte(whole)
				b[at] = byte(c)
				s := string(b)
				if Event(s) != eventForm(s) {
					t.Errorf("Event(%q): %t", s, Event(s))
				}
				told, err, _ := base.Decode(s[1:])
				if Event(s) != (s[0] == '$' && err == 0 && len(told) == 8) {
					t.Errorf("Event(%q): %t, but Decode tells %v, error %d", s, Event(s), told, err)
				}
			}
		}
	}
}

// TestEventLengths (4.1): just the letters of eight bytes, of all that Decode tells.
func TestEventLengths(t *testing.T) {
	for n := range 40 {
		if s := "$" + strings.Repeat("A", n); Event(s) != (n == 11) {
			t.Errorf("Event(%q): %t", s, Event(s))
		}
		if s := "$" + base.Encode(make([]byte, n)); Event(s) != (n == 8) {
			t.Errorf("Event(%q): %t", s, Event(s))
		}
	}
	if Event("$" + strings.Repeat("A", 1<<20)) {
		t.Error("a long text is an event's name")
	}
}

// TestEventChance (4.1): eight bytes by chance have an event's name.
func TestEventChance(t *testing.T) {
	r := rand.New(rand.NewSource(4))
	for range 2000 {
		b := make([]byte, 8)
		r.Read(b)
		letters := base64.RawStdEncoding.EncodeToString(b)
		if !Event("$"+letters) || Event(letters) || Event("@"+letters) || Event("$"+letters[:10]) || Event("$"+letters+"A") {
			t.Errorf("%q", letters)
		}
	}
}
