package oracle

import (
	"slices"
	"strconv"
	"strings"
	"testing"

	"agora/api"
)

// TestNew (3.1): names of any letters, from none up to MaxServers.
func TestNew(t *testing.T) {
	for _, l := range [][]string{nil, {}, {""}, {"a"}, {"a", "b"}, {"b", "a"}, {"a", "A", "a "}, {"", "\xff", "\x00"}, names(api.MaxServers)} {
		o := mustNew(t, l...)
		if !slices.Equal(o.Servers(), l) {
			t.Errorf("%q: servers %q", l, o.Servers())
		}
		counts(t, o, 0, 0)
	}
}

// TestNewWrong (3.1): a name that stands twice, wherever; more than MaxServers.
func TestNewWrong(t *testing.T) {
	wrong := [][]string{{"a", "a"}, {"", ""}, {"a", "b", "a"}, {"a", "b", "b"}, {"a", "a", "b"}, {"a", "b", "c", "b"}}
	wrong = append(wrong, names(api.MaxServers+1), names(1000), make([]string, api.MaxServers+1))
	most := names(api.MaxServers)
	most[api.MaxServers-1] = most[0]
	wrong = append(wrong, most)
	for _, l := range wrong {
		if o, err := New(l); err != api.ErrArg || o != nil {
			t.Errorf("%q: error %d, table %v", l, err, o)
		}
	}
}

// TestDigest (3.1): texts are numbered as they come; one that was there keeps its number.
func TestDigest(t *testing.T) {
	o := mustNew(t, "a")
	for i, c := range []struct {
		text, digest string
		texts        int
	}{
		{"x", "AAAAAAAAAAE", 1},
		{"x", "AAAAAAAAAAE", 1},
		{"y", "AAAAAAAAAAI", 2},
		{"x", "AAAAAAAAAAE", 2},
		{"", "AAAAAAAAAAM", 3},
		{"X", "AAAAAAAAAAQ", 4},
		{"x\x00", "AAAAAAAAAAU", 5},
		{"\xff\xfe", "AAAAAAAAAAY", 6},
		{"\xef\xbf\xbd", "AAAAAAAAAAc", 7},
		{"AAAAAAAAAAE", "AAAAAAAAAAg", 8},
		{strings.Repeat("x", 1<<16), "AAAAAAAAAAk", 9},
		{"", "AAAAAAAAAAM", 9},
		{"y", "AAAAAAAAAAI", 9},
	} {
		if got := o.Digest([]byte(c.text)); got != c.digest {
			t.Errorf("%d: digest %q, not %q", i, got, c.digest)
		}
		counts(t, o, c.texts, 0)
	}
}

// TestDigestNoServers (3.1): a table of no servers has digests all the same.
func TestDigestNoServers(t *testing.T) {
	o := mustNew(t)
	if d := o.Digest(nil); d != "AAAAAAAAAAE" {
		t.Errorf("digest %q", d)
	}
	counts(t, o, 1, 0)
}

// TestManyDigests (3.1): the numbers' bytes, the highest first.
func TestManyDigests(t *testing.T) {
	o := mustNew(t, "a")
	for n := 1; n <= 1<<16+300; n++ {
		if got := o.Digest([]byte(strconv.Itoa(n))); got != lettersOf(n) {
			t.Fatalf("%d: digest %q, not %q", n, got, lettersOf(n))
		}
	}
	counts(t, o, 1<<16+300, 0)
	if o.Digest([]byte("256")) != "AAAAAAAAAQA" || o.Digest([]byte("65536")) != "AAAAAAABAAA" {
		t.Errorf("digests %q, %q", o.Digest([]byte("256")), o.Digest([]byte("65536")))
	}
}

// TestLetters (3.1): each of the eight bytes has its place.
func TestLetters(t *testing.T) {
	for i := range 63 {
		for _, n := range []int{1 << i, 1<<i - 1, 1<<i | 1} {
			if got := letters(n); got != lettersOf(n) {
				t.Errorf("%d: %q, not %q", n, got, lettersOf(n))
			}
		}
	}
}

// TestTables (3.1): tables know nothing of each other.
func TestTables(t *testing.T) {
	a, b := mustNew(t, "a"), mustNew(t, "a")
	a.Digest([]byte("x"))
	mustSign(t, a, "a", "x")
	counts(t, b, 0, 0)
	if b.Verify("a", []byte("x"), "AAAAAAAAAAE") || b.Digest([]byte("y")) != "AAAAAAAAAAE" || mustSign(t, b, "a", "y") != "AAAAAAAAAAE" {
		t.Error("the other table's")
	}
}
