package oracle

import (
	"strconv"
	"testing"

	"agora/api"
)

// TestSign (3.2): pairs are numbered as they come; one that was there keeps its number.
func TestSign(t *testing.T) {
	o := mustNew(t, "a", "b", "")
	for i, c := range []struct {
		server, text, token string
		tokens              int
	}{
		{"b", "x", "AAAAAAAAAAE", 1},
		{"b", "x", "AAAAAAAAAAE", 1},
		{"a", "x", "AAAAAAAAAAI", 2},
		{"a", "", "AAAAAAAAAAM", 3},
		{"", "a", "AAAAAAAAAAQ", 4},
		{"", "ax", "AAAAAAAAAAU", 5},
		{"", "", "AAAAAAAAAAY", 6},
		{"b", "x", "AAAAAAAAAAE", 6},
		{"a", "x", "AAAAAAAAAAI", 6},
		{"b", "\xff", "AAAAAAAAAAc", 7},
		{"b", "\xfe", "AAAAAAAAAAg", 8},
		{"a", "", "AAAAAAAAAAM", 8},
	} {
		if got := mustSign(t, o, c.server, c.text); got != c.token {
			t.Errorf("%d: token %q, not %q", i, got, c.token)
		}
		// What is signed is not digested by it.
		counts(t, o, 0, c.tokens)
		if !o.Verify(c.server, []byte(c.text), c.token) {
			t.Errorf("%d: token %q is not right", i, c.token)
		}
	}
}

// TestSignNone (3.2): a server that is none of the table's signs nothing.
func TestSignNone(t *testing.T) {
	o := mustNew(t, "a", "b")
	for _, s := range []string{"", "c", "A", "ab", "a ", "a\x00", "\xff"} {
		if token, err := o.Sign(s, []byte("x")); err != api.ErrNone || token != "" {
			t.Errorf("%q: error %d, token %q", s, err, token)
		}
		counts(t, o, 0, 0)
	}
	if token := mustSign(t, o, "a", "x"); token != "AAAAAAAAAAE" {
		t.Errorf("a refused one took a number: %q", token)
	}
	if token, err := mustNew(t).Sign("", nil); err != api.ErrNone || token != "" {
		t.Errorf("of no servers: error %d, token %q", err, token)
	}
}

// TestSignMost (3.2): each of MaxServers signs for itself.
func TestSignMost(t *testing.T) {
	l := names(api.MaxServers)
	o := mustNew(t, l...)
	for i, s := range l {
		if got := mustSign(t, o, s, "x"); got != lettersOf(i+1) {
			t.Errorf("%q: token %q, not %q", s, got, lettersOf(i+1))
		}
	}
	for i, s := range l {
		for k := range l {
			if o.Verify(s, []byte("x"), lettersOf(k+1)) != (i == k) {
				t.Errorf("%q, token %d", s, k+1)
			}
		}
	}
}

// TestVerifyWrong (3.2): another server's token, another text's, one of nothing that was signed, letters that are none.
func TestVerifyWrong(t *testing.T) {
	o := mustNew(t, "a", "b")
	o.Digest([]byte("x"))
	o.Digest([]byte("z"))
	ax, ay, bx := mustSign(t, o, "a", "x"), mustSign(t, o, "a", "y"), mustSign(t, o, "b", "x")
	for _, c := range []struct{ server, text, token string }{
		{"a", "x", bx}, {"b", "x", ax}, {"a", "x", ay}, {"a", "y", ax}, {"a", "y", bx},
		{"b", "y", ax}, {"b", "y", ay}, {"b", "y", bx}, {"b", "y", ""},
		{"a", "z", ax}, {"a", "z", o.Digest([]byte("z"))}, {"a", "z", lettersOf(0)}, {"a", "z", lettersOf(4)}, {"a", "z", ""},
		{"a", "", ax}, {"a", "", lettersOf(0)}, {"a", "", ""},
		{"a", "x", ""}, {"a", "x", lettersOf(0)}, {"a", "x", lettersOf(4)}, {"a", "x", "a"}, {"a", "x", ax + "="},
		{"a", "x", ax[:10]}, {"a", "x", "A" + ax}, {"a", "x", ax + "A"}, {"a", "x", "AAAAAAAAAAe"}, {"a", "x", "AAAAAAAAAAF"},
		{"c", "x", ax}, {"c", "x", lettersOf(0)}, {"c", "x", ""}, {"", "x", ax}, {"A", "x", ax}, {"ax", "", ax},
	} {
		if o.Verify(c.server, []byte(c.text), c.token) {
			t.Errorf("%q by %q: %q is right", c.text, c.server, c.token)
		}
	}
	// To ask is not to sign.
	counts(t, o, 2, 3)
	if token := mustSign(t, o, "a", "z"); token != lettersOf(4) {
		t.Errorf("token %q", token)
	}
}

// TestVerifyAhead (3.2): a token that will be told is not right ahead of that.
func TestVerifyAhead(t *testing.T) {
	o := mustNew(t, "a")
	if o.Verify("a", []byte("x"), lettersOf(1)) {
		t.Error("right ahead of the signature")
	}
	if token := mustSign(t, o, "a", "x"); token != lettersOf(1) || !o.Verify("a", []byte("x"), token) {
		t.Errorf("token %q", token)
	}
}

// TestManyTokens (3.2): digests and tokens are counted apart.
func TestManyTokens(t *testing.T) {
	o := mustNew(t, "a", "b")
	for n := 1; n <= 1000; n++ {
		text := strconv.Itoa(n)
		if got := mustSign(t, o, "a", text); got != lettersOf(2*n-1) {
			t.Fatalf("%d: token %q, not %q", n, got, lettersOf(2*n-1))
		}
		if got := mustSign(t, o, "b", text); got != lettersOf(2*n) {
			t.Fatalf("%d: token %q, not %q", n, got, lettersOf(2*n))
		}
		if got := o.Digest([]byte(text)); got != lettersOf(n) {
			t.Fatalf("%d: digest %q, not %q", n, got, lettersOf(n))
		}
		counts(t, o, n, 2*n)
	}
}
