package oracle

import (
	"math/rand"
	"testing"
)

// TestModel (3.1 to 3.3): chance calls answer as rows that are gone through one by one.
func TestModel(t *testing.T) {
	r := rand.New(rand.NewSource(3))
	servers := []string{"a", "b", ""}
	askers := append([]string{"c", "ab"}, servers...)
	texts := []string{"", "a", "b", "ab", "ba", "\xff", "\x00", "a\x00", "aa", "abc"}
	for range 300 {
		o, m := mustNew(t, servers...), &model{servers: servers}
		for range 60 {
			server, text := askers[r.Intn(len(askers))], texts[r.Intn(len(texts))]
			switch r.Intn(3) {
			case 0:
				if got, want := o.Digest([]byte(text)), m.digest(text); got != want {
					t.Fatalf("%q: digest %q, not %q", text, got, want)
				}
			case 1:
				got, err := o.Sign(server, []byte(text))
				if want, no := m.sign(server, text); got != want || err != no {
					t.Fatalf("%q by %q: token %q, error %d, not %q, %d", text, server, got, err, want, no)
				}
			case 2:
				token := lettersOf(r.Intn(len(m.tokens) + 2))
				if got, want := o.Verify(server, []byte(text), token), m.verify(server, text, token); got != want {
					t.Fatalf("%q by %q: %q right: %t", text, server, token, got)
				}
			}
			counts(t, o, len(m.texts), len(m.tokens))
		}
	}
}

// TestFollows (3.3): one digest a text, one token a pair, right for that pair alone, and for good.
func TestFollows(t *testing.T) {
	o := mustNew(t, "a", "b")
	texts := []string{"", "x", "y", "xy", "yx", "x\x00"}
	digests, tokens := map[string]string{}, map[string][2]string{}
	for _, text := range texts {
		d := o.Digest([]byte(text))
		if other, ok := digests[d]; ok {
			t.Errorf("%q and %q: one digest %q", text, other, d)
		}
		digests[d] = text
		for _, s := range o.Servers() {
			token := mustSign(t, o, s, text)
			if other, ok := tokens[token]; ok {
				t.Errorf("%q by %q and %q: one token %q", text, s, other, token)
			}
			tokens[token] = [2]string{s, text}
		}
	}
	for d, text := range digests {
		if o.Digest([]byte(text)) != d {
			t.Errorf("%q: digest %q became %q", text, d, o.Digest([]byte(text)))
		}
	}
	for token, pair := range tokens {
		for _, s := range o.Servers() {
			for _, text := range texts {
				if got := o.Verify(s, []byte(text), token); got != (pair == [2]string{s, text}) {
					t.Errorf("%q of %q, asked of %q by %q: %t", token, pair, text, s, got)
				}
			}
		}
	}
	counts(t, o, len(texts), 2*len(texts))
}
