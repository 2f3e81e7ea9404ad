package oracle

import (
	"slices"
	"testing"

	"agora/api"
)

// TestBare (R1): a nil table, and one that New did not make, have no servers, no digests, no tokens.
func TestBare(t *testing.T) {
	for i, o := range bare() {
		for range 2 {
			if len(o.Servers()) != 0 || o.Digest([]byte("x")) != "" || o.Digest(nil) != "" {
				t.Errorf("%d: servers %q, digest %q", i, o.Servers(), o.Digest([]byte("x")))
			}
			for _, s := range []string{"", "a"} {
				if token, err := o.Sign(s, []byte("x")); err != api.ErrNone || token != "" {
					t.Errorf("%d: error %d, token %q", i, err, token)
				}
				for _, token := range []string{"", lettersOf(0), lettersOf(1)} {
					if o.Verify(s, []byte("x"), token) {
						t.Errorf("%d: %q is right", i, token)
					}
				}
			}
			counts(t, o, 0, 0)
		}
	}
}

// TestEmpty (R3): no bytes are the same, nil or not.
func TestEmpty(t *testing.T) {
	o := mustNew(t, "a")
	for _, b := range [][]byte{nil, {}, make([]byte, 0, 8)} {
		d := o.Digest(b)
		token, err := o.Sign("a", b)
		if d != lettersOf(1) || token != lettersOf(1) || err != api.OK || !o.Verify("a", b, token) || !o.Verify("a", nil, token) {
			t.Errorf("digest %q, token %q, error %d", d, token, err)
		}
	}
	counts(t, o, 1, 1)
}

// TestMemoryIn (R4): what is handed in stays, and is not kept.
func TestMemoryIn(t *testing.T) {
	room := []string{"a", "b", "c"}
	o := mustNew(t, room[:2]...)
	text := []byte("xyz")
	d, token := o.Digest(text[:2]), mustSign(t, o, "a", "xy")
	if same, err := o.Sign("a", text[:2]); err != api.OK || same != token || !o.Verify("a", text[:2], token) {
		t.Errorf("token %q, error %d", same, err)
	}
	if string(text) != "xyz" || !slices.Equal(room, []string{"a", "b", "c"}) {
		t.Errorf("became %q, %q", text, room)
	}
	clear(text)
	clear(room)
	if !slices.Equal(o.Servers(), []string{"a", "b"}) || mustSign(t, o, "a", "xy") != token || o.Digest([]byte("xy")) != d {
		t.Errorf("kept: servers %q", o.Servers())
	}
	if _, err := o.Sign("", nil); err != api.ErrNone {
		t.Errorf("kept: error %d", err)
	}
	counts(t, o, 1, 1)
}

// TestMemoryOut (R4): what is handed out is new.
func TestMemoryOut(t *testing.T) {
	o := mustNew(t, "a", "b")
	l := o.Servers()
	l[0], l[1] = "c", "a"
	_ = append(l[:0], "d")
	if !slices.Equal(o.Servers(), []string{"a", "b"}) {
		t.Errorf("servers %q", o.Servers())
	}
	if _, err := o.Sign("c", nil); err != api.ErrNone {
		t.Errorf("error %d", err)
	}
}

// TestAgain (R5): the same deeds, the same answers.
func TestAgain(t *testing.T) {
	var told []string
	for range 20 {
		o := mustNew(t, names(20)...)
		var now []string
		for i := range 200 {
			s, text := names(20)[i*7%20], []byte{byte(i * 11 % 50)}
			now = append(now, o.Digest(text), mustSign(t, o, s, string(text)))
		}
		if told == nil {
			told = now
		}
		if !slices.Equal(told, now) {
			t.Fatalf("%q, then %q", told, now)
		}
	}
}
