package base

import (
	"bytes"
	"math/rand"
	"testing"

	"agora/api"
)

// TestThereAndBack (2.3): bytes are told back, and only what Encode tells has bytes.
func TestThereAndBack(t *testing.T) {
	r := rand.New(rand.NewSource(3))
	for range 5000 {
		b := anyBytes(r, 100)
		if got := mustDecode(t, Encode(b)); !bytes.Equal(got, b) {
			t.Fatalf("%v: told back %v", b, got)
		}
	}
	for _, n := range []int{1 << 16, 1<<16 + 1, 1<<16 + 2} {
		b := bytes.Repeat([]byte{0xb7}, n)
		if !bytes.Equal(mustDecode(t, Encode(b)), b) {
			t.Fatal("not told back:", n, "bytes")
		}
	}
}

// TestTextsAndBack (2.3): all texts of up to three letters, and chance ones, are Encode's, or have an error.
func TestTextsAndBack(t *testing.T) {
	good := 0
	asked := func(s string) {
		b, err, _ := Decode(s)
		if err != api.OK {
			return
		}
		good++
		if got := Encode(b); got != s || Size(len(b)) != len(s) {
			t.Fatalf("%q: told back %q", s, got)
		}
	}
	for i := range 64 {
		for j := range 64 {
			asked(string([]byte{abc[i], abc[j]}))
			for k := range 64 {
				asked(string([]byte{abc[i], abc[j], abc[k]}))
			}
		}
	}
	if good != 1<<8+1<<16 {
		t.Error("texts of one and of two bytes:", good)
	}
	r := rand.New(rand.NewSource(4))
	for range 5000 {
		s := anyBytes(r, 40)
		for i := range s {
			s[i] = abc[s[i]%64]
		}
		asked(string(s))
	}
}

// TestJoined (2.3): behind a multiple of three bytes the letters of more go on as they are.
func TestJoined(t *testing.T) {
	r := rand.New(rand.NewSource(5))
	for range 2000 {
		a, b := anyBytes(r, 40), anyBytes(r, 40)
		a = a[:len(a)/3*3]
		whole := append(append([]byte{}, a...), b...)
		if got := Encode(a) + Encode(b); got != Encode(whole) {
			t.Fatalf("%v and %v: told %q, not %q", a, b, got, Encode(whole))
		}
		if !bytes.Equal(mustDecode(t, Encode(a)+Encode(b)), whole) {
			t.Fatalf("%v and %v: not told back", a, b)
		}
	}
}
