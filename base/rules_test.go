package base

import (
	"bytes"
	"math"
	"math/rand"
	"sync"
	"testing"

	"agora/api"
)

// TestAnyBytes (R1, R2): every text is answered, with nothing beside an error and no place without one.
func TestAnyBytes(t *testing.T) {
	r := rand.New(rand.NewSource(6))
	for range 20000 {
		s := string(anyBytes(r, 12))
		b, err, at := Decode(s)
		if err != api.OK && len(b) != 0 || err == api.OK && at != 0 || at < 0 || at > len(s) {
			t.Fatalf("%q: told %v, error %d at %d", s, b, err, at)
		}
	}
	for range 20000 {
		n := int(r.Uint64())
		if got := Size(n); got < 0 || n <= 0 && got != 0 || n > 0 && got <= n && got != math.MaxInt {
			t.Fatalf("size of %d: %d", n, got)
		}
	}
}

// TestEmpty (R3): no bytes are the same, nil or not.
func TestEmpty(t *testing.T) {
	for _, b := range [][]byte{nil, {}, make([]byte, 0, 8)} {
		if Encode(b) != "" {
			t.Errorf("told %q", Encode(b))
		}
	}
	if b := mustDecode(t, ""); len(b) != 0 {
		t.Errorf("told %v", b)
	}
}

// TestMemory (R4): what is handed in stays, with what lies behind its end; what is handed out is new.
func TestMemory(t *testing.T) {
	for n := range 8 {
		room := []byte("0123456789abcdef")
		want := bytes.Clone(room)
		s := Encode(room[:n])
		if !bytes.Equal(room, want) {
			t.Fatalf("%d: became %q", n, room)
		}
		first, second := mustDecode(t, s), mustDecode(t, s)
		for i := range first {
			first[i] ^= 0xff
		}
		clear(room)
		if !bytes.Equal(second, want[:n]) || s != Encode(want[:n]) {
			t.Fatalf("%d: shared: %q, %q", n, second, s)
		}
	}
}

// TestTogether (R5): calls beside one another answer as calls alone.
func TestTogether(t *testing.T) {
	var g sync.WaitGroup
	for i := range 8 {
		g.Add(1)
		go func() {
			defer g.Done()
			for n := range 300 {
				b := bytes.Repeat([]byte{byte(i), byte(n)}, n%7)
				if got, err, _ := Decode(Encode(b)); err != api.OK || !bytes.Equal(got, b) {
					t.Errorf("%v: told back %v, error %d", b, got, err)
				}
			}
		}()
	}
	g.Wait()
}
