package base

import (
	"bytes"
	"encoding/base64"
	"math/rand"
	"strings"
	"testing"

	"agora/api"
)

// TestDecode (2.2): texts without a fault.
func TestDecode(t *testing.T) {
	for s, want := range map[string]string{
		"":         "",
		"YQ":       "a",
		"YWJj":     "abc",
		"Zg":       "f",
		"Zm8":      "fo",
		"Zm9v":     "foo",
		"Zm9vYg":   "foob",
		"Zm9vYmE":  "fooba",
		"Zm9vYmFy": "foobar",
		"AA":       "\x00",
		"AAA":      "\x00\x00",
		"AAAA":     "\x00\x00\x00",
		"/w":       "\xff",
		"//8":      "\xff\xff",
		"////":     "\xff\xff\xff",
		"++++":     "\xfb\xef\xbe",
		"gAAB":     "\x80\x00\x01",
		"////////": "\xff\xff\xff\xff\xff\xff", // of whole groups no bit is spare
	} {
		if got := mustDecode(t, s); string(got) != want {
			t.Errorf("%q: told %q, not %q", s, got, want)
		}
	}
}

// TestDecodeFaults (2.2): each error at its place.
func TestDecodeFaults(t *testing.T) {
	refuse(t, []wrong{
		{"Y=", api.ErrBase, 1},
		{"YQ==", api.ErrBase, 2},
		{"YWI=", api.ErrBase, 3},
		{"=", api.ErrBase, 0},
		{"*AAA", api.ErrBase, 0},
		{"Zm9*", api.ErrBase, 3},
		{"AAAA AAAA", api.ErrBase, 4},
		{"AAAA\n", api.ErrBase, 4},
		{"\r\nAAAA", api.ErrBase, 0},
		{"AA-_", api.ErrBase, 2},
		{"AA\x00A", api.ErrBase, 2},
		{"AAé", api.ErrBase, 2},
		{"A\xc1", api.ErrBase, 1},
		{"**", api.ErrBase, 0},
		{"Y", api.ErrSize, 1},
		{"A", api.ErrSize, 1},
		{"AAAAA", api.ErrSize, 5},
		{"YWJjY", api.ErrSize, 5},
		{strings.Repeat("A", 4001), api.ErrSize, 4001},
		{"YR", api.ErrBits, 1},
		{"AI", api.ErrBits, 1},
		{"AE", api.ErrBits, 1},
		{"AC", api.ErrBits, 1},
		{"AB", api.ErrBits, 1},
		{"AAC", api.ErrBits, 2},
		{"AAB", api.ErrBits, 2},
		{"Zm9", api.ErrBits, 2},
		{"AAAAAB", api.ErrBits, 5},
		{"AAAAAAB", api.ErrBits, 6},
	})
}

// TestDecodeFirst (2.2): of several errors a wrong letter comes first, then the length, then the bits.
func TestDecodeFirst(t *testing.T) {
	refuse(t, []wrong{
		{"B*", api.ErrBase, 1},
		{"*B", api.ErrBase, 0},
		{"*", api.ErrBase, 0},
		{"AAAA*", api.ErrBase, 4},
		{"AA*AB", api.ErrBase, 2},
		{"A*A*B", api.ErrBase, 1},
		{"/", api.ErrSize, 1},
		{"AAAAB", api.ErrSize, 5},
		{"AAAA/", api.ErrSize, 5},
	})
}

// TestDecodeLetters (2.2): each byte in each place of a group is of the alphabet, or told at its place.
func TestDecodeLetters(t *testing.T) {
	for c := range 256 {
		for at := range 8 {
			b := []byte("AAAAAAAA")
			b[at] = byte(c)
			n := strings.IndexByte(abc, byte(c))
			if n < 0 {
				refuse(t, []wrong{{string(b), api.ErrBase, at}})
				continue
			}
			got := mustDecode(t, string(b))
			bits := n << (18 - at%4*6)
			want := make([]byte, 6)
			copy(want[at/4*3:], []byte{byte(bits >> 16), byte(bits >> 8), byte(bits)})
			if !bytes.Equal(got, want) {
				t.Errorf("%q: told %v, not %v", b, got, want)
			}
		}
	}
}

// TestDecodeSpare (2.2): of all last letters, those are refused that have a bit which no byte has.
func TestDecodeSpare(t *testing.T) {
	for n := range 64 {
		for _, g := range []struct {
			ahead string
			step  int
		}{{"A", 16}, {"AA", 4}, {"AAA", 1}, {"////A", 16}, {"////AA", 4}, {"////AAA", 1}} {
			s := g.ahead + abc[n:n+1]
			if n%g.step != 0 {
				refuse(t, []wrong{{s, api.ErrBits, len(s) - 1}})
				continue
			}
			if got := mustDecode(t, s); Encode(got) != s {
				t.Errorf("%q: told %v", s, got)
			}
		}
	}
}

// TestDecodeAny (2.2): of chance texts, Go's own strict base64 takes the same ones, and tells the same bytes.
func TestDecodeAny(t *testing.T) {
	const few = "ABQg/+wZ09*=" // a wrong letter is rare, spare bits are frequent
	strict := base64.RawStdEncoding.Strict()
	r := rand.New(rand.NewSource(2))
	good := 0
	for range 100000 {
		s := make([]byte, r.Intn(10))
		for i := range s {
			s[i] = few[r.Intn(len(few))]
		}
		want, bad := strict.DecodeString(string(s))
		got, err, at := Decode(string(s))
		if (bad != nil) != (err != api.OK) {
			t.Fatalf("%q: error %d, Go's %v", s, err, bad)
		}
		if bad == nil && (!bytes.Equal(got, want) || at != 0) || bad != nil && len(got) != 0 {
			t.Fatalf("%q: told %v at %d, not %v", s, got, at, want)
		}
		if err == api.OK {
			good++
		}
	}
	if good < 1000 || good > 99000 {
		t.Error("too few of a kind:", good)
	}
}
