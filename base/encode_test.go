package base

import (
	"encoding/base64"
	"math"
	"math/big"
	"math/rand"
	"testing"
)

// TestEncode (2.1): the chapter's examples, groups that are whole and that are not, the alphabet from end to end.
func TestEncode(t *testing.T) {
	for s, want := range map[string]string{
		"":                     "",
		"a":                    "YQ",
		"abc":                  "YWJj",
		"f":                    "Zg",
		"fo":                   "Zm8",
		"foo":                  "Zm9v",
		"foob":                 "Zm9vYg",
		"fooba":                "Zm9vYmE",
		"foobar":               "Zm9vYmFy",
		"\x00":                 "AA",
		"\x00\x00":             "AAA",
		"\x00\x00\x00":         "AAAA",
		"\x00\x00\x00\x00":     "AAAAAA",
		"\xff":                 "/w",
		"\xff\xff":             "//8",
		"\xff\xff\xff":         "////",
		"\x80\x00\x01":         "gAAB",
		"\xfb\xef\xbe":         "++++",
		"\xff\xfe":             "//4",
		"\x01\x02\x03\x04\x05": "AQIDBAU",
	} {
		if got := Encode([]byte(s)); got != want {
			t.Errorf("%q: told %q, not %q", s, got, want)
		}
	}
	if got := Encode(nil); got != "" {
		t.Errorf("no bytes: told %q", got)
	}
	if got := Encode(mustDecode(t, abc)); got != abc {
		t.Errorf("the alphabet: told %q", got)
	}
}

// TestEncodeAll (2.1): all groups of one and of two bytes, and many longer rows, held against Go's own base64.
func TestEncodeAll(t *testing.T) {
	held := func(b []byte) {
		t.Helper()
		want := base64.RawStdEncoding.EncodeToString(b)
		if got := Encode(b); got != want || Size(len(b)) != len(want) {
			t.Fatalf("%v: told %q of size %d, not %q", b, got, Size(len(b)), want)
		}
	}
	for i := range 1 << 16 {
		held([]byte{byte(i >> 8)})
		held([]byte{byte(i >> 8), byte(i)})
		held([]byte{byte(i >> 8), byte(i), byte(i >> 4)})
	}
	r := rand.New(rand.NewSource(1))
	for range 3000 {
		held(anyBytes(r, 200))
	}
	for n := range 7 {
		held(make([]byte, 1<<20+n))
	}
}

// TestSize (2.1, R6): of no bytes and of fewer, of each rest of three, and of more bytes than memory holds.
func TestSize(t *testing.T) {
	for n, want := range map[int]int{
		0: 0, 1: 2, 2: 3, 3: 4, 4: 6, 5: 7, 6: 8, 7: 10, 300: 400, 301: 402, 302: 403,
		-1: 0, -2: 0, -3: 0, -4: 0, math.MinInt: 0, math.MinInt + 1: 0,
	} {
		if got := Size(n); got != want {
			t.Errorf("%d: told %d, not %d", n, got, want)
		}
	}
}

// TestSizeGreat (2.1, R6): exact as long as an int holds it, the greatest int from there on.
func TestSizeGreat(t *testing.T) {
	most := math.MaxInt/4*3 + 2
	for _, from := range []int{1 << 31, math.MaxInt / 8, math.MaxInt / 6, math.MaxInt / 4, math.MaxInt / 3, math.MaxInt / 2, most} {
		for n := from - 10; n <= from+10; n++ {
			exact := new(big.Int).Mul(big.NewInt(int64(n)), big.NewInt(4))
			exact.Add(exact, big.NewInt(2)).Div(exact, big.NewInt(3))
			want := math.MaxInt
			if exact.IsInt64() && exact.Int64() < math.MaxInt {
				want = int(exact.Int64())
			}
			if got := Size(n); got != want {
				t.Errorf("%d: told %d, not %d", n, got, want)
			}
		}
	}
	if Size(most) != math.MaxInt || Size(most-1) != math.MaxInt-1 || Size(most+1) != math.MaxInt || Size(math.MaxInt) != math.MaxInt {
		t.Error("about the last one that fits:", Size(most-1), Size(most), Size(most+1), Size(math.MaxInt))
	}
}
