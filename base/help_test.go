package base

import (
	"math/rand"
	"testing"

	"agora/api"
)

const abc = "ABCDEFGHIJKLMNOPQRSTUVWXYZabcdefghijklmnopqrstuvwxyz0123456789+/"

// anyBytes tells bytes of a chance length below most.
func anyBytes(r *rand.Rand, most int) []byte {
	b := make([]byte, r.Intn(most))
	r.Read(b)
	return b
}

// mustDecode tells the bytes of a text that has no error.
func mustDecode(t *testing.T, s string) []byte {
	t.Helper()
	b, err, at := Decode(s)
	if err != api.OK || at != 0 {
		t.Fatalf("%q: error %d at %d", s, err, at)
	}
	return b
}

// wrong is a text, the error that it has, and where.
type wrong struct {
	text string
	err  api.Errno
	at   int
}

func refuse(t *testing.T, l []wrong) {
	t.Helper()
	for _, w := range l {
		b, err, at := Decode(w.text)
		if err != w.err || at != w.at {
			t.Errorf("%q: error %d at %d, not %d at %d", w.text, err, at, w.err, w.at)
		}
		if len(b) != 0 {
			t.Errorf("%q: bytes %v beside an error", w.text, b)
		}
	}
}
