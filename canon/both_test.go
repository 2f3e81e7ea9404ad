package canon

import (
	"encoding/json"
	"errors"
	"fmt"
	"math/rand"
	"strconv"
	"strings"
	"testing"
	"unicode/utf8"

	"agora/api"
)

func TestEncodedIsDecoded(t *testing.T) {
	for name, j := range goodOnes() {
		b, err := Encode(j)
		if err == api.ErrLong {
			continue
		}
		if got := mustDecode(t, string(b)); !same(got, Order(j)) {
			t.Errorf("%s: decoded as %+v", name, got)
		}
	}
	r := rand.New(rand.NewSource(14))
	for range 3000 {
		j := anyGood(r, 6)
		if got := mustDecode(t, mustEncode(t, j)); !same(got, Order(j)) {
			t.Fatalf("%+v: decoded as %+v", j, got)
		}
	}
}

func TestSameBytesJustIfSameInOrder(t *testing.T) {
	r := rand.New(rand.NewSource(15))
	seen := map[string]api.Json{}
	for range 3000 {
		j := anyGood(r, 3)
		s := mustEncode(t, j)
		if other := mustEncode(t, shuffled(r, j)); other != s {
			t.Fatalf("the same in another order: %s, %s", s, other)
		}
		if k, ok := seen[s]; ok && !same(Order(k), Order(j)) {
			t.Fatalf("%s: two values", s)
		}
		seen[s] = j
	}
	if len(seen) < 1000 {
		t.Fatal("too few values were tried:", len(seen))
	}
}

// spelled tells a text of JSON that says the same in another way: blanks between all signs, letters written as \u.
func spelled(r *rand.Rand, canonical string) string {
	var b strings.Builder
	blanks := func() {
		for range r.Intn(3) {
			b.WriteByte(" \t\n\r"[r.Intn(4)])
		}
	}
	quoted, kept := false, 0
	blanks()
	for i, l := range canonical {
		switch {
		case kept > 0:
			kept--
			b.WriteRune(l)
		case quoted && strings.HasPrefix(canonical[i:], `\u`):
			kept = 5
			b.WriteRune(l)
		case quoted && l == '\\':
			kept = 1
			b.WriteRune(l)
		case l == '"':
			quoted = !quoted
			b.WriteRune(l)
		case quoted:
			b.WriteString(oneSpelling(r, l))
		case strings.ContainsRune("[]{},:", l):
			blanks()
			b.WriteRune(l)
			blanks()
		default:
			b.WriteRune(l)
		}
	}
	blanks()
	return b.String()
}

func oneSpelling(r *rand.Rand, l rune) string {
	form := []string{`\u%04x`, `\u%04X`}[r.Intn(2)]
	switch {
	case r.Intn(2) == 0:
		return string(l)
	case l == '/' && r.Intn(2) == 0:
		return `\/`
	case l > 0xFFFF:
		l -= 0x10000
		return fmt.Sprintf(form+form, 0xD800+l>>10, 0xDC00+l&0x3FF)
	}
	return fmt.Sprintf(form, l)
}

func TestSpellingChangesNothing(t *testing.T) {
	r := rand.New(rand.NewSource(16))
	for range 3000 {
		canonical := mustEncode(t, anyGood(r, 5))
		other := spelled(r, canonical)
		j := mustDecode(t, other)
		if !Good(j) || !sorted(j) || mustEncode(t, j) != canonical {
			t.Fatalf("%q: not %s", other, canonical)
		}
	}
}

// broken tells a text that was changed at some places.
func broken(r *rand.Rand, s string) string {
	signs := []string{"[", "]", "{", "}", ",", ":", `"`, `\`, `\u`, `\ud83d`, `\ude00`, `"a":`, "0", "1", "-", ".", "e", "null", "tr", `{"a":1,"\u0061":2}`, " ", "\n", "\x00", "x", "é", "9007199254740992"}
	for range 1 + r.Intn(2) {
		at := r.Intn(len(s) + 1)
		till := min(len(s), at+r.Intn(3))
		switch r.Intn(4) {
		case 0:
			s = s[:at]
		case 1:
			s = s[:at] + s[till:]
		default:
			s = s[:at] + signs[r.Intn(len(signs))] + s[till:]
		}
	}
	return s
}

// TestAgainstTheLibrary holds what is read, and where a text breaks off, against Go's own reader of JSON, where both should say the same.
func TestAgainstTheLibrary(t *testing.T) {
	r := rand.New(rand.NewSource(17))
	counts := map[api.Errno]int{}
	for range 60000 {
		s := broken(r, spelled(r, mustEncode(t, anyGood(r, 4))))
		j, err, at := Decode([]byte(s))
		counts[err]++
		v, theirAt, theirs := theirs(s)
		switch err {
		case api.OK:
			if theirs != nil || !sameAsTheirs(j, v) {
				t.Fatalf("%q: told %+v, not %v", s, j, v)
			}
		case api.ErrTail, api.ErrJson:
			// Halves are right there, and the places within escapes are others.
			half := strings.HasPrefix(s[at:], `\ud`) || strings.HasPrefix(s[at:], `\uD`)
			escape := theirs != nil && strings.Contains(theirs.Error(), "escape sequence")
			if !half && (theirs == nil || at != theirAt && !escape) {
				t.Fatalf("%q: error %d at %d; theirs at %d: %v", s, err, at, theirAt, theirs)
			}
		case api.ErrUtf:
			if utf8.ValidString(s) || !utf8.ValidString(s[:at]) {
				t.Fatalf("%q: error %d at %d", s, err, at)
			}
		}
	}
	for _, err := range []api.Errno{api.OK, api.ErrUtf, api.ErrJson, api.ErrInt, api.ErrTail, api.ErrTwice} {
		if counts[err] < 100 {
			t.Errorf("error %d came up %d times only", err, counts[err])
		}
	}
}

// theirs tells what Go's own reader makes of a text, or the place of the first byte (or the end) that it could not read.
func theirs(s string) (any, int, error) {
	var v any
	d := json.NewDecoder(strings.NewReader(s))
	d.UseNumber()
	var syntax *json.SyntaxError
	var raw json.RawMessage
	if err := json.Unmarshal([]byte(s), &raw); errors.As(err, &syntax) {
		if strings.Contains(syntax.Error(), "unexpected end") {
			return nil, len(s), err
		}
		_, n := utf8.DecodeLastRuneInString(s[:syntax.Offset])
		return nil, int(syntax.Offset) - n, err
	}
	err := d.Decode(&v)
	return v, 0, err
}

// sameAsTheirs holds a value against what Go's own reader made.
func sameAsTheirs(j api.Json, v any) bool {
	switch x := v.(type) {
	case nil:
		return same(j, null())
	case bool:
		return same(j, truth(map[bool]int64{true: 1}[x]))
	case json.Number:
		n, err := strconv.ParseInt(x.String(), 10, 64)
		return err == nil && same(j, number(n))
	case string:
		return same(j, text(x))
	case []any:
		if j.Kind != api.JList || len(j.List) != len(x) {
			return false
		}
		for i := range x {
			if !sameAsTheirs(j.List[i], x[i]) {
				return false
			}
		}
		return true
	case map[string]any:
		if j.Kind != api.JMap || len(j.Keys) != len(x) || len(j.List) != len(x) {
			return false
		}
		for i, k := range j.Keys {
			if w, ok := x[k]; !ok || !sameAsTheirs(j.List[i], w) {
				return false
			}
		}
		return true
	}
	return false
}

func TestCutOff(t *testing.T) {
	whole := `[{"b":"\u00e9\n😀","a":[null,true,false,-12,0,{}]},[],""]`
	mustDecode(t, whole)
	for i := range len(whole) {
		cut := whole[:i]
		_, err, at := Decode([]byte(cut))
		want, wantAt := api.ErrJson, i
		if !utf8.ValidString(cut) {
			want, wantAt = api.ErrUtf, strings.Index(whole, "😀")
		}
		if err != want || at != wantAt {
			t.Errorf("%q: error %d at %d", cut, err, at)
		}
	}
}
