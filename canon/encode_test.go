package canon

import (
	"fmt"
	"strings"
	"testing"

	"agora/api"
)

func TestEncode(t *testing.T) {
	for want, j := range map[string]api.Json{
		`null`:                    null(),
		`true`:                    truth(1),
		`false`:                   truth(0),
		`0`:                       number(0),
		`7`:                       number(7),
		`-10`:                     number(-10),
		`9007199254740991`:        number(api.MaxInt),
		`-9007199254740991`:       number(-api.MaxInt),
		`""`:                      text(""),
		`"a/'<>&"`:                text("a/'<>&"),
		`"\"\\"`:                  text(`"\`),
		`"\b\t\n\f\r"`:            text("\x08\x09\x0a\x0c\x0d"),
		`"\u0000\u0001\u0007"`:    text("\x00\x01\x07"),
		`"\u000b\u000e\u001a "`:   text("\x0b\x0e\x1a\x20"),
		"\"\x7f\u0080é\u2028€\"":  text("\x7f\u0080é\u2028€"),
		"\"\uFFFD\U0001F600\"":    text("\uFFFD\U0001F600"),
		`[]`:                      list(),
		`[[],{},null]`:            list(list(), table(nil), null()),
		`[2,1]`:                   list(number(2), number(1)),
		`{}`:                      table(nil),
		`{"a":[true,null],"b":1}`: table([]string{"b", "a"}, number(1), list(truth(1), null())),
		`{"":0,"A":1,"a":2,"aa":3,"b":{"x":{},"y":[]}}`: table([]string{"b", "aa", "A", "", "a"},
			table([]string{"y", "x"}, list(), table(nil)), number(3), number(1), number(0), number(2)),
		`{"\"\n":0,"\\":1}`: table([]string{`\`, "\"\n"}, number(1), number(0)),
	} {
		if got := mustEncode(t, j); got != want {
			t.Errorf("%+v: told %s, not %s", j, got, want)
		}
	}
}

func TestEncodeControls(t *testing.T) {
	short := map[int]string{8: `\b`, 9: `\t`, 10: `\n`, 12: `\f`, 13: `\r`}
	for c := range 32 {
		want, ok := short[c]
		if !ok {
			want = fmt.Sprintf(`\u%04x`, c)
		}
		if got := mustEncode(t, text(string(rune(c)))); got != `"`+want+`"` {
			t.Errorf("letter %d: told %s", c, got)
		}
	}
}

func TestEncodeKeysByBytes(t *testing.T) {
	// By UTF-16, as other programs order keys, the two would stand the other way round.
	if got := mustEncode(t, table([]string{"\U0001F600", "\uFFFD"}, number(1), number(2))); got != "{\"\uFFFD\":2,\"\U0001F600\":1}" {
		t.Errorf("told %s", got)
	}
}

func TestEncodeBad(t *testing.T) {
	for name, j := range badOnes() {
		if b, err := Encode(j); err != api.ErrArg || len(b) != 0 {
			t.Errorf("%s: told %q, error %d", name, b, err)
		}
	}
	far := list(text(strings.Repeat("x", api.MaxBytes+1)), truth(2))
	if _, err := Encode(far); err != api.ErrArg {
		t.Errorf("not good and too long: error %d", err)
	}
}

func TestEncodeLong(t *testing.T) {
	xs := strings.Repeat("x", api.MaxBytes)
	for name, make := range map[string]func(n int) api.Json{
		"text":   func(n int) api.Json { return text(xs[:n-2]) },
		"escape": func(n int) api.Json { return text(xs[:n-8] + "\x01") },
		"quote":  func(n int) api.Json { return text(xs[:n-4] + `"`) },
		"letter": func(n int) api.Json { return text(xs[:n-6] + "\U0001F600") },
		"list":   func(n int) api.Json { return list(text(xs[:n-7]), number(10)) },
		"map":    func(n int) api.Json { return table([]string{xs[:n-9]}, null()) },
		"key":    func(n int) api.Json { return table([]string{"", "\n"}, text(xs[:n-14]), number(1)) },
	} {
		if b, err := Encode(make(api.MaxBytes)); err != api.OK || len(b) != api.MaxBytes {
			t.Errorf("%s: MaxBytes: %d bytes, error %d", name, len(b), err)
		}
		if b, err := Encode(make(api.MaxBytes + 1)); err != api.ErrLong || len(b) != 0 {
			t.Errorf("%s: one past MaxBytes: %d bytes, error %d", name, len(b), err)
		}
	}
	if b, err := Encode(text(strings.Repeat("x", 1<<20))); err != api.ErrLong || len(b) != 0 {
		t.Errorf("far past MaxBytes: %d bytes, error %d", len(b), err)
	}
}
