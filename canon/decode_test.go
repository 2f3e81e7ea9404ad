package canon

import (
	"bytes"
	"strings"
	"testing"

	"agora/api"
)

func TestDecode(t *testing.T) {
	for s, want := range map[string]api.Json{
		`null`:                 null(),
		`true`:                 truth(1),
		`false`:                truth(0),
		`0`:                    number(0),
		`-0`:                   number(0),
		`[-0]`:                 list(number(0)),
		`-1`:                   number(-1),
		`120`:                  number(120),
		`9007199254740991`:     number(api.MaxInt),
		`-9007199254740991`:    number(-api.MaxInt),
		`""`:                   text(""),
		"\"\x7f/é€\uFFFD😀\"":   text("\x7f/é€\uFFFD😀"),
		`"\"\\\/\b\f\n\r\t"`:   text("\"\\/\x08\x0c\x0a\x0d\x09"),
		`"\u0000\u001F\u0041"`: text("\x00\x1fA"),
		`"\uabcd\uABCD\uaBcD"`: text("\uABCD\uABCD\uABCD"),
		`"\ud7ff\ue000\uffff"`: text("\uD7FF\uE000\uFFFF"),
		`"\ud83d\ude00"`:       text("😀"),
		`"\uD83D\uDE00x"`:      text("😀x"),
		`"\ud800\udc00"`:       text("\U00010000"),
		`"\udbff\udfff"`:       text("\U0010FFFF"),
		`"\\u0041"`:            text(`\u0041`),
		`[]`:                   list(),
		`[[],[{}]]`:            list(list(), list(table(nil))),
		`[1,"a",null]`:         list(number(1), text("a"), null()),
		`{}`:                   table(nil),
		`{"b":1,"a":[true]}`:   table([]string{"a", "b"}, list(truth(1)), number(1)),
		`{"a":{"a":{"a":1}}}`:  table([]string{"a"}, table([]string{"a"}, table([]string{"a"}, number(1)))),
		`[{"a":1},{"a":2}]`:    list(table([]string{"a"}, number(1)), table([]string{"a"}, number(2))),
		`{"a":"a","A":"a"}`:    table([]string{"A", "a"}, text("a"), text("a")),
		`{"\u0062":1,"":2}`:    table([]string{"", "b"}, number(2), number(1)),
		" \t\n\r[ \t\n\r1 \t\n\r, \t\n\r2 \t\n\r] \t\n\r":                                             list(number(1), number(2)),
		" \t\n\r{ \t\n\r\"b\" \t\n\r: \t\n\r[ \r] \t\n\r, \t\n\r\"a\" \t\n\r: \t\n\r{ \n} \t} \t\n\r": table([]string{"a", "b"}, table(nil), list()),
	} {
		if got := mustDecode(t, s); !same(got, want) {
			t.Errorf("%s: told %+v, not %+v", s, got, want)
		}
	}
}

// wrong is a text, the error that it has, and where.
type wrong struct {
	text string
	err  api.Errno
	at   int
}

func refuse(t *testing.T, l []wrong) {
	t.Helper()
	for _, w := range l {
		if j, err, at := Decode([]byte(w.text)); err != w.err || at != w.at || !same(j, api.Json{}) {
			t.Errorf("%.100q: told %+v, error %d at %d, not error %d at %d", w.text, j, err, at, w.err, w.at)
		}
	}
}

func TestDecodeNoJson(t *testing.T) {
	refuse(t, []wrong{
		{"", api.ErrJson, 0},
		{" \n", api.ErrJson, 2},
		{"x", api.ErrJson, 0},
		{"\x00", api.ErrJson, 0},
		{"\v1", api.ErrJson, 0},
		{"\u00a01", api.ErrJson, 0},
		{"\uFEFF1", api.ErrJson, 0},
		{"+1", api.ErrJson, 0},
		{".5", api.ErrJson, 0},
		{"]", api.ErrJson, 0},
		{",", api.ErrJson, 0},
		{"'a'", api.ErrJson, 0},
		{"nul", api.ErrJson, 3},
		{"nulL", api.ErrJson, 3},
		{"nUll", api.ErrJson, 1},
		{"tru ", api.ErrJson, 3},
		{"fals", api.ErrJson, 4},
		{"False", api.ErrJson, 0},
		{"NaN", api.ErrJson, 0},
		{"[nulll]", api.ErrJson, 5},
		{"[", api.ErrJson, 1},
		{"[ ", api.ErrJson, 2},
		{"[,", api.ErrJson, 1},
		{"[1", api.ErrJson, 2},
		{"[1 ", api.ErrJson, 3},
		{"[1,", api.ErrJson, 3},
		{"[1,]", api.ErrJson, 3},
		{"[1,,2]", api.ErrJson, 3},
		{"[1 2]", api.ErrJson, 3},
		{"[1}", api.ErrJson, 2},
		{"[1\x002]", api.ErrJson, 2},
		{"{", api.ErrJson, 1},
		{"{ ", api.ErrJson, 2},
		{"{]", api.ErrJson, 1},
		{"{a:1}", api.ErrJson, 1},
		{"{1:1}", api.ErrJson, 1},
		{"{,}", api.ErrJson, 1},
		{`{"a`, api.ErrJson, 3},
		{`{"a"`, api.ErrJson, 4},
		{`{"a"}`, api.ErrJson, 4},
		{`{"a" 1}`, api.ErrJson, 5},
		{`{"a":`, api.ErrJson, 5},
		{`{"a":}`, api.ErrJson, 5},
		{`{"a"::1}`, api.ErrJson, 5},
		{`{"a":1`, api.ErrJson, 6},
		{`{"a":1]`, api.ErrJson, 6},
		{`{"a":1,`, api.ErrJson, 7},
		{`{"a":1,}`, api.ErrJson, 7},
		{`{"a":1 "b":2}`, api.ErrJson, 7},
		{`{"a":1,"b"}`, api.ErrJson, 10},
		{`{"a":1,b}`, api.ErrJson, 7},
	})
}

func TestDecodeNoText(t *testing.T) {
	refuse(t, []wrong{
		{`"`, api.ErrJson, 1},
		{`"ab`, api.ErrJson, 3},
		{"\"a\nb\"", api.ErrJson, 2},
		{"\"\x00\"", api.ErrJson, 1},
		{"\"\x1f\"", api.ErrJson, 1},
		{"\"\t\"", api.ErrJson, 1},
		{`"é\`, api.ErrJson, 4},
		{`"\`, api.ErrJson, 2},
		{`"\"`, api.ErrJson, 3},
		{`"\x41"`, api.ErrJson, 2},
		{`"\a"`, api.ErrJson, 2},
		{`"\'"`, api.ErrJson, 2},
		{`"\0"`, api.ErrJson, 2},
		{`"\U0041"`, api.ErrJson, 2},
		{`"\N"`, api.ErrJson, 2},
		{`"\é"`, api.ErrJson, 2},
		{`"\u`, api.ErrJson, 3},
		{`"\u"`, api.ErrJson, 3},
		{`"\u004`, api.ErrJson, 6},
		{`"\u004"`, api.ErrJson, 6},
		{`"\u00g1"`, api.ErrJson, 5},
		{`"\u00G1"`, api.ErrJson, 5},
		{`"\u+041"`, api.ErrJson, 3},
		{`"\u 041"`, api.ErrJson, 3},
		{`"\u00:1"`, api.ErrJson, 5},
		{`"\u00@1"`, api.ErrJson, 5},
		{"\"\\u00`1\"", api.ErrJson, 5},
		{`"\u00/1"`, api.ErrJson, 5},
		{`"\u0041`, api.ErrJson, 7},
	})
}

func TestDecodeHalves(t *testing.T) {
	refuse(t, []wrong{
		{`"\udc00"`, api.ErrJson, 1},
		{`"ab\uDFFF"`, api.ErrJson, 3},
		{`"\udc00\ud800"`, api.ErrJson, 1},
		{`"\udc00\udc00"`, api.ErrJson, 1},
		{`"\ud83d\ude00\ude00"`, api.ErrJson, 13},
		{`"\ud800"`, api.ErrJson, 1},
		{`"\uDBFF"`, api.ErrJson, 1},
		{`"a\ud800b"`, api.ErrJson, 2},
		{`"\ud800\n"`, api.ErrJson, 1},
		{`"\ud800\\udc00"`, api.ErrJson, 1},
		{`"\ud800xudc00"`, api.ErrJson, 1},
		{`"\ud800 \udc00"`, api.ErrJson, 1},
		{`"\ud800\u0041"`, api.ErrJson, 1},
		{`"\ud800\udbff"`, api.ErrJson, 1},
		{`"\ud800\ue000"`, api.ErrJson, 1},
		{`"\ud83d\ud83d\ude00"`, api.ErrJson, 1},
		{`{"\ud800":1}`, api.ErrJson, 2},
		// A half whose other half is no whole one lacks it.
		{`"\ud800`, api.ErrJson, 1},
		{`"\ud800\`, api.ErrJson, 1},
		{`"\ud800\u`, api.ErrJson, 1},
		{`"\ud800\udc0`, api.ErrJson, 1},
		{`"\ud800\udc0g"`, api.ErrJson, 1},
		// Digits that are not four are no letter yet.
		{`"\udc`, api.ErrJson, 5},
		{`"\udcg0"`, api.ErrJson, 5},
		{`"\ud8`, api.ErrJson, 5},
		// A pair, and then the end.
		{`"\ud800\udc00`, api.ErrJson, 13},
	})
}

func TestDecodeNumbers(t *testing.T) {
	refuse(t, []wrong{
		{"-", api.ErrJson, 1},
		{"- 1", api.ErrJson, 1},
		{"--1", api.ErrJson, 1},
		{"-a", api.ErrJson, 1},
		{"-.5", api.ErrJson, 1},
		{"[-]", api.ErrJson, 2},
		{"[01]", api.ErrJson, 2},
		{"[-01]", api.ErrJson, 3},
		{"[00]", api.ErrJson, 2},
		{"[1x]", api.ErrJson, 2},
		{"[00.5]", api.ErrJson, 2},
		{"1.5", api.ErrInt, 0},
		{"1.", api.ErrInt, 0},
		{"0.0", api.ErrInt, 0},
		{"-0.0", api.ErrInt, 0},
		{"-0e1", api.ErrInt, 0},
		{"1e3", api.ErrInt, 0},
		{"1E", api.ErrInt, 0},
		{"12exx", api.ErrInt, 0},
		{" -1.0", api.ErrInt, 1},
		{`[1,{"a":-2.5}]`, api.ErrInt, 8},
		{"9007199254740992", api.ErrInt, 0},
		{"-9007199254740992", api.ErrInt, 0},
		{"[9007199254740991,9007199254740992]", api.ErrInt, 18},
		{"9223372036854775807", api.ErrInt, 0},
		{"9223372036854775808", api.ErrInt, 0},
		{"18446744073709551616", api.ErrInt, 0},
		{"18446744073709551617", api.ErrInt, 0},
		{strings.Repeat("9", api.MaxBytes), api.ErrInt, 0},
		{"1" + strings.Repeat("0", 64), api.ErrInt, 0},
		{"[9007199254740992x", api.ErrInt, 1},
		{"9007199254740992 x", api.ErrInt, 0},
	})
}

func TestDecodeTail(t *testing.T) {
	refuse(t, []wrong{
		{"1 2", api.ErrTail, 2},
		{"01", api.ErrTail, 1},
		{"-01", api.ErrTail, 2},
		{"00.5", api.ErrTail, 1},
		{"1x", api.ErrTail, 1},
		{"1 .5", api.ErrTail, 2},
		{"1-", api.ErrTail, 1},
		{"nullnull", api.ErrTail, 4},
		{"[]]", api.ErrTail, 2},
		{"[] \t\r\n,", api.ErrTail, 6},
		{"{}{}", api.ErrTail, 2},
		{"\"\"\x00", api.ErrTail, 2},
		{"\"\"\v", api.ErrTail, 2},
		{"1\u00a0", api.ErrTail, 1},
		{"1 é", api.ErrTail, 2},
	})
}

func TestDecodeDeep(t *testing.T) {
	open := func(n int) string { return strings.Repeat("[", n) }
	shut := func(n int) string { return strings.Repeat("]", n) }
	maps := func(n int) string { return strings.Repeat(`{"a":`, n) }
	for _, s := range []string{
		open(12) + shut(12),
		open(12) + "\n" + shut(12),
		open(11) + "1" + shut(11),
		open(11) + "{ }" + shut(11),
		maps(11) + "null" + strings.Repeat("}", 11),
		maps(11) + "{}" + strings.Repeat("}", 11),
		open(11) + "[],[]" + shut(11),
	} {
		if j := mustDecode(t, s); !Good(j) {
			t.Errorf("%s: not good", s)
		}
	}
	var l []wrong
	for _, sign := range []string{"[", "{", `"`, "n", "t", "f", "-", "0", "1", "2", "3", "4", "5", "6", "7", "8", "9"} {
		l = append(l,
			wrong{open(12) + sign, api.ErrDeep, 12},
			wrong{open(12) + " " + sign + "?", api.ErrDeep, 13},
			wrong{maps(12) + sign, api.ErrDeep, 60},
			wrong{maps(12) + "\t" + sign + "?", api.ErrDeep, 61})
	}
	refuse(t, append(l,
		wrong{open(13), api.ErrDeep, 12},
		wrong{open(13) + shut(13), api.ErrDeep, 12},
		wrong{open(12) + "1" + shut(12), api.ErrDeep, 12},
		wrong{open(5000), api.ErrDeep, 12},
		wrong{open(11) + "[],[[" + shut(12), api.ErrDeep, 15},
		wrong{open(11) + `{"a":1}` + shut(11), api.ErrDeep, 16},
		wrong{open(12) + "9007199254740992", api.ErrDeep, 12},
		wrong{open(12) + "x", api.ErrJson, 12},
		wrong{open(12) + ",", api.ErrJson, 12},
		wrong{open(12) + "}", api.ErrJson, 12},
		wrong{open(12), api.ErrJson, 12},
		wrong{maps(12) + "x", api.ErrJson, 60},
		wrong{maps(12), api.ErrJson, 60},
		wrong{open(11) + "{" + shut(11), api.ErrJson, 12},
		wrong{open(11) + `{"a`, api.ErrJson, 14},
		wrong{open(11) + "{1", api.ErrJson, 12}))
}

func TestDecodeTwice(t *testing.T) {
	refuse(t, []wrong{
		{`{"a":1,"a":2}`, api.ErrTwice, 7},
		{`{"a":1, "a":1}`, api.ErrTwice, 8},
		{`{"":1,"":2}`, api.ErrTwice, 6},
		{`{"a":1,"b":2,"c":3,"b":4}`, api.ErrTwice, 19},
		{`{"a":1,"\u0061":2}`, api.ErrTwice, 7},
		{`{"\/":1,"/":2}`, api.ErrTwice, 8},
		{`{"\ud83d\ude00":1,"😀":2}`, api.ErrTwice, 18},
		{`[{"a":{"b":1,"b":2}}]`, api.ErrTwice, 13},
		{`{"a":{"a":1},"a":2}`, api.ErrTwice, 13},
		{`{"a":1,"a"`, api.ErrTwice, 7},
		{`{"a":1,"a"x`, api.ErrTwice, 7},
		{`{"a":1,"a":x`, api.ErrTwice, 7},
		{`{"a":1,"a":1.5`, api.ErrTwice, 7},
		{`{"a":1,"a`, api.ErrJson, 9},
		{`{"a":1,"a\x"`, api.ErrJson, 10},
		{`{"a":1,a`, api.ErrJson, 7},
	})
}

func TestDecodeUtf(t *testing.T) {
	refuse(t, []wrong{
		{"\xff", api.ErrUtf, 0},
		{"\"\xff\"", api.ErrUtf, 1},
		{"\x80", api.ErrUtf, 0},
		{"\"é\x80\"", api.ErrUtf, 3},
		{"\"\xe2\x82\"", api.ErrUtf, 1},
		{"\"\xe2\x82\xac\xe2\x82", api.ErrUtf, 4},
		{"\"\xc3\"", api.ErrUtf, 1},
		{"\"\xc0\x80\"", api.ErrUtf, 1},
		{"\"\xc1\xbf\"", api.ErrUtf, 1},
		{"\"\xe0\x9f\xbf\"", api.ErrUtf, 1},
		{"\"\xed\xa0\x80\"", api.ErrUtf, 1},
		{"\"\xed\xbf\xbf\"", api.ErrUtf, 1},
		{"\"\xf0\x8f\xbf\xbf\"", api.ErrUtf, 1},
		{"\"\xf4\x90\x80\x80\"", api.ErrUtf, 1},
		{"\"\xf5\x80\x80\x80\"", api.ErrUtf, 1},
		{"\"\xf0\x9f\x98\"", api.ErrUtf, 1},
		{"\"\uFFFD\xbd\"", api.ErrUtf, 4},
		{"\"\xef\xbf\"", api.ErrUtf, 1},
		// Bytes that are no letter's come ahead of all else that is wrong ahead of them.
		{"x\xff", api.ErrUtf, 1},
		{"1 2\xff", api.ErrUtf, 3},
		{"1.5 \xff", api.ErrUtf, 4},
		{"[[[[[[[[[[[[[\xff", api.ErrUtf, 13},
		{"{\"a\":1,\"a\":1}\xff", api.ErrUtf, 13},
		{"\"\\ud800\xff\"", api.ErrUtf, 7},
	})
}

func TestDecodeLong(t *testing.T) {
	xs := strings.Repeat("x", api.MaxBytes)
	for _, s := range []string{
		`"` + xs[:api.MaxBytes-2] + `"`,
		strings.Repeat(" ", api.MaxBytes-1) + "1",
		"1" + strings.Repeat("\n", api.MaxBytes-1),
	} {
		if len(s) != api.MaxBytes {
			t.Fatal(len(s))
		}
		mustDecode(t, s)
	}
	refuse(t, []wrong{
		{`"` + xs[:api.MaxBytes-1] + `"`, api.ErrLong, api.MaxBytes},
		{"1" + strings.Repeat(" ", api.MaxBytes), api.ErrLong, api.MaxBytes},
		{strings.Repeat("\xff", api.MaxBytes+1), api.ErrLong, api.MaxBytes},
		{strings.Repeat("]", 3*api.MaxBytes), api.ErrLong, api.MaxBytes},
		{strings.Repeat("\xff", api.MaxBytes), api.ErrUtf, 0},
		{xs, api.ErrJson, 0},
		{`"` + xs[1:], api.ErrJson, api.MaxBytes},
		{"[" + strings.Repeat("0,", api.MaxBytes/2-1) + "0", api.ErrJson, api.MaxBytes},
		{strings.Repeat(" ", api.MaxBytes), api.ErrJson, api.MaxBytes},
		{strings.Repeat(" ", api.MaxBytes-2) + "00", api.ErrTail, api.MaxBytes - 1},
	})
}

func TestDecodeManyKeys(t *testing.T) {
	var b bytes.Buffer
	b.WriteString("{")
	n := 0
	for i := 0x4E00; b.Len()+9 < api.MaxBytes-16; i++ {
		b.WriteString(`"` + string(rune(0x9F00-i+0x4E00)) + `":1,`)
		n++
	}
	begun := b.String()
	j := mustDecode(t, begun+`"x":1}`)
	if len(j.Keys) != n+1 || !sorted(j) || !Good(j) {
		t.Errorf("%d keys, in order: %v", len(j.Keys), sorted(j))
	}
	refuse(t, []wrong{{begun + "\"\u9F00\":1}", api.ErrTwice, len(begun)}})
}
