package event

import (
	"strings"
	"testing"

	"agora/api"
	"agora/canon"
)

const fullBytes = `{"auth":["$AAAAAAAAAAE","$AAAAAAAAAAI","$AAAAAAAAAAM"],"content":{"a":{"y":null,"z":-1},"membership":"invite"},"depth":7,"hash":"AAAAAAAAAAU","key":"@bob:s3","prev":["$AAAAAAAAAAE","$AAAAAAAAAAI"],"room":"!r:s1","sender":"@ann:s2","sigs":{"s1":"AAAAAAAAAAE","s2":"AAAAAAAAAAI"},"ts":99,"type":"m.room.member"}`

const plainBytes = `{"auth":[],"content":{},"depth":0,"hash":"","prev":[],"room":"!r:s1","sender":"@ann:s1","sigs":{},"ts":0,"type":"m.room.message"}`

// TestEncode (5.4): bytes by hand.
func TestEncode(t *testing.T) {
	if b, err := Encode(full()); string(b) != fullBytes || err != api.OK {
		t.Errorf("full: %s, error %d", b, err)
	}
	if b, err := Encode(plain()); string(b) != plainBytes || err != api.OK {
		t.Errorf("plain: %s, error %d", b, err)
	}
	e := plain()
	e.IsState, e.Key = true, "\"\\\n\x01é"
	want := strings.Replace(plainBytes, `"prev"`, `"key":"\"\\\n\u0001é","prev"`, 1)
	if b, err := Encode(e); string(b) != want || err != api.OK {
		t.Errorf("a key: %s, error %d", b, err)
	}
}

// TestEncodeIsCanon (5.4): the bytes are those of ToJson.
func TestEncodeIsCanon(t *testing.T) {
	for _, c := range rightOnes() {
		e := full()
		c.do(&e)
		b, err := Encode(e)
		want, fault := canon.Encode(ToJson(e))
		if string(b) != string(want) || err != fault {
			t.Errorf("%s: %s, error %d", c.what, b, err)
		}
	}
}

// TestDecode (5.4): blanks and other ways to write the same do not matter.
func TestDecode(t *testing.T) {
	want := full()
	want.Content = arranged(want.Content)
	for _, s := range []string{
		fullBytes,
		" \t\r\n" + strings.ReplaceAll(fullBytes, ",", " ,\n ") + " ",
		strings.ReplaceAll(fullBytes, "@", `\u0040`),
		strings.ReplaceAll(fullBytes, `"type"`, `"\u0074ype"`),
		`{"type":"m.room.member",` + strings.TrimSuffix(fullBytes[1:], `,"type":"m.room.member"}`) + "}",
		strings.Replace(fullBytes, `{"s1":"AAAAAAAAAAE","s2":"AAAAAAAAAAI"}`, `{"s2":"AAAAAAAAAAI","s1":"AAAAAAAAAAE"}`, 1),
		strings.Replace(fullBytes, `{"y":null,"z":-1}`, `{"z":-1,"y":null}`, 1),
	} {
		if e, err := Decode([]byte(s)); err != api.OK || !same(e, want) {
			t.Errorf("%s: %+v, error %d", s, e, err)
		}
	}
	if e, err := Decode([]byte(strings.Replace(plainBytes, `"depth":0`, `"depth":-0`, 1))); err != api.OK || !same(e, plain()) {
		t.Errorf("-0: %+v, error %d", e, err)
	}
}

// TestDecodeJson (5.4): what Decode (1) refuses is its error, whatever the event would be.
func TestDecodeJson(t *testing.T) {
	cut := fullBytes[:len(fullBytes)-1]
	for s, want := range map[string]api.Errno{
		"":              api.ErrJson,
		"{":             api.ErrJson,
		cut:             api.ErrJson,
		cut + `,}`:      api.ErrJson,
		"\xff":          api.ErrUtf,
		cut + "\xff}":   api.ErrUtf,
		fullBytes + "x": api.ErrTail,
		fullBytes + "}": api.ErrTail,
		strings.Replace(fullBytes, `"ts":99`, `"ts":1.5`, 1):                     api.ErrInt,
		strings.Replace(fullBytes, `"ts":99`, `"ts":9007199254740992`, 1):        api.ErrInt,
		strings.Replace(fullBytes, `"ts":99`, `"ts":99,"ts":99`, 1):              api.ErrTwice,
		strings.Replace(fullBytes, `"s2":`, `"s1":`, 1):                          api.ErrTwice,
		strings.Replace(fullBytes, `null`, strings.Repeat("[", api.MaxDepth), 1): api.ErrDeep,
		fullBytes + strings.Repeat(" ", api.MaxBytes):                            api.ErrLong,
		strings.Repeat(" ", api.MaxBytes+1):                                      api.ErrLong,
		"[1.5":                                                                   api.ErrInt,
	} {
		if e, err := Decode([]byte(s)); err != want || !same(e, api.Event{}) {
			t.Errorf("%.400q: %+v, error %d, not %d", s, e, err, want)
		}
	}
}

// TestDecodeShape (5.4): JSON that is no event's is ErrShape.
func TestDecodeShape(t *testing.T) {
	for _, s := range []string{
		"null", "true", "1", `""`, "[]", "{}", "[" + plainBytes + "]",
		strings.Replace(fullBytes, `"ts":99,`, ``, 1),
		strings.Replace(fullBytes, `"ts":99`, `"ts":-1`, 1),
		strings.Replace(fullBytes, `"ts":99`, `"ts":"99"`, 1),
		strings.Replace(fullBytes, `"ts":99`, `"ts":99,"x":null`, 1),
		strings.Replace(fullBytes, `"key":"@bob:s3"`, `"key":null`, 1),
		strings.Replace(fullBytes, `"depth":7`, `"depth":1099511627777`, 1),
		strings.Replace(fullBytes, `"$AAAAAAAAAAM"`, `"$AAAAAAAAAAE"`, 1),
		strings.Replace(fullBytes, `"AAAAAAAAAAU"`, `"AAAAAAAAAAV"`, 1),
		strings.Replace(fullBytes, `{"s1":"AAAAAAAAAAE","s2":"AAAAAAAAAAI"}`, `[]`, 1),
		strings.Replace(fullBytes, `"s1":"AAAAAAAAAAE"`, `"s1":""`, 1),
		strings.Replace(fullBytes, `"s1":"AAAAAAAAAAE"`, `"S1":"AAAAAAAAAAE"`, 1),
		strings.Replace(fullBytes, `{"a":{"y":null,"z":-1},"membership":"invite"}`, `[]`, 1),
	} {
		if e, err := Decode([]byte(s)); err != api.ErrShape || !same(e, api.Event{}) {
			t.Errorf("%s: %+v, error %d", s, e, err)
		}
	}
}

// TestDecodeEdges (5.4): just MaxBytes bytes, of an event, and with blanks.
func TestDecodeEdges(t *testing.T) {
	e := long(t, api.MaxBytes)
	if got, err := Decode([]byte(model(e))); err != api.OK || !same(got, e) {
		t.Errorf("MaxBytes: error %d", err)
	}
	if got, err := Decode([]byte(model(e) + " ")); err != api.ErrLong || !same(got, api.Event{}) {
		t.Errorf("a blank more: error %d", err)
	}
	if got, err := Decode([]byte(model(long(t, api.MaxBytes+1)))); err != api.ErrLong || !same(got, api.Event{}) {
		t.Errorf("a byte more: error %d", err)
	}
	if got, err := Decode([]byte(plainBytes + strings.Repeat(" ", api.MaxBytes-len(plainBytes)))); err != api.OK || !same(got, plain()) {
		t.Errorf("filled with blanks: error %d", err)
	}
	e = plain()
	e.Content = nested(api.MaxDepth - 1)
	if got, err := Decode([]byte(model(e))); err != api.OK || !same(got, e) {
		t.Errorf("the deepest content: error %d", err)
	}
	e.Content = nested(api.MaxDepth)
	if got, err := Decode([]byte(model(e))); err != api.ErrDeep || !same(got, api.Event{}) {
		t.Errorf("deeper: error %d", err)
	}
}
