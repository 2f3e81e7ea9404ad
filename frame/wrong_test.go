package frame

import (
	"encoding/binary"
	"fmt"
	"slices"
	"strings"
	"testing"

	"agora/api"
)

// TestNoParts (17.3): no bytes, and bytes in which no part is whole.
func TestNoParts(t *testing.T) {
	none(t, "nil", nil)
	for a := range 256 {
		none(t, "one byte", []byte{byte(a)})
		none(t, "two bytes", []byte{0, byte(a)})
		none(t, "two bytes", []byte{byte(a), 0})
	}
	none(t, "a head alone", []byte(`{"at":5,"kind":1,"room":"!r:s"}`))
	none(t, "a head behind one byte", []byte("\x1f"+`{"at":5,"kind":1,"room":"!r:s"}`))
	none(t, "the lowest first", []byte("\x1f\x00"+`{"at":5,"kind":1,"room":"!r:s"}`))
	none(t, "four bytes ahead", []byte("\x00\x00\x00\x1f"+`{"at":5,"kind":1,"room":"!r:s"}`))
	for _, first := range []string{"", " ", "x", "null", "true", "1", `"x"`, "[]", "{}", "[{}]", `{`, `{"at":5,"kind":1,"room":"!r:s"`, `{"at":5,"kind":1,"room":"!r:s"}}`,
		`{"at":5,"kind":1,"room":"!r:s"},`, `{"at":5,"kind":1,"room":"!r:s"}{}`, `[{"at":5,"kind":1,"room":"!r:s"}]`, `["at",5,"kind",1,"room","!r:s"]`,
		`{"at":5,"kind":1,"room":"!r:s",}`, `{"at":5 "kind":1,"room":"!r:s"}`, `{at:5,"kind":1,"room":"!r:s"}`, "{\"at\":5,\"kind\":1,\"room\":\"!r:\xff\"}",
		"\ufeff" + `{"at":5,"kind":1,"room":"!r:s"}`, `{"at":05,"kind":1,"room":"!r:s"}`, `{"at":+5,"kind":1,"room":"!r:s"}`, strings.Repeat("[", 20), "\x00"} {
		none(t, "a head that is none", framed(first))
		none(t, "a head that is none, and an event", framed(first, plainBytes))
	}
}

// keysOf tells the keys of a head, rising.
func keysOf(h map[string]any) []string {
	var l []string
	for key := range h {
		l = append(l, key)
	}
	slices.Sort(l)
	return l
}

// otherValues tells, as texts of JSON, values of other types than that of a key, and some of its type that it may not have.
func otherValues(key string) []string {
	row := []string{`[]`, `["$AAAAAAAAAAE"]`, `["$AAAAAAAAAAE","$AAAAAAAAAAI"]`}
	number := []string{`0`, `1`, `5`}
	word := []string{`""`, `"@ann:s1"`, `"!r:s1"`, `"join"`, `"$AAAAAAAAAAE"`, `"5"`}
	l := []string{`null`, `true`, `false`, `{}`, `{"a":"$AAAAAAAAAAE"}`, `{"kind":1}`, `1.0`, `1e0`, `9007199254740992`, `-9007199254740992`, `-1`, `"\ud800"`}
	switch key {
	case "kind", "at", "err", "depth":
		l = append(append(l, row...), word...)
	case "prev", "auth", "names":
		l = append(append(l, number...), word...)
		l = append(l, `[1]`, `[null]`, `[""]`, `["$"]`, `["$AAAAAAAAAAE",1]`, `["$AAAAAAAAAAE",["$AAAAAAAAAAI"]]`, `[["$AAAAAAAAAAE"]]`, `[{"a":"$AAAAAAAAAAE"}]`, `["@ann:s1"]`)
	default:
		l = append(append(l, row...), number...)
		l = append(l, `["@ann:s1"]`, `["!r:s1"]`, `["join"]`, `""`, `"x"`)
	}
	switch key {
	case "kind":
		l = append(l, `0`, `12`, `13`, `255`, `257`, `4294967297`, `9007199254740991`, `9007199254740987`)
	case "err":
		l = append(l, `256`, `511`, `4294967296`, `9007199254740991`)
	case "depth":
		l = append(l, `1099511627777`, `9007199254740991`)
	case "names":
		l = append(l, `[]`)
	}
	return l
}

// written tells a head by keys and texts of JSON, in the order of the keys.
func written(keys []string, values map[string]string) string {
	var l []string
	for _, key := range keys {
		l = append(l, `"`+key+`":`+values[key])
	}
	return "{" + strings.Join(l, ",") + "}"
}

// valuesOf tells the values of a head as texts of JSON.
func valuesOf(h map[string]any) map[string]string {
	m := map[string]string{}
	for key, v := range h {
		m[key] = goJson(v)
	}
	return m
}

// TestWrongHeads (17.3): heads that lack a key, that have one more, or one twice, or a value that may not be.
func TestWrongHeads(t *testing.T) {
	tried := 0
	for _, kind := range all() {
		for _, m := range []api.Message{bare(kind), rich(kind)} {
			h, rest := headOf(m), partsOf(m)[1:]
			keys, values := keysOf(h), valuesOf(h)
			bad := func(what, first string) {
				tried++
				none(t, fmt.Sprintf("kind %d, %s: %s", kind, what, first), framed(append([]string{first}, rest...)...))
			}
			reads(t, "as it is", framed(append([]string{written(keys, values)}, rest...)...), m)
			for i, key := range keys {
				lacking := slices.Delete(slices.Clone(keys), i, i+1)
				bad("lacking", written(lacking, values))
				bad("twice", written(append(slices.Clone(keys), key), values))
				for _, other := range []string{strings.ToUpper(key), key + " ", " " + key, key + "s", "", "x"} {
					values[other] = values[key]
					bad("another key", written(slices.Insert(slices.Clone(lacking), i, other), values))
					bad("one more", written(append(slices.Clone(keys), other), values))
				}
				was := values[key]
				for _, v := range otherValues(key) {
					if values[key] = v; v != was {
						bad("another value of "+key, written(keys, values))
					}
				}
				values[key] = was
			}
			for key, v := range valuesOf(headOf(rich(api.MDraft))) {
				if values[key] == "" {
					values[key] = v
					bad("what is another kind's", written(append(slices.Clone(keys), key), values))
				}
			}
			for key, zeros := range map[string][]string{"at": {"0", "null"}, "names": {"[]", "null"}, "err": {"0"}, "user": {`""`}, "what": {`""`}, "events": {"[]"}, "prev": {"[]"}, "auth": {"[]"}, "depth": {"0"}} {
				if _, ok := h[key]; !ok {
					for _, zero := range zeros {
						values[key] = zero
						bad("what is zero", written(append(slices.Clone(keys), key), values))
					}
				}
			}
		}
	}
	if tried < 1500 {
		t.Error("too few:", tried)
	}
}

// TestPartsThatAreNotRight (17.3): heads whose keys and types are right, but which no right message has.
func TestPartsThatAreNotRight(t *testing.T) {
	tried := 0
	for _, kind := range all() {
		for _, e := range edges() {
			m := with(rich(kind), e.do)
			if modelRight(m) || !has(kind, e.word) {
				continue
			}
			tried++
			none(t, fmt.Sprintf("kind %d, %s %s", kind, e.word, e.what), model(m))
		}
		for _, room := range []string{"", "!r", ann, "!R:s1", "!l" + longest} {
			none(t, fmt.Sprintf("kind %d, room %q", kind, room), framed(append([]string{goJson(headOf(with(rich(kind), func(m *api.Message) { m.Room = room })))}, partsOf(rich(kind))[1:]...)...))
		}
	}
	if tried < 200 {
		t.Error("too few:", tried)
	}
}

// TestWrongEvents (17.3): parts behind the head that are no event, or none of the room, or too many, or too few.
func TestWrongEvents(t *testing.T) {
	bad := map[string]string{"no bytes": "", "blanks": "  ", "null": "null", "a map": "{}", "a list": "[" + plainBytes + "]", "a text": `"x"`, "a head": `{"kind":6,"room":"!r:s1"}`, "a frame": string(framed(plainBytes))}
	for _, c := range [][3]string{
		{"a key lacks", `"ts":0,`, ``}, {"a key more", `"ts":0`, `"ts":0,"x":0`}, {"a key twice", `"ts":0`, `"ts":0,"ts":0`}, {"a text for a number", `"ts":0`, `"ts":"0"`},
		{"below 0", `"ts":0`, `"ts":-1`}, {"no map", `"content":{}`, `"content":[]`}, {"a type that is none", `m.room.message`, `m room`}, {"another room", `!r:s1`, `!r:s2`},
		{"no room", `!r:s1`, `r`}, {"no sender", `@ann:s1`, `ann`}, {"no name", `"prev":[]`, `"prev":["$"]`}, {"cut off", `"}`, `"`}, {"one more", `"}`, `"}}`}, {"a byte that is no letter", "m.room", "m.\xff"},
	} {
		if bad[c[0]] = strings.Replace(plainBytes, c[1], c[2], 1); bad[c[0]] == plainBytes {
			t.Fatal(c)
		}
	}
	for _, kind := range all() {
		m := rich(kind)
		first := partsOf(m)[0]
		for what, part := range bad {
			none(t, fmt.Sprintf("kind %d: %s", kind, what), framed(first, part))
			for at := range 4 {
				none(t, fmt.Sprintf("kind %d, at %d: %s", kind, at, what), framed(slices.Insert([]string{first, plainBytes, plainBytes, plainBytes}, 1+at, part)...))
			}
		}
		for _, n := range []int{0, 1, 2, 3, api.MaxBatch, api.MaxBatch + 1, 300} {
			b := framed(append([]string{first}, slices.Repeat([]string{plainBytes}, n)...)...)
			if m.Events = slices.Repeat([]api.Event{plain()}, n); may(kind, n) {
				reads(t, fmt.Sprintf("kind %d: %d events", kind, n), b, m)
			} else {
				none(t, fmt.Sprintf("kind %d: %d events", kind, n), b)
			}
		}
	}
}

// starts tells where the parts of bytes begin, and their end.
func starts(parts []string) []int {
	l := []int{0}
	for _, p := range parts {
		l = append(l, l[len(l)-1]+2+len(p))
	}
	return l
}

// TestWrongLengths (17.3): a part's length that is another one, or reaches behind the end.
func TestWrongLengths(t *testing.T) {
	for _, kind := range all() {
		for _, m := range []api.Message{bare(kind), rich(kind)} {
			parts := partsOf(m)
			b := framed(parts...)
			for i, at := range starts(parts)[:len(parts)] {
				long := len(parts[i])
				for _, n := range []int{0, 1, long - 2, long - 1, long + 1, long + 2, long + 3, long + 256, len(b), len(b) + 1, 65535, 32768 + long} {
					if n == long {
						continue
					}
					other := slices.Clone(b)
					binary.BigEndian.PutUint16(other[at:], uint16(n))
					none(t, fmt.Sprintf("kind %d, part %d: %d for %d", kind, i, n, long), other)
				}
			}
		}
	}
}

// TestCutOff (17.3, 17.4): bytes that are cut off within a part are none; between two they are the message of fewer events, if that is right.
func TestCutOff(t *testing.T) {
	for _, kind := range all() {
		for _, m := range []api.Message{bare(kind), rich(kind)} {
			parts := partsOf(m)
			b := framed(parts...)
			ends := starts(parts)[1:]
			for n := range len(b) {
				fewer := slices.Index(ends, n)
				if fewer < 0 || !may(kind, fewer) {
					none(t, fmt.Sprintf("kind %d, cut at %d", kind, n), b[:n])
					continue
				}
				o := m
				o.Events = m.Events[:fewer]
				reads(t, fmt.Sprintf("kind %d, cut at %d", kind, n), b[:n], o)
			}
		}
	}
}

// TestBehindTheLastPart (17.3): bytes behind the last part that are no event.
func TestBehindTheLastPart(t *testing.T) {
	for _, kind := range all() {
		for _, m := range []api.Message{bare(kind), rich(kind)} {
			b := model(m)
			for a := range 256 {
				none(t, fmt.Sprintf("kind %d, %d behind", kind, a), append(slices.Clone(b), byte(a)))
			}
			for _, tail := range []string{"\x00\x00", " ", "\n\n", "\x00\x01 ", "\x00\x01x", "\x00\x02{}", "\xff\xff", "}", plainBytes, string(b), "\x00\x82" + plainBytes[:len(plainBytes)-1]} {
				none(t, fmt.Sprintf("kind %d, %q behind", kind, tail), append(slices.Clone(b), tail...))
			}
		}
	}
}
