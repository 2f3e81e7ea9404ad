package frame

import (
	"fmt"
	"math/rand"
	"strings"
	"testing"

	"agora/api"
	"agora/canon"
)

// TestBlanksAndOrder (17.3): a head and events with blanks, and in another order.
func TestBlanksAndOrder(t *testing.T) {
	reads(t, "by hand", framed(" {\t\"room\" : \"!r:s\",\r\n\"kind\":1 , \"at\":5 }\n"), api.Message{Kind: api.MHeart, Room: "!r:s", At: 5})
	r := rand.New(rand.NewSource(173))
	for _, kind := range all() {
		for _, m := range []api.Message{bare(kind), rich(kind), greatest(kind)} {
			m = shorter(m)
			for range 40 {
				parts := noisily(r, partsOf(m))
				reads(t, fmt.Sprintf("kind %d, %.300q", kind, parts), framed(parts...), m)
			}
		}
	}
}

// shorter tells the same message, its events such that blanks have room.
func shorter(m api.Message) api.Message {
	if len(m.Events) > 0 {
		room := m.Room
		m.Events = several(min(len(m.Events), 3))
		m = inRoom(m, room)
	}
	return m
}

// TestContentsInOrder (17.3): the content of each event is told in order.
func TestContentsInOrder(t *testing.T) {
	var parts []string
	want := api.Message{Kind: api.MGive, Room: here}
	for _, text := range []string{`{"b":1,"a":{"z":[{"y":1,"x":2}],"k":null}}`, `{}`, `{"body":"x"}`} {
		parts = append(parts, strings.Replace(plainBytes, "{}", text, 1))
		e := plain()
		e.Content = content(text)
		want.Events = append(want.Events, e)
	}
	b := framed(append([]string{`{"kind":6,"room":"!r:s1"}`}, parts...)...)
	reads(t, "contents", b, want)
	m, _ := Decode(b)
	for i, e := range m.Events {
		if !canon.Good(e.Content) || shown(api.Message{Events: []api.Event{e}}) != shown(arranged(api.Message{Events: []api.Event{e}})) {
			t.Errorf("%d: %+v", i, e.Content)
		}
	}
	if keys := m.Events[0].Content.Keys; strings.Join(keys, "") != "ab" {
		t.Error(keys)
	}
}

// filled tells a text with blanks behind it, so that it has so many bytes.
func filled(s string, n int) string { return s + strings.Repeat(" ", n-len(s)) }

// TestMaxBytes (17.3): a head, an event of MaxBytes bytes, blanks and all, and of one more.
func TestMaxBytes(t *testing.T) {
	for _, kind := range all() {
		m := rich(kind)
		for at := range partsOf(m) {
			for _, n := range []int{255, 256, 257, 4096} {
				parts := partsOf(m)
				parts[at] = filled(parts[at], max(n, len(parts[at])))
				reads(t, fmt.Sprintf("kind %d, part %d of %d bytes", kind, at, n), framed(parts...), m)
			}
			for ahead := range 2 {
				parts := partsOf(m)
				parts[at] = strings.Repeat("\n", ahead*100) + parts[at]
				short := parts[at]
				parts[at] = filled(short, api.MaxBytes)
				reads(t, fmt.Sprintf("kind %d, part %d of MaxBytes bytes", kind, at), framed(parts...), m)
				for _, n := range []int{api.MaxBytes + 1, api.MaxBytes + 2, 20000, 65535} {
					parts[at] = filled(short, n)
					none(t, fmt.Sprintf("kind %d, part %d of %d bytes", kind, at, n), framed(parts...))
				}
			}
		}
	}
	m := api.Message{Kind: api.MPush, Room: here, Events: []api.Event{long(api.MaxBytes)}}
	parts := partsOf(m)
	reads(t, "an event of MaxBytes bytes", framed(parts...), m)
	for _, longer := range []string{" " + parts[1], parts[1] + "\n", strings.Replace(parts[1], "x", "xx", 1)} {
		none(t, "an event of one more", framed(parts[0], longer))
	}
}

// TestMaxPiece (17.3): parts of as many bytes as may be are no more than MaxPiece; of that many, and of one more, there are none.
func TestMaxPiece(t *testing.T) {
	m := api.Message{Kind: api.MGive, Room: here, Events: several(api.MaxBatch)}
	parts := partsOf(m)
	for i := range parts {
		parts[i] = filled(parts[i], api.MaxBytes)
	}
	if b := framed(parts...); len(b) > api.MaxPiece {
		t.Fatal(len(b))
	}
	reads(t, "parts of MaxBytes bytes", framed(parts...), m)
	for _, n := range []int{api.MaxPiece, api.MaxPiece + 1} {
		l := partsOf(m)
		for i := range l {
			l[i] = filled(l[i], n/len(l)-2)
		}
		l[0] = filled(l[0], len(l[0])+n-len(framed(l...)))
		if b := framed(l...); len(b) != n {
			t.Fatal(len(b))
		}
		none(t, fmt.Sprint(n, " bytes"), framed(l...))
	}
}

// TestOtherSpellings (17.3): bytes that differ in more than order and blanks are none of the message, though canon takes them for the same.
func TestOtherSpellings(t *testing.T) {
	letters := "a é / \" \\ \b\f\n\r\t \x00\x01\x1f \x7f \u2028 \U0001F600 ABCDEF abcdef"
	e := plain()
	e.Content = api.Json{Kind: api.JMap, Keys: []string{"n", letters}, List: []api.Json{{Kind: api.JInt}, {Kind: api.JText, Text: letters}}}
	m := api.Message{Kind: api.MPush, Room: here, Events: []api.Event{e}}
	taken(t, "canonical", m)
	parts := partsOf(m)
	reads(t, "canonical", framed(parts...), m)
	for _, c := range [][2]string{
		{`a`, `\u0061`}, {`é`, `\u00e9`}, {`/`, `\/`}, {`/`, `\u002f`}, {`\"`, `\u0022`}, {`\\`, `\u005c`}, {`\b`, `\u0008`}, {`\f`, `\u000c`}, {`\n`, `\u000a`},
		{`\r`, `\u000d`}, {`\t`, `\u0009`}, {`\u001f`, `\u001F`}, {"\x7f", `\u007f`}, {"\u2028", `\u2028`}, {"\U0001F600", `\ud83d\ude00`}, {"\U0001F600", `\uD83D\uDE00`},
		{`"n":0`, `"n":-0`}, {`"n":0`, `"\u006e":0`}, {`"ts":0`, `"ts":-0`}, {`"ts"`, `"t\u0073"`}, {`"@ann:s1"`, `"\u0040ann:s1"`}, {` `, `\u0020`},
	} {
		if !strings.Contains(parts[1], c[0]) {
			t.Fatalf("%q lacks %q", parts[1], c[0])
		}
		other := strings.Replace(parts[1], c[0], c[1], 1)
		a, _, _ := canon.Decode([]byte(parts[1]))
		b, err, _ := canon.Decode([]byte(other))
		if err != api.OK || fmt.Sprint(a) != fmt.Sprint(b) {
			t.Fatalf("%q is another event, error %d", other, err)
		}
		none(t, fmt.Sprintf("%q in the place of %q", c[1], c[0]), framed(parts[0], other))
		none(t, fmt.Sprintf("%q in the place of %q, and no blank", c[1], c[0]), framed(parts[0], strings.ReplaceAll(other, " ", "")))
	}
	for _, first := range []string{`{"at":-0,"kind":2,"room":"!r:s1"}`, `{"at":0,"\u006bind":2,"room":"!r:s1"}`, `{"at":0,"kind":2,"room":"\u0021r:s1"}`} {
		none(t, first, framed(first))
	}
}

// TestPartsBehindOneAnother (17.3): events come in the order of their parts.
func TestPartsBehindOneAnother(t *testing.T) {
	for n := range api.MaxBatch + 1 {
		m := api.Message{Kind: api.MBatch, Room: here, At: 3, Events: several(n)}
		got, err := Decode(model(m))
		if err != api.OK || len(got.Events) != n {
			t.Fatalf("%d events: %d, error %d", n, len(got.Events), err)
		}
		for i, e := range got.Events {
			if e.Ts != int64(i) {
				t.Errorf("%d at %d", e.Ts, i)
			}
		}
	}
}
