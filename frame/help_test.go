package frame

import (
	"bytes"
	"encoding/base64"
	"encoding/binary"
	"encoding/json"
	"fmt"
	"math/rand"
	"slices"
	"strings"
	"testing"

	"agora/api"
	"agora/canon"
	"agora/event"
)

const (
	here = "!r:s1"
	ann  = "@ann:s1"
	bob  = "@bob:s2"
)

// longest is a name of a room or a user, but for its sign, that has as many letters as may be.
var longest = strings.Repeat("l", api.MaxLocal) + ":" + strings.Repeat("s", api.MaxServer)

// table is the chapter's, word by word.
func table() map[int]string {
	return map[int]string{
		api.MHeart: "room, at", api.MPull: "room, at",
		api.MBatch:   "room, at, events",
		api.MPush:    "room, one event",
		api.MMissing: "room, names",
		api.MGive:    "room, events",
		api.MAsk:     "room, user, what",
		api.MDraft:   "room, user, what, err, draft",
		api.MSend:    "room, what, one event",
		api.MDone:    "room, user, what, err",
		api.MInvite:  "room, user, one event",
	}
}

// has tells whether the table's row of a kind has a word.
func has(kind int, word string) bool {
	return slices.Contains(strings.Split(table()[kind], ", "), word)
}

// all tells all kinds of the table, rising.
func all() []int {
	var l []int
	for kind := range table() {
		l = append(l, kind)
	}
	slices.Sort(l)
	return l
}

// name tells an event's name by a number.
func name(n int) string {
	return "$" + base64.RawStdEncoding.EncodeToString(binary.BigEndian.AppendUint64(nil, uint64(n)))
}

// names tells so many events' names.
func names(n int) []string {
	var l []string
	for i := range n {
		l = append(l, name(i+1))
	}
	return l
}

// content tells what a text of JSON says.
func content(s string) api.Json {
	j, err, at := canon.Decode([]byte(s))
	if err != api.OK {
		panic(fmt.Sprintf("%s: error %d at %d", s, err, at))
	}
	return j
}

// plain tells an event that has as little as may be.
func plain() api.Event {
	return api.Event{Room: here, Type: api.TMessage, Sender: ann, Content: content(`{}`)}
}

// full tells an event that has something of everything, its content not in order.
func full() api.Event {
	c := content(`{"a":[1,{"x":null,"y":"é \" \\ \n \u001f /"}],"body":"two words","c":true}`)
	slices.Reverse(c.Keys)
	slices.Reverse(c.List)
	return api.Event{
		Room: here, Type: api.TMember, Sender: bob, IsState: true, Key: bob, Content: c, Prev: names(2), Auth: names(3), Depth: 9, Ts: 77,
		Hash: name(5)[1:], Sigs: []api.Sig{{Server: "s1", Token: name(6)[1:]}, {Server: "s2", Token: name(7)[1:]}},
	}
}

// several tells so many events, no two of which are the same.
func several(n int) []api.Event {
	var l []api.Event
	for i := range n {
		e := []api.Event{plain(), full()}[i%2]
		e.Ts = int64(i)
		l = append(l, e)
	}
	return l
}

// long tells an event of just so many bytes; if these are too many, it is misshapen for that alone.
func long(n int) api.Event {
	e := plain()
	b, _ := event.Encode(e)
	e.Content = api.Json{Kind: api.JMap, Keys: []string{"a"}, List: []api.Json{{Kind: api.JText, Text: strings.Repeat("x", n-len(b)-len(`"a":""`))}}}
	return e
}

// bare tells a right message of a kind that has as little as may be.
func bare(kind int) api.Message {
	m := api.Message{Kind: kind, Room: here}
	if has(kind, "user") {
		m.User = ann
	}
	if has(kind, "what") {
		m.What = "join"
	}
	if has(kind, "names") {
		m.Names = names(1)
	}
	if has(kind, "one event") {
		m.Events = several(1)
	}
	return m
}

// rich tells a right message of a kind nothing of which is zero that may be something else.
func rich(kind int) api.Message {
	m := bare(kind)
	if has(kind, "what") {
		m.What = "leave"
	}
	if has(kind, "at") {
		m.At = 258
	}
	if has(kind, "err") {
		m.Err = api.ErrDenied
	}
	if has(kind, "draft") {
		m.Depth, m.Prev, m.Auth = 7, names(3), names(2)
	}
	if has(kind, "names") {
		m.Names = names(4)
	}
	if has(kind, "one event") {
		m.Events = []api.Event{full()}
	}
	if has(kind, "events") {
		m.Events = several(4)
	}
	return m
}

// with tells a message with something done to it.
func with(m api.Message, do ...func(m *api.Message)) api.Message {
	for _, d := range do {
		d(&m)
	}
	return m
}

// goJson tells a value's text by Go's own writer.
func goJson(v any) string {
	var b bytes.Buffer
	w := json.NewEncoder(&b)
	w.SetEscapeHTML(false)
	if err := w.Encode(v); err != nil {
		panic(err)
	}
	return strings.TrimSuffix(b.String(), "\n")
}

// headOf tells what a message's head has, by the table.
func headOf(m api.Message) map[string]any {
	h := map[string]any{"kind": m.Kind}
	for _, word := range strings.Split(table()[m.Kind], ", ") {
		switch word {
		case "room":
			h["room"] = m.Room
		case "user":
			h["user"] = m.User
		case "what":
			h["what"] = m.What
		case "at":
			h["at"] = m.At
		case "err":
			h["err"] = int(m.Err)
		case "draft":
			h["depth"], h["prev"], h["auth"] = m.Depth, append([]string{}, m.Prev...), append([]string{}, m.Auth...)
		case "names":
			h["names"] = append([]string{}, m.Names...)
		}
	}
	return h
}

// framed tells parts as bytes, each behind how many it has.
func framed(parts ...string) []byte {
	var b []byte
	for _, p := range parts {
		b = binary.BigEndian.AppendUint16(b, uint16(len(p)))
		b = append(b, p...)
	}
	return b
}

// partsOf tells the parts of a message: its head, and its events.
func partsOf(m api.Message) []string {
	l := []string{goJson(headOf(m))}
	for _, e := range m.Events {
		b, err := event.Encode(e)
		if err != api.OK {
			panic(fmt.Sprintf("an event: error %d", err))
		}
		l = append(l, string(b))
	}
	return l
}

// model tells a right message's bytes.
func model(m api.Message) []byte { return framed(partsOf(m)...) }

// shown tells all that a message has, as a text; an empty list may be nil.
func shown(m api.Message) string { return fmt.Sprintf("%+v", m) }

// arranged tells a message with its events' contents in order.
func arranged(m api.Message) api.Message {
	m.Events = slices.Clone(m.Events)
	for i := range m.Events {
		m.Events[i].Content = canon.Order(m.Events[i].Content)
	}
	return m
}

// taken holds all calls to a message that is right.
func taken(t *testing.T, what string, m api.Message) {
	t.Helper()
	if !Right(m) {
		t.Errorf("%s: not right", what)
	}
	b, err := Encode(m)
	if want := model(m); !bytes.Equal(b, want) || err != api.OK {
		t.Fatalf("%s: %.300q, error %d, not %.300q", what, b, err, want)
	}
	reads(t, what, b, m)
}

// refused holds Right and Encode to a message that is not right.
func refused(t *testing.T, what string, m api.Message) {
	t.Helper()
	if Right(m) {
		t.Errorf("%s: right", what)
	}
	if b, err := Encode(m); err != api.ErrFrame || len(b) > 0 {
		t.Errorf("%s: %.200q, error %d", what, b, err)
	}
}

// reads holds bytes to a message that is decoded of them.
func reads(t *testing.T, what string, b []byte, want api.Message) {
	t.Helper()
	got, err := Decode(b)
	if err != api.OK || shown(got) != shown(arranged(want)) {
		t.Errorf("%s: %.300q is %.300s, error %d, not %.300s", what, b, shown(got), err, shown(arranged(want)))
	}
}

// none holds bytes to be no message's.
func none(t *testing.T, what string, b []byte) {
	t.Helper()
	if m, err := Decode(b); err != api.ErrFrame || shown(m) != shown(api.Message{}) {
		t.Errorf("%s: %.300q is %.300s, error %d", what, b, shown(m), err)
	}
}

// noisy writes a value with its maps' keys in any order, and blanks wherever they may be.
func noisy(r *rand.Rand, j api.Json) string {
	blank := func() string {
		return []string{"", "", "", " ", "\t", "\n", "\r", " \r\n\t "}[r.Intn(8)]
	}
	s := ""
	switch j.Kind {
	case api.JList:
		s = "[" + blank()
		for i, v := range j.List {
			s += strings.Repeat(",", min(i, 1)) + noisy(r, v)
		}
		s += "]"
	case api.JMap:
		s = "{" + blank()
		for n, i := range r.Perm(len(j.List)) {
			key := noisy(r, api.Json{Kind: api.JText, Text: j.Keys[i]})
			s += strings.Repeat(",", min(n, 1)) + key + ":" + noisy(r, j.List[i])
		}
		s += "}"
	default:
		b, err := canon.Encode(j)
		if err != api.OK {
			panic("a value")
		}
		s = string(b)
	}
	return blank() + s + blank()
}

// noisily tells parts again in any order and with any blanks.
func noisily(r *rand.Rand, parts []string) []string {
	var l []string
	for _, p := range parts {
		l = append(l, noisy(r, content(p)))
	}
	return l
}
