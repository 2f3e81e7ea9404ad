package frame

import (
	"fmt"
	"math"
	"math/rand"
	"slices"
	"strings"
	"testing"

	"agora/api"
	"agora/event"
	"agora/ident"
)

// edge does something to a part of a message: may tells whether it may be so where the kind has the part, zero whether it is nothing.
type edge struct {
	word, what string
	do         func(m *api.Message)
	may, zero  bool
}

// edges tells those of all parts but rooms and events.
func edges() []edge {
	var l []edge
	add := func(word, what string, may, zero bool, do func(m *api.Message)) {
		l = append(l, edge{word, what, do, may, zero})
	}
	for _, s := range []string{ann, "@b:t", "@" + longest, "@0._-:-.9"} {
		add("user", s, true, false, func(m *api.Message) { m.User = s })
	}
	for _, s := range []string{"", "ann", "@ann", "ann:s1", "@:s1", "@ann:", "@Ann:s1", "@ann:s1:t", " @ann:s1", here, name(1), "@l" + longest, "@" + longest + "s"} {
		add("user", s, false, s == "", func(m *api.Message) { m.User = s })
	}
	for _, s := range []string{"join", "leave"} {
		add("what", s, true, false, func(m *api.Message) { m.What = s })
	}
	for _, s := range []string{"", "Join", "JOIN", "invite", "ban", "joi", "joins", "leave ", "join,leave", "knock", "\x00"} {
		add("what", s, false, s == "", func(m *api.Message) { m.What = s })
	}
	for _, n := range []int64{0, 1, 255, 256, math.MaxInt32, 1 << 32, api.MaxInt - 1, api.MaxInt} {
		add("at", fmt.Sprint(n), true, n == 0, func(m *api.Message) { m.At = n })
	}
	for _, n := range []int64{-1, -api.MaxInt, math.MinInt64, api.MaxInt + 1, math.MaxInt64} {
		add("at", fmt.Sprint(n), false, false, func(m *api.Message) { m.At = n })
	}
	for _, n := range []api.Errno{0, 1, 110, 127, 128, 254, 255} {
		add("err", fmt.Sprint(int(n)), true, n == 0, func(m *api.Message) { m.Err = n })
	}
	for _, n := range []api.Errno{-1, -255, math.MinInt64, 256, 257, 1 << 32, math.MaxInt64} {
		add("err", fmt.Sprint(int(n)), false, false, func(m *api.Message) { m.Err = n })
	}
	for _, n := range []int64{0, 1, 1 << 32, api.MaxHeight - 1, api.MaxHeight} {
		add("draft", fmt.Sprint("depth ", n), true, n == 0, func(m *api.Message) { m.Depth = n })
	}
	for _, n := range []int64{-1, math.MinInt64, api.MaxHeight + 1, api.MaxInt, math.MaxInt64} {
		add("draft", fmt.Sprint("depth ", n), false, false, func(m *api.Message) { m.Depth = n })
	}
	return append(l, rowEdges()...)
}

// rowEdges tells those of rows of names.
func rowEdges() []edge {
	var l []edge
	for _, row := range []struct {
		word, what  string
		least, most int
		put         func(m *api.Message, names []string)
	}{
		{"draft", "prev", 0, api.MaxPrev, func(m *api.Message, names []string) { m.Prev = names }},
		{"draft", "auth", 0, api.MaxAuth, func(m *api.Message, names []string) { m.Auth = names }},
		{"names", "names", 1, api.MaxBatch, func(m *api.Message, names []string) { m.Names = names }},
	} {
		add := func(what string, may bool, names []string) {
			l = append(l, edge{row.word, row.what + " " + what, func(m *api.Message) { row.put(m, names) }, may, len(names) == 0})
		}
		for _, n := range []int{0, 1, 2, row.most - 1, row.most, row.most + 1, row.most + 2, 256, 1000} {
			add(fmt.Sprint(n), row.least <= n && n <= row.most, names(n))
		}
		// Nothing says that a name stands there but once.
		add("twice the same", true, []string{name(1), name(2), name(1)})
		add("falling", true, []string{name(2), name(1)})
		for _, bad := range []string{"", "AAAAAAAAAAE", "$AAAAAAAAAA", "$AAAAAAAAAAEE", "$AAAAAAAAAAF", "$AAAAAAAAAA=", here, ann, "$\xffAAAAAAAAAA"} {
			for at := range 3 {
				add(fmt.Sprintf("%q at %d", bad, at), false, slices.Insert(names(2), at, bad))
			}
		}
	}
	return l
}

// TestParts (17.2): each part at its edges, in messages of each kind: of those that have it, and of those that have not.
func TestParts(t *testing.T) {
	for _, kind := range all() {
		for _, base := range []api.Message{bare(kind), rich(kind)} {
			taken(t, fmt.Sprint("kind ", kind), base)
			for _, e := range edges() {
				what := fmt.Sprintf("kind %d, %s %s", kind, e.word, e.what)
				m := with(base, e.do)
				if has(kind, e.word) && e.may || !has(kind, e.word) && e.zero {
					taken(t, what, m)
				} else {
					refused(t, what, m)
				}
			}
		}
	}
}

// inRoom tells a message whose room, and whose events' room, is that one.
func inRoom(m api.Message, room string) api.Message {
	m.Room, m.Events = room, slices.Clone(m.Events)
	for i := range m.Events {
		m.Events[i].Room = room
	}
	return m
}

// TestRooms (17.2): all kinds have a room.
func TestRooms(t *testing.T) {
	for _, kind := range all() {
		for _, s := range []string{here, "!r:s", "!" + longest, "!0._-:-.9"} {
			taken(t, fmt.Sprintf("kind %d, room %q", kind, s), inRoom(rich(kind), s))
		}
		for _, s := range []string{"", "r:s1", "!r", "!:s1", "!r:", "!R:s1", ann, name(1), here + " ", here + ":s2", "!l" + longest, "!" + longest + "s", "!\xff:s1"} {
			for _, m := range []api.Message{bare(kind), rich(kind)} {
				refused(t, fmt.Sprintf("kind %d, room %q", kind, s), inRoom(m, s))
				m.Room = s
				refused(t, fmt.Sprintf("kind %d, room %q, events of another one", kind, s), m)
			}
		}
	}
}

// TestKinds (17.2): those of the table, no others.
func TestKinds(t *testing.T) {
	if l := all(); len(l) != 11 || l[0] != 1 || l[10] != 11 {
		t.Fatal(l)
	}
	for _, kind := range all() {
		for _, other := range []int{0, -1, 12, 13, 99, -kind, kind + 256, kind + 1<<32, math.MaxInt64, math.MinInt64, math.MinInt64 + kind} {
			m := rich(kind)
			m.Kind = other
			refused(t, fmt.Sprintf("kind %d as %d", kind, other), m)
			refused(t, fmt.Sprintf("kind %d as nothing", other), api.Message{Kind: other, Room: here})
		}
	}
	refused(t, "nothing", api.Message{})
}

// may tells whether a kind may have so many events.
func may(kind, n int) bool {
	switch {
	case has(kind, "one event"):
		return n == 1
	case has(kind, "events"):
		return n <= api.MaxBatch
	}
	return n == 0
}

// TestNumberOfEvents (17.2): as many as MaxBatch, just one, or none.
func TestNumberOfEvents(t *testing.T) {
	for _, kind := range all() {
		for _, n := range []int{0, 1, 2, 3, api.MaxBatch - 1, api.MaxBatch, api.MaxBatch + 1, 2 * api.MaxBatch, 257} {
			m := rich(kind)
			m.Events = several(n)
			what := fmt.Sprintf("kind %d, %d events", kind, n)
			if may(kind, n) {
				taken(t, what, m)
			} else {
				refused(t, what, m)
			}
		}
		for _, n := range []int{1, 2, 5} {
			m := rich(kind)
			m.Events = slices.Repeat([]api.Event{full()}, n)
			if may(kind, n) {
				taken(t, fmt.Sprintf("kind %d, %d times the same", kind, n), m)
			}
		}
	}
}

// misshapenOnes tells events of the room that are not well shaped, each for another reason.
func misshapenOnes() map[string]api.Event {
	l := map[string]api.Event{"nothing": {Room: here}, "too long": long(api.MaxBytes + 1)}
	for what, do := range map[string]func(e *api.Event){
		"no type":            func(e *api.Event) { e.Type = "" },
		"no sender":          func(e *api.Event) { e.Sender = "ann" },
		"a key of no state":  func(e *api.Event) { e.IsState = false },
		"a key of no letter": func(e *api.Event) { e.Key = "\xff" },
		"no map":             func(e *api.Event) { e.Content = content(`[]`) },
		"a prev twice":       func(e *api.Event) { e.Prev = []string{name(1), name(1)} },
		"too many prev":      func(e *api.Event) { e.Prev = names(api.MaxPrev + 1) },
		"no auth":            func(e *api.Event) { e.Auth = []string{"$"} },
		"below 0":            func(e *api.Event) { e.Depth = -1 },
		"too deep":           func(e *api.Event) { e.Depth = api.MaxHeight + 1 },
		"too late":           func(e *api.Event) { e.Ts = api.MaxInt + 1 },
		"no hash":            func(e *api.Event) { e.Hash = "x" },
		"signatures fall":    func(e *api.Event) { slices.Reverse(e.Sigs) },
	} {
		e := full()
		do(&e)
		l[what] = e
	}
	return l
}

// TestEventsOfMessages (17.2): all are well shaped, and of the message's room.
func TestEventsOfMessages(t *testing.T) {
	bad := misshapenOnes()
	for _, room := range []string{"!r:s2", "!q:s1", "", "!r", here + " "} {
		e := full()
		e.Room = room
		bad["of the room "+room] = e
	}
	for _, kind := range all() {
		if !may(kind, 1) {
			continue
		}
		for what, e := range bad {
			m := rich(kind)
			m.Events = []api.Event{e}
			refused(t, fmt.Sprintf("kind %d: %s", kind, what), m)
			for at := range 4 {
				if m.Events = slices.Insert(several(3), at, e); may(kind, 4) {
					refused(t, fmt.Sprintf("kind %d, at %d: %s", kind, at, what), m)
				}
			}
		}
		m := rich(kind)
		m.Events = []api.Event{long(api.MaxBytes)}
		taken(t, fmt.Sprintf("kind %d: the longest", kind), m)
	}
}

// modelRight tells what the chapter says of a message, word by word.
func modelRight(m api.Message) bool {
	_, _, room := ident.Room(m.Room)
	_, _, user := ident.User(m.User)
	are := func(l []string, most int) bool {
		return len(l) <= most && !slices.ContainsFunc(l, func(s string) bool { return !ident.Event(s) })
	}
	right := map[string]bool{
		"user":  user,
		"what":  m.What == "join" || m.What == "leave",
		"at":    m.At >= 0 && m.At <= api.MaxInt,
		"err":   m.Err >= 0 && m.Err <= 255,
		"draft": m.Depth >= 0 && m.Depth <= api.MaxHeight && are(m.Prev, api.MaxPrev) && are(m.Auth, api.MaxAuth),
		"names": are(m.Names, api.MaxBatch) && len(m.Names) >= 1,
	}
	zero := map[string]bool{
		"user": m.User == "", "what": m.What == "", "at": m.At == 0, "err": m.Err == 0,
		"draft": m.Depth == 0 && len(m.Prev)+len(m.Auth) == 0,
		"names": len(m.Names) == 0,
	}
	ok := room && table()[m.Kind] != "" && may(m.Kind, len(m.Events))
	for word := range right {
		ok = ok && (has(m.Kind, word) && right[word] || !has(m.Kind, word) && zero[word])
	}
	for _, e := range m.Events {
		ok = ok && event.Shape(e) == api.OK && e.Room == m.Room
	}
	return ok
}

// chanceMessage tells a message of parts by chance, each of which is mostly as the kind has it.
func chanceMessage(r *rand.Rand) api.Message {
	one := func(l ...string) string { return l[r.Intn(len(l))] }
	kind := r.Intn(13)
	m := api.Message{Kind: kind, Room: one(here, here, here, here, "!q:s2", "")}
	put := func(word string) bool { return has(kind, word) != (r.Intn(12) == 0) }
	if put("user") {
		m.User = one(ann, bob, "@cat:s3", "bob")
	}
	if put("what") {
		m.What = one("join", "leave", "leave", "ban")
	}
	if put("at") {
		m.At = []int64{0, 1, r.Int63n(api.MaxInt), r.Int63n(1000), api.MaxInt, api.MaxInt + 1, -1}[r.Intn(7)]
	}
	if put("err") {
		m.Err = []api.Errno{0, 1, api.Errno(r.Intn(256)), 255, 256, -1}[r.Intn(6)]
	}
	if put("draft") {
		m.Depth = []int64{0, 7, r.Int63n(api.MaxHeight), api.MaxHeight, -1}[r.Intn(5)]
		m.Prev, m.Auth = names(r.Intn(api.MaxPrev+2)), names(r.Intn(api.MaxAuth+2))
	}
	if put("names") {
		m.Names = names(20)[r.Intn(20):]
	}
	if put("one event") && has(kind, "one event") {
		m.Events = several(2)[r.Intn(2):]
	}
	if put("events") {
		m.Events = several(r.Intn(5))
	}
	if len(m.Events) > 0 && r.Intn(12) == 0 {
		m.Events[r.Intn(len(m.Events))].Room = "!q:s2"
	}
	return m
}

// TestRightByChance (17.2): messages of any parts against the chapter's words.
func TestRightByChance(t *testing.T) {
	r := rand.New(rand.NewSource(172))
	right, wrong := map[int]int{}, map[int]int{}
	for range 12000 {
		m := chanceMessage(r)
		if modelRight(m) {
			taken(t, "by chance: "+shown(m), m)
			right[m.Kind]++
		} else {
			refused(t, "by chance: "+shown(m), m)
			wrong[m.Kind]++
		}
	}
	for _, kind := range all() {
		if right[kind] < 100 || wrong[kind] < 100 {
			t.Error("too few:", kind, right[kind], wrong[kind])
		}
	}
}

// TestKindsForKinds (17.2): a message of a kind, told as another one, is right just where that one has the same.
func TestKindsForKinds(t *testing.T) {
	right := 0
	for _, kind := range all() {
		for _, other := range all() {
			for _, m := range []api.Message{bare(kind), rich(kind)} {
				m.Kind = other
				if modelRight(m) != Right(m) {
					t.Errorf("kind %d as %d: %t", kind, other, Right(m))
				}
				if Right(m) {
					right++
				}
			}
		}
	}
	if right < 2*11 || right > 2*11*11/2 {
		t.Error("right:", right)
	}
}

// TestNoPartTwice: the words of the table are those that the tests go through.
func TestNoPartTwice(t *testing.T) {
	seen := map[string]int{}
	for _, kind := range all() {
		for _, word := range strings.Split(table()[kind], ", ") {
			seen[word]++
		}
	}
	want := map[string]int{"room": 11, "at": 3, "events": 2, "one event": 3, "names": 1, "user": 4, "what": 4, "err": 2, "draft": 1}
	if fmt.Sprint(seen) != fmt.Sprint(want) {
		t.Error(seen)
	}
}
