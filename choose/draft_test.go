package choose

import (
	"fmt"
	"math"
	"math/rand"
	"strings"
	"testing"

	"agora/api"
	"agora/event"
)

// TestDraftCreation (15.2): in a room without events a creation follows nothing, and leans on nothing.
func TestDraftCreation(t *testing.T) {
	for _, most := range []int{1, 2, api.MaxPrev} {
		h := empty(t)
		e := with(create(ann), func(e *api.Event) { e.Ts = 77 })
		d := h.drafts("creation", e, most)
		alike(t, "creation", d, e)
		if d.Depth != 0 || len(d.Prev)+len(d.Auth)+len(d.Sigs) > 0 || d.Hash != "" {
			t.Errorf("%+v", d)
		}
		if at, denied := h.add(nameAt(0), d); at != 0 || denied {
			t.Errorf("place %d, denied %t", at, denied)
		}
	}
}

// TestDraftOneByOne (15.2): a room as it usually begins, each event drafted: what it follows, how deep it is, what it leans on, in the order of Wanted.
func TestDraftOneByOne(t *testing.T) {
	h := empty(t)
	for i, c := range []struct {
		e    api.Event
		auth string
	}{
		{create(ann), ""},
		{joined(ann), "0"},
		{gives(ann, 50, 0), "0 1"},
		{rule(ann, "public"), "0 2 1"},
		{joined(bob), "0 2 3"},
		{joined(cat), "0 2 3"},
		{message(bob), "0 2 4"},
		{plain(api.TName, bob, `{}`), "0 2 4"},
		{title(cat, "x"), "0 2 5"},
		{member(ann, dan, "invite"), "0 2 1 3"},
		{joined(dan), "0 2 9 3"},
		{member(ann, dan, "leave"), "0 2 1 10"},
		{member(ann, cat, "ban"), "0 2 1 5"},
		{member(bob, bob, "leave"), "0 2 4"},
		{joined(bob), "0 2 13 3"},
		{gives(ann, 50, 20), "0 2 1"},
		{message(ann), "0 15 1"},
	} {
		c.e.Ts = int64(100 + i)
		what := fmt.Sprint("place ", i)
		d := h.drafts(what, c.e, 3)
		want := c.e
		if i > 0 {
			want.Prev = []string{nameAt(i - 1)}
		}
		want.Depth, want.Auth = int64(i), h.names(row(t, c.auth)...)
		alike(t, what, d, want)
		if _, denied := h.add(nameAt(i), d); denied {
			t.Fatalf("%s is denied: %+v", what, d)
		}
	}
}

// TestDraftPrev (15.2): the names of Prevs, in their order, which is that of the places.
func TestDraftPrev(t *testing.T) {
	h, heads := headed(t, "5c 3b 4a 4d")
	for _, c := range []struct {
		most  int
		prev  string
		depth int64
	}{{1, "1", 4}, {2, "1 2", 5}, {3, "1 2 3", 5}, {4, "0 1 2 3", 6}, {5, "0 1 2 3", 6}, {api.MaxPrev, "0 1 2 3", 6}} {
		what := fmt.Sprint("most ", c.most)
		d := h.drafts(what, message(ann), c.most)
		var want []string
		for _, i := range row(t, c.prev) {
			want = append(want, h.names(heads[i])...)
		}
		equal(t, what, d.Prev, want)
		equal(t, what, d.Prev, h.names(Prevs(h.Room, c.most)...))
		equal(t, what, d.Auth, h.names(0, 1))
		if d.Depth != c.depth {
			t.Errorf("%s: a depth of %d, not %d", what, d.Depth, c.depth)
		}
	}
}

// TestDraftDepth (15.2): Height of the depths: one more than the greatest, MaxHeight at most.
func TestDraftDepth(t *testing.T) {
	const top = api.MaxHeight
	for _, c := range []struct {
		heads string
		most  int
		want  int64
	}{
		{"2a", 1, 3},
		{"9a 2b", 2, 10},
		{"2a 9b", 2, 10},
		{"9a 2b", 1, 3},
		{"2a 9b 5c", 2, 6},
		{"4294967296a", 1, 1<<32 + 1},
		{fmt.Sprint(top-1, "a"), 1, top},
		{fmt.Sprint(top, "a"), 1, top},
		{fmt.Sprint(top, "a 2b"), 1, 3},
		{fmt.Sprint(top, "a 2b"), 2, top},
		{fmt.Sprint(top-2, "a ", top-1, "b"), 1, top - 1},
		{fmt.Sprint(top-2, "a ", top-1, "b"), 2, top},
	} {
		h, _ := headed(t, c.heads)
		d := h.drafts(c.heads, message(ann), c.most)
		if d.Depth != c.want {
			t.Errorf("%s, most %d: %d, not %d", c.heads, c.most, d.Depth, c.want)
		}
		if _, denied := h.add(nameAt(h.Len()), d); denied {
			t.Errorf("%s, most %d: denied", c.heads, c.most)
		}
	}
}

// TestDraftMost (15.2): most from 1 to MaxPrev; of more heads than that as many as may be.
func TestDraftMost(t *testing.T) {
	h := small(t)
	for range api.MaxPrev + 5 {
		h.put(message(ann), 1)
	}
	for _, most := range []int{1, 2, api.MaxPrev - 1, api.MaxPrev} {
		if d := h.drafts("many", message(ann), most); len(d.Prev) != most {
			t.Errorf("most %d: %d", most, len(d.Prev))
		}
	}
	for _, most := range []int{0, -1, api.MaxPrev + 1, api.MaxPrev + 5, math.MaxInt, math.MinInt} {
		refuses(t, fmt.Sprint("most ", most), h.Room, message(ann), most, api.ErrArg)
	}
}

// TestDraftAuth (15.2): the state that comes of Prevs counts, where heads part from one another; not the room's, nor that behind one head.
func TestDraftAuth(t *testing.T) {
	h := forked(t)
	for _, c := range []struct {
		e    api.Event
		most int
		prev string
		auth string
	}{
		{message(bob), 1, "7", "0 2 4"},
		{message(bob), 2, "7 9", "0 9 4"},
		{message(bob), 3, "7 8 9", "0 9 4"},
		{message(bob), 5, "6 7 8 9 10", "0 9 4"},
		{message(cat), 1, "7", "0 2 5"},
		{message(cat), 4, "7 8 9 10", "0 9 5"},
		{member(ann, cat, "ban"), 4, "7 8 9 10", "0 9 1 5"},
		{member(ann, cat, "leave"), 5, "6 7 8 9 10", "0 9 1 6"},
		{member(ann, dan, "invite"), 4, "7 8 9 10", "0 9 1 3"},
		{joined(dan), 1, "7", "0 2 3"},
		{joined(dan), 5, "6 7 8 9 10", "0 9 3"},
		{title(cat, "x"), 3, "7 8 9", "0 9 5"},
	} {
		what := fmt.Sprintf("%s by %s, most %d", c.e.Type, c.e.Sender, c.most)
		d := h.drafts(what, c.e, c.most)
		equal(t, what, d.Prev, h.names(row(t, c.prev)...))
		equal(t, what, d.Auth, h.names(row(t, c.auth)...))
	}
	// The ban is behind the youngest head: who is banned there is not, ahead of it.
	refuses(t, "banned", h.Room, message(cat), 5, api.ErrDenied)
	refuses(t, "banned", h.Room, title(cat, "x"), api.MaxPrev, api.ErrDenied)
	refuses(t, "banned", h.Room, member(ann, cat, "invite"), 5, api.ErrDenied)
	refuses(t, "joined already", h.Room, member(ann, cat, "invite"), 4, api.ErrDenied)
	if _, denied := h.add(nameAt(h.Len()), h.drafts("ahead of the ban", message(cat), 4)); denied {
		t.Error("denied")
	}
}

// TestDraftByPrevsAlone (15.2): who is joined behind a younger head alone is none who may write behind the eldest.
func TestDraftByPrevsAlone(t *testing.T) {
	h := begun(t)
	h.puts(lettered("z"), joined(dan), 5)
	h.puts(lettered("a"), message(ann), 5)
	refuses(t, "not joined there", h.Room, message(dan), 1, api.ErrDenied)
	d := h.drafts("joined", message(dan), 2)
	equal(t, "auth", d.Auth, h.names(0, 2, 6))
	// He may still join there, too.
	equal(t, "auth", h.drafts("join", joined(dan), 1).Auth, h.names(0, 2, 3))
}

// TestDraftOfUnlikeRoots (15.2): a room may be created twice; the eldest head tells by which creation one goes.
func TestDraftOfUnlikeRoots(t *testing.T) {
	h := begun(t)
	h.put(create(dan))
	refuses(t, "not joined there", h.Room, message(ann), 1, api.ErrDenied)
	d := h.drafts("its creator", joined(dan), 1)
	equal(t, "prev", d.Prev, h.names(6))
	equal(t, "auth", d.Auth, h.names(6))
	for _, e := range []api.Event{message(ann), joined(dan), message(bob)} {
		d, err := Draft(h.Room, e, 2)
		want, error := modelDraft(h.Room, e, 2)
		if err != error {
			t.Errorf("error %d, not %d", err, error)
		}
		alike(t, "both", d, want)
	}
}

// TestDraftLacks (15.2): what Wanted names and the state has not is left out.
func TestDraftLacks(t *testing.T) {
	h := empty(t)
	h.put(create(ann))
	equal(t, "no levels, nobody joined", h.drafts("join", joined(ann), 1).Auth, h.names(0))
	h.put(joined(ann), 0)
	equal(t, "no levels", h.drafts("message", message(ann), 1).Auth, h.names(0, 1))
	equal(t, "no levels, no rule", h.drafts("invitation", member(ann, bob, "invite"), 1).Auth, h.names(0, 1))
	h.put(rule(ann, "public"), 1)
	equal(t, "a rule", h.drafts("invitation", member(ann, bob, "invite"), 1).Auth, h.names(0, 1, 2))
	equal(t, "the rule does not count", h.drafts("ban", member(ann, bob, "ban"), 1).Auth, h.names(0, 1))
	// Neither another key, nor what is not of a state, stands for what is wanted.
	h.put(of(api.TPower, "k", ann, `{}`), 2)
	h.put(plain(api.TPower, ann, `{}`), 3)
	h.put(of("m.room.membe", "", ann, `{}`), 4)
	equal(t, "no levels yet", h.drafts("join", joined(bob), 1).Auth, h.names(0, 2))
}

// TestDraftTells (15.2): Room, Type, Sender, IsState, Key, Content and Ts are e's, as they stand.
func TestDraftTells(t *testing.T) {
	h := begun(t)
	inner := api.Json{Kind: api.JMap, Keys: []string{"z", "a"}, List: []api.Json{{Kind: api.JInt, Int: -5}, {Kind: api.JList, List: []api.Json{{}, {Kind: api.JText, Text: "é"}, {Kind: api.JBool, Int: 1}}}}}
	content := api.Json{Kind: api.JMap, Keys: []string{"body", "b", "a"}, List: []api.Json{{Kind: api.JText, Text: ""}, inner, inner}}
	for i, e := range []api.Event{
		{Room: here, Type: api.TMessage, Sender: bob, Content: content},
		{Room: here, Type: "x", Sender: bob, IsState: true, Key: "é k", Content: content, Ts: 1},
		{Room: here, Type: "x", Sender: bob, IsState: true, Content: content, Ts: 9},
		{Room: here, Type: "x", Sender: bob, IsState: true, Key: bob, Content: content, Ts: 9},
		{Room: here, Type: api.TName, Sender: bob, Content: content, Ts: api.MaxInt},
		{Room: here, Type: api.TDummy, Sender: cat, Content: api.Json{Kind: api.JMap}, Ts: 0},
		{Room: here, Type: api.TRedact, Sender: cat, Content: content, Ts: 4},
		{Room: here, Type: strings.Repeat("t", api.MaxType), Sender: ann, IsState: true, Key: strings.Repeat("k", api.MaxKey), Content: content, Ts: 1 << 40},
	} {
		want := h.made(e, 5)
		alike(t, fmt.Sprint("event ", i), h.drafts(e.Type, e, 4), want)
	}
}

// TestDraftForgets (15.2): what e's Prev, Auth, Depth, Hash and Sigs hold does not count, were it right, wrong, or too long.
func TestDraftForgets(t *testing.T) {
	h := forked(t)
	many := make([]string, 5000)
	for i := range many {
		many[i] = name(i)
	}
	for _, plainly := range []api.Event{message(bob), joined(dan), title(cat, "x"), member(ann, dan, "ban")} {
		want := h.drafts("bare", plainly, 4)
		for what, do := range map[string]func(e *api.Event){
			"prev":       func(e *api.Event) { e.Prev = h.names(0) },
			"wrong prev": func(e *api.Event) { e.Prev = []string{"x", "x", ""} },
			"many prev":  func(e *api.Event) { e.Prev = many },
			"auth":       func(e *api.Event) { e.Auth = h.names(0, 6) },
			"wrong auth": func(e *api.Event) { e.Auth = []string{"", "$", "$"} },
			"many auth":  func(e *api.Event) { e.Auth = many },
			"depth":      func(e *api.Event) { e.Depth = 7 },
			"no depth":   func(e *api.Event) { e.Depth = math.MinInt64 },
			"high":       func(e *api.Event) { e.Depth = math.MaxInt64 },
			"hash":       func(e *api.Event) { e.Hash = "AAAAAAAAAAE" },
			"wrong hash": func(e *api.Event) { e.Hash = strings.Repeat("x", api.MaxBytes) },
			"sigs":       func(e *api.Event) { e.Sigs = []api.Sig{{Server: "s2", Token: "AAAAAAAAAAE"}} },
			"wrong sigs": func(e *api.Event) { e.Sigs = []api.Sig{{}, {}, {}, {}, {}, {}} },
			"empty rows": func(e *api.Event) { e.Prev, e.Auth, e.Sigs = []string{}, []string{}, []api.Sig{} },
		} {
			alike(t, what, h.drafts(what, with(plainly, do), 4), want)
			refuses(t, what, h.Room, with(plainly, do, func(e *api.Event) { e.Sender = "@no:s" }), 4, api.ErrDenied)
		}
	}
	begin := empty(t)
	alike(t, "creation", begin.drafts("creation", with(create(ann), func(e *api.Event) { e.Prev, e.Auth, e.Depth = []string{"x"}, h.names(0), 5 }), 1), create(ann))
}

// TestDraftJoinOfCreator (15.2): what is judged is the draft, by what it follows: the creator joins behind the creation alone.
func TestDraftJoinOfCreator(t *testing.T) {
	h := empty(t)
	h.put(create(ann))
	alike(t, "behind the creation", h.drafts("join", joined(ann), 1), h.made(joined(ann), 0))
	h.lies(5, 0)
	alike(t, "what is denied does not count", h.drafts("join", joined(ann), 1), h.made(joined(ann), 0))
	h.put(create(dan))
	refuses(t, "behind two of them", h.Room, joined(ann), 2, api.ErrDenied)
	h = small(t)
	h.put(member(ann, ann, "leave"), 1)
	refuses(t, "behind her leave", h.Room, with(joined(ann), func(e *api.Event) { e.Prev = h.names(0) }), 1, api.ErrDenied)
}

// padded tells a message by ann whose draft in that room has so many bytes.
func padded(h *house, bytes, most int) api.Event {
	h.t.Helper()
	e := message(ann)
	e.Content.List[0].Text = ""
	b, err := event.Encode(h.drafts("bare", e, most))
	if err != api.OK {
		h.t.Fatalf("error %d", err)
	}
	e.Content.List[0].Text = strings.Repeat("x", bytes-len(b))
	return e
}

// TestDraftLong (15.2): ErrLong, if the draft's bytes are more than MaxBytes, and nothing else is wrong with its shape.
func TestDraftLong(t *testing.T) {
	h, _ := headed(t, "2a 3b 4c 5d 5e")
	for _, most := range []int{1, 3, 5, api.MaxPrev} {
		e := padded(h, api.MaxBytes, most)
		d := h.drafts("as long as may be", e, most)
		if b, _ := event.Encode(d); len(b) != api.MaxBytes {
			t.Errorf("%d bytes", len(b))
		}
		for _, more := range []int{1, 2, 1000, api.MaxBytes} {
			longer := padded(h, api.MaxBytes+more, most)
			refuses(t, fmt.Sprintf("most %d, %d bytes more", most, more), h.Room, longer, most, api.ErrLong)
		}
	}
	// The draft counts, not what was handed in: what fits alone may not, once it follows more; what it bore already does not count.
	e := padded(h, api.MaxBytes, 1)
	refuses(t, "follows more", h.Room, e, 2, api.ErrLong)
	e.Sigs, e.Prev = []api.Sig{{Server: "s1", Token: "AAAAAAAAAAE"}}, h.names(0, 1, 2, 3, 4)
	if event.Shape(e) != api.ErrLong {
		t.Fatal("not too long")
	}
	if d, err := Draft(h.Room, e, 1); err != api.OK || len(d.Prev) != 1 {
		t.Errorf("error %d, %+v", err, d.Prev)
	}
	e = padded(h, api.MaxBytes, 4)
	if event.Shape(e) != api.OK {
		t.Fatal("too long alone")
	}
	refuses(t, "fits alone", h.Room, e, 5, api.ErrLong)
}

// TestDraftByChance (15.2): as the chapter's words gone through one by one, for any events and any most.
func TestDraftByChance(t *testing.T) {
	r := rand.New(rand.NewSource(152))
	counts := map[api.Errno]int{}
	several := 0
	for range 120 {
		h := empty(t)
		if r.Intn(12) > 0 {
			h = chance(t, r, r.Intn(30))
		} else if r.Intn(2) == 0 {
			h.bad(message(ann))
		}
		for range 25 {
			e, most := chanceEvent(r), r.Intn(8)
			e.Ts, e.Depth = int64(r.Intn(9)), int64(r.Intn(9))
			switch r.Intn(24) {
			case 0:
				e.Room = pick(r, "", "!q:s1", "!r:s2")
			case 1:
				e.Key = "x"
			case 2:
				e.Content = pick(r, api.Json{}, value(`[]`), value(`{}`), value(`{"creator":"@dan:s1"}`))
			case 3:
				e.Content = value(`{"x":"` + strings.Repeat("x", api.MaxBytes-r.Intn(600)-10) + `"}`)
			case 4:
				most = pick(r, api.MaxPrev, api.MaxPrev+1, -1, math.MaxInt)
			}
			want, err := modelDraft(h.Room, e, most)
			got, error := Draft(h.Room, e, most)
			if error != err {
				t.Fatalf("error %d, not %d: most %d, %+v", error, err, most, e)
			}
			alike(t, "draft", got, want)
			if counts[err]++; err == api.OK && len(want.Prev) > 2 {
				several++
			}
		}
		if t.Failed() {
			t.Fatalf("%v", look(h.Room))
		}
	}
	for _, err := range []api.Errno{api.OK, api.ErrArg, api.ErrShape, api.ErrLong, api.ErrHave, api.ErrNone, api.ErrDenied} {
		if counts[err] < 15 {
			t.Errorf("error %d: %d times", err, counts[err])
		}
	}
	if several < 100 {
		t.Error("too few of several heads:", several)
	}
}
