package event

import (
	"math"
	"slices"
	"strings"
	"testing"

	"agora/api"
)

// change is one thing of an event that is made otherwise.
type change struct {
	what string
	do   func(e *api.Event)
}

// rightOnes are changes that leave an event well shaped.
func rightOnes() []change {
	return []change{
		{"nothing", func(e *api.Event) {}},
		{"a long room", func(e *api.Event) {
			e.Room = "!" + strings.Repeat("a", api.MaxLocal) + ":" + strings.Repeat("b", api.MaxServer)
		}},
		{"a long sender", func(e *api.Event) {
			e.Sender = "@" + strings.Repeat("_", api.MaxLocal) + ":" + strings.Repeat(".", api.MaxServer)
		}},
		{"a long type", func(e *api.Event) { e.Type = strings.Repeat("t", api.MaxType) }},
		{"a short type", func(e *api.Event) { e.Type = "_" }},
		{"no key", func(e *api.Event) { e.IsState, e.Key = false, "" }},
		{"an empty key", func(e *api.Event) { e.IsState, e.Key = true, "" }},
		{"any key", func(e *api.Event) { e.IsState, e.Key = true, "\x00 \"\\\né�\U0010FFFF" }},
		{"a key of MaxKey letters", func(e *api.Event) { e.IsState, e.Key = true, strings.Repeat("k", api.MaxKey) }},
		{"a key of MaxKey bytes", func(e *api.Event) { e.IsState, e.Key = true, strings.Repeat("é", api.MaxKey/2) }},
		{"no content", func(e *api.Event) { e.Content = table(nil) }},
		{"empty lists in a content", func(e *api.Event) { e.Content = table([]string{}, []api.Json{}...) }},
		{"all kinds of content", func(e *api.Event) {
			e.Content = table([]string{"n", "b", "i", "t", "l", "m", ""}, null(), truth(1), number(api.MaxInt), text("é"), list(null()), table(nil), number(-api.MaxInt))
		}},
		{"an event's names in a content", func(e *api.Event) { e.Content = table([]string{"room", "content"}, null(), table(nil)) }},
		{"a deep content", func(e *api.Event) { e.Content = nested(api.MaxDepth - 1) }},
		{"no prev", func(e *api.Event) { e.Prev = nil }},
		{"empty prev", func(e *api.Event) { e.Prev = []string{} }},
		{"most prev", func(e *api.Event) { e.Prev = names(api.MaxPrev) }},
		{"prev that fall", func(e *api.Event) { e.Prev = names(5); slices.Reverse(e.Prev) }},
		{"no auth", func(e *api.Event) { e.Auth = nil }},
		{"empty auth", func(e *api.Event) { e.Auth = []string{} }},
		{"most auth", func(e *api.Event) { e.Auth = names(api.MaxAuth) }},
		{"auth that fall", func(e *api.Event) { e.Auth = names(5); slices.Reverse(e.Auth) }},
		{"the same prev and auth", func(e *api.Event) { e.Prev, e.Auth = names(4), names(4) }},
		{"no depth", func(e *api.Event) { e.Depth = 0 }},
		{"most depth", func(e *api.Event) { e.Depth = api.MaxHeight }},
		{"no time", func(e *api.Event) { e.Ts = 0 }},
		{"most time", func(e *api.Event) { e.Ts = api.MaxInt }},
		{"no hash", func(e *api.Event) { e.Hash = "" }},
		{"the least hash", func(e *api.Event) { e.Hash = letters(0) }},
		{"the greatest hash", func(e *api.Event) { e.Hash = letters(math.MaxUint64) }},
		{"no sigs", func(e *api.Event) { e.Sigs = nil }},
		{"empty sigs", func(e *api.Event) { e.Sigs = []api.Sig{} }},
		{"one sig", func(e *api.Event) { e.Sigs = sigsOf("other") }},
		{"most sigs", func(e *api.Event) { e.Sigs = sigsOf("-", ".", "0", "a") }},
		{"sigs of which one begins another", func(e *api.Event) { e.Sigs = sigsOf("s", "s1", "s10", "s2") }},
		{"sigs with one token", func(e *api.Event) {
			e.Sigs = []api.Sig{{Server: "a", Token: letters(1)}, {Server: "b", Token: letters(1)}}
		}},
		{"sigs with the hash", func(e *api.Event) { e.Hash = letters(1); e.Sigs = sigsOf("a") }},
		{"a sig of a long server", func(e *api.Event) { e.Sigs = sigsOf(strings.Repeat("z", api.MaxServer)) }},
	}
}

// wrongOnes are changes after which an event is not well shaped.
func wrongOnes() []change {
	var all []change
	add := func(what string, do func(e *api.Event)) { all = append(all, change{what, do}) }
	for _, s := range []string{"", "r", "@ann:s1", "!r", "!:s1", "!r:", "!R:s1", "!r:S1", "!r:s1:", " !r:s1", "$" + letters(1), "!r:s1\xff", "!" + strings.Repeat("a", api.MaxLocal+1) + ":s1"} {
		add("room "+s, func(e *api.Event) { e.Room = s })
	}
	for _, s := range []string{"", "ann", "!r:s1", "@ann", "@:s1", "@ann:", "@Ann:s1", "@ann:S1", "@ann:s1 ", "@ann:s_1", "$" + letters(1), "@ann:s1\xff", "@ann:" + strings.Repeat("a", api.MaxServer+1)} {
		add("sender "+s, func(e *api.Event) { e.Sender = s })
	}
	for _, s := range []string{"", "M", "m-x", "m.room message", "é", "\xff", strings.Repeat("t", api.MaxType+1)} {
		add("type "+s, func(e *api.Event) { e.Type = s })
	}
	for _, s := range []string{"a", " ", "@ann:s1", "\xff"} {
		add("key "+s+" without state", func(e *api.Event) { e.IsState, e.Key = false, s })
	}
	for _, s := range []string{"\xff", "a\xc3", "\xed\xa0\x80", "\xc0\x80", "\xf4\x90\x80\x80", strings.Repeat("k", api.MaxKey+1), strings.Repeat("é", api.MaxKey/2) + "k"} {
		add("key "+s, func(e *api.Event) { e.IsState, e.Key = true, s })
	}
	for what, j := range wrongContents() {
		add("content "+what, func(e *api.Event) { e.Content = j })
	}
	for what, l := range wrongNames() {
		add("prev "+what, func(e *api.Event) { e.Prev = l })
		add("auth "+what, func(e *api.Event) { e.Auth = l })
	}
	add("prev too many", func(e *api.Event) { e.Prev = names(api.MaxPrev + 1) })
	add("auth too many", func(e *api.Event) { e.Auth = names(api.MaxAuth + 1) })
	for _, n := range []int64{-1, math.MinInt64, api.MaxHeight + 1, math.MaxInt64} {
		add("depth", func(e *api.Event) { e.Depth = n })
	}
	for _, n := range []int64{-1, math.MinInt64, -api.MaxInt, api.MaxInt + 1, math.MaxInt64} {
		add("ts", func(e *api.Event) { e.Ts = n })
	}
	for _, s := range wrongLetters() {
		add("hash "+s, func(e *api.Event) { e.Hash = s })
		add("token "+s, func(e *api.Event) { e.Sigs = []api.Sig{{Server: "s1", Token: s}} })
		add("second token "+s, func(e *api.Event) { e.Sigs = append(sigsOf("s1"), api.Sig{Server: "s2", Token: s}) })
	}
	add("an empty token", func(e *api.Event) { e.Sigs = []api.Sig{{Server: "s1"}} })
	for _, l := range [][]string{{"b", "a"}, {"a", "a"}, {"a", "c", "b"}, {"a", "b", "b"}, {"s10", "s1"}, {"a", "b", "c", "d", "e"}, {""}, {"S"}, {"a_b"}, {"a", "é"}, {"@ann:s1"}, {"a", ""}, {strings.Repeat("z", api.MaxServer+1)}} {
		add("sigs of "+strings.Join(l, ", "), func(e *api.Event) { e.Sigs = sigsOf(l...) })
	}
	return all
}

// wrongContents are no maps, or not good ones, or too deep for an event.
func wrongContents() map[string]api.Json {
	return map[string]api.Json{
		"null": null(), "a truth": truth(0), "a number": number(1), "a text": text("{}"), "a list": list(), "a list of a map": list(table(nil)),
		"of no kind": {Kind: 6}, "of a kind below": {Kind: -1},
		"a depth more": nested(api.MaxDepth), "two more": nested(api.MaxDepth + 1),
		"a key twice":       table([]string{"a", "a"}, null(), null()),
		"no values":         table([]string{"a"}),
		"no keys":           table(nil, null()),
		"a key that is bad": table([]string{"\xff"}, null()),
		"a text within":     table([]string{"a"}, text("\xff")),
		"a number within":   table([]string{"a"}, number(api.MaxInt+1)),
		"a truth within":    table([]string{"a"}, truth(2)),
		"a kind within":     table([]string{"a"}, list(api.Json{Kind: 9})),
		"a text of its own": {Kind: api.JMap, Text: "a"},
		"a number too":      {Kind: api.JMap, Int: 1},
	}
}

// wrongNames are rows that are not of events' names, each but once.
func wrongNames() map[string][]string {
	return map[string][]string{
		"empty": {""}, "no sign": {letters(1)}, "a room": {"!r:s1"}, "a user": {"@ann:s1"}, "too short": {"$AAAAAAAAAA"}, "too long": {"$AAAAAAAAAAAA"},
		"a bit": {"$AAAAAAAAAAB"}, "a letter": {"$AAAA-AAAAAE"}, "the last": {names(1)[0], "$"}, "the first": {"$", names(1)[0]}, "the middle": {names(1)[0], "x", names(2)[1]},
		"twice": {names(1)[0], names(1)[0]}, "twice with one between": {names(1)[0], names(2)[1], names(1)[0]}, "twice behind": append(names(4), names(4)[3]),
	}
}

// wrongLetters are texts that are no eleven letters of eight bytes.
func wrongLetters() []string {
	return []string{"A", "AAAAAAAAAA", "AAAAAAAAAAAA", "AAAAAAAAAAB", "AAAAAAAAAA/", "AAAA-AAAAAE", "AAAA_AAAAAE", "AAAAAAAAAA=", "AAAAAAAAAAE=", "$" + letters(1), "$AAAAAAAAAA", "AAAA AAAAAE", "AAAAAAAAA\xff\xff", " "}
}

// TestWellShaped (5.1): all that an event may have, and its edges.
func TestWellShaped(t *testing.T) {
	for _, c := range rightOnes() {
		for _, e := range []api.Event{plain(), full()} {
			c.do(&e)
			taken(t, c.what, e)
		}
	}
}

// TestNotWellShaped (5.1): one thing that is wrong is ErrShape, whatever else there is.
func TestNotWellShaped(t *testing.T) {
	for _, c := range wrongOnes() {
		for _, e := range []api.Event{plain(), full()} {
			c.do(&e)
			refused(t, c.what, e, api.ErrShape)
		}
	}
	refused(t, "nothing", api.Event{}, api.ErrShape)
}

// TestTwoWrong (5.1): two things that are wrong do not make up for each other.
func TestTwoWrong(t *testing.T) {
	all := wrongOnes()
	for i, c := range all {
		e := full()
		c.do(&e)
		all[(i*31+7)%len(all)].do(&e)
		refused(t, c.what+" and another", e, api.ErrShape)
	}
}

// TestBytes (5.1): just MaxBytes bytes are right, one more is ErrLong.
func TestBytes(t *testing.T) {
	taken(t, "MaxBytes - 1", long(t, api.MaxBytes-1))
	taken(t, "MaxBytes", long(t, api.MaxBytes))
	for _, n := range []int{api.MaxBytes + 1, api.MaxBytes + 2, 2 * api.MaxBytes, 1 << 20} {
		refused(t, "more than MaxBytes", long(t, n), api.ErrLong)
	}
	e := long(t, api.MaxBytes)
	e.Depth *= 10
	refused(t, "a digit more", e, api.ErrLong)
	e.Depth = 1
	e.Content.List[0].Text = "\n" + e.Content.List[0].Text[1:]
	refused(t, "a letter that is written as two", e, api.ErrLong)
}

// TestShapeFirst (5.1, R2): what is not well shaped is ErrShape, too long or not.
func TestShapeFirst(t *testing.T) {
	for _, c := range wrongOnes() {
		if strings.HasPrefix(c.what, "content") {
			continue
		}
		e := long(t, api.MaxBytes+100000)
		c.do(&e)
		refused(t, c.what, e, api.ErrShape)
	}
	e := long(t, 1<<20)
	e.Content.List = append(e.Content.List, null())
	refused(t, "a long content that is not good", e, api.ErrShape)
}

// TestChapterExamples (5.1).
func TestChapterExamples(t *testing.T) {
	taken(t, "a message without prev", plain())
	e := plain()
	e.Content = list()
	refused(t, "a content that is no map", e, api.ErrShape)
	e = plain()
	e.Key = "k"
	refused(t, "a key without IsState", e, api.ErrShape)
	e = plain()
	e.Sigs = sigsOf("b", "a")
	refused(t, "sigs of b, a", e, api.ErrShape)
}
