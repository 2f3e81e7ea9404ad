package power

import (
	"math/rand"
	"slices"
	"strconv"
	"strings"
	"testing"

	"agora/api"
	"agora/canon"
)

// TestParseByHand (10.1): contents that tell something, and what holds beside it.
func TestParseByHand(t *testing.T) {
	for _, c := range []struct {
		content string
		want    api.Levels
	}{
		{`{}`, untold()},
		{`{"users":{},"events":{}}`, untold()},
		{`{"users":{"@a:s":100}}`, with(untold(), addUser("@a:s", 100))},
		{`{"events":{"m.room.name":60}}`, with(untold(), addType("m.room.name", 60))},
		{`{"ban":70}`, with(untold(), setNumber("ban", 70))},
		{`{"ban":1,"kick":2,"invite":3,"redact":4,"state_default":5,"events_default":6,"users_default":7}`,
			api.Levels{Ban: 1, Kick: 2, Invite: 3, Redact: 4, State: 5, Events: 6, Users: 7}},
		{`{"ban":0,"kick":0,"invite":0,"redact":0,"state_default":0,"events_default":0,"users_default":0}`, api.Levels{}},
		{`{"ban":-1,"kick":-2,"invite":-3,"redact":-4,"state_default":-5,"events_default":-6,"users_default":-7}`,
			api.Levels{Ban: -1, Kick: -2, Invite: -3, Redact: -4, State: -5, Events: -6, Users: -7}},
		{`{"users":{"@b:s":50,"@a:s":100,"@c:s":-7},"events":{"z":1,"m.room.name":60,"a_b":0},"ban":70,"users_default":9}`,
			api.Levels{Ban: 70, Kick: 50, Redact: 50, State: 50, Users: 9,
				ByUser: []api.Named{{Name: "@a:s", Level: 100}, {Name: "@b:s", Level: 50}, {Name: "@c:s", Level: -7}},
				ByType: []api.Named{{Name: "a_b", Level: 0}, {Name: "m.room.name", Level: 60}, {Name: "z", Level: 1}}}},
		// A level that is just what would hold without it is told all the same.
		{`{"users":{"@a:s":0},"events":{"a":50}}`, with(untold(), addUser("@a:s", 0), addType("a", 50))},
	} {
		tells(t, c.content, value(t, c.content), c.want)
	}
}

// TestParseEachNumber (10.1): each of the seven alone, at all kinds of numbers, changes itself alone.
func TestParseEachNumber(t *testing.T) {
	for _, key := range seven() {
		for _, n := range []int64{0, 1, -1, 49, 50, 51, 100, 1 << 20, api.MaxLevel - 1, api.MaxLevel, -api.MaxLevel + 1, -api.MaxLevel} {
			tells(t, key+" "+strconv.FormatInt(n, 10), alone(key, number(n)), with(untold(), setNumber(key, n)))
		}
	}
	for _, n := range []int64{-api.MaxLevel, 0, api.MaxLevel} {
		tells(t, "a user", alone("users", alone("@a:s", number(n))), with(untold(), addUser("@a:s", n)))
		tells(t, "a type", alone("events", alone("a", number(n))), with(untold(), addType("a", n)))
	}
}

// TestParseBounds (10.1): a number that is out of bounds by one, and by much.
func TestParseBounds(t *testing.T) {
	for _, n := range []int64{api.MaxLevel + 1, -api.MaxLevel - 1, 1 << 31, 1 << 32, -1 << 32, 1<<32 + 50, api.MaxInt, -api.MaxInt, api.MaxInt + 1, high, low} {
		everywhere(t, "the number "+strconv.FormatInt(n, 10), number(n))
	}
}

// everywhere holds contents with a value where a number is asked for to ErrArg.
func everywhere(t *testing.T, what string, j api.Json) {
	t.Helper()
	for _, key := range seven() {
		refused(t, key+": "+what, alone(key, j))
		refused(t, key+" among others: "+what, table([]string{"x", key, "users"}, number(1), j, alone("@a:s", number(1))))
	}
	for key, names := range map[string][]string{"users": people(), "events": kinds()} {
		refused(t, key+": "+what, alone(key, alone(names[0], j)))
		refused(t, key+", the last: "+what, alone(key, table(names[:3], number(1), number(2), j)))
		refused(t, key+", the first: "+what, alone(key, table(names[:3], j, number(1), number(2))))
	}
}

// TestParseNoNumber (10.1): anything but a number where one is asked for.
func TestParseNoNumber(t *testing.T) {
	for what, j := range map[string]api.Json{
		"null": {Kind: api.JNull}, "true": {Kind: api.JBool, Int: 1}, "false": {Kind: api.JBool},
		"a text": text("50"), "no text": text(""), "a list": list(number(50)), "no list": list(),
		"a map": alone("@a:s", number(50)), "no map": table(nil), "another kind": {Kind: 6}, "a kind below": {Kind: -1},
		"a number with a text": {Kind: api.JInt, Text: "5"}, "a number with a list": {Kind: api.JInt, List: []api.Json{{}}},
	} {
		everywhere(t, what, j)
	}
}

// TestParseNoMap (10.1): anything but a map under users, events.
func TestParseNoMap(t *testing.T) {
	for _, key := range []string{"users", "events"} {
		for what, j := range map[string]api.Json{
			"null": {Kind: api.JNull}, "true": {Kind: api.JBool, Int: 1}, "false": {Kind: api.JBool}, "a number": number(50), "nought": number(0),
			"a text": text("@a:s"), "no text": text(""), "a list": list(number(50)), "no list": list(), "a list of maps": list(alone("@a:s", number(1))),
			"a key too many": {Kind: api.JMap, Keys: []string{"a"}}, "a value too many": {Kind: api.JMap, List: []api.Json{number(1)}},
		} {
			refused(t, key+": "+what, alone(key, j))
			refused(t, key+" among others: "+what, table([]string{"ban", key}, number(50), j))
		}
	}
}

// TestParseNames (10.1): keys there that are users, types, and keys that are none.
func TestParseNames(t *testing.T) {
	longest := "@" + strings.Repeat("a", api.MaxLocal) + ":" + strings.Repeat("s", api.MaxServer)
	for _, name := range []string{"@a:s", "@ann:s1", "@a.b_c-d:s.t-u", "@0:0", longest} {
		tells(t, name, alone("users", alone(name, number(7))), with(untold(), addUser(name, 7)))
	}
	for _, name := range []string{
		"", "a", "@", "@a", "@:s", "@a:", "a:s", "!a:s", "$AAAAAAAAAAE", "#a:s", "@A:s", "@a:S", "@a:s:", "@a:b:c", " @a:s", "@a:s ", "@a b:s", "@é:s", "@@a:s", "@a:s\x00", "@a:s_t",
		"@" + strings.Repeat("a", api.MaxLocal+1) + ":s", "@a:" + strings.Repeat("s", api.MaxServer+1), "m.room.name", "*",
	} {
		refused(t, "the user "+name, alone("users", alone(name, number(7))))
		refused(t, "the user "+name+" behind others", alone("users", table([]string{"@a:s", "@z:s", name}, number(1), number(2), number(7))))
	}
	for _, name := range []string{"a", "m.room.name", "m.room.power_levels", "0", ".", "_", "a_b.c", strings.Repeat("t", api.MaxType)} {
		tells(t, name, alone("events", alone(name, number(7))), with(untold(), addType(name, 7)))
	}
	for _, name := range []string{"", "A", "a-b", "a b", "@a:s", "m.room:name", "é", "a\n", "*", "m.*", strings.Repeat("t", api.MaxType+1)} {
		refused(t, "the type "+name, alone("events", alone(name, number(7))))
		refused(t, "the type "+name+" behind others", alone("events", table([]string{"a", "z", name}, number(1), number(2), number(7))))
	}
}

// TestParseOrder (10.1): names byte by byte, a beginning ahead of what it begins.
func TestParseOrder(t *testing.T) {
	users := []string{"@-:s", "@.:s", "@0:s", "@10:s", "@1:s", "@2:s", "@9:s", "@_:s", "@a-:s", "@a.b:s", "@a0:s", "@a:-", "@a:.", "@a:0", "@a:s", "@a:s-", "@a:s.t", "@a:s1", "@a:s10", "@a:s2", "@a_:s", "@aa:s", "@b:s", "@z:a"}
	types := []string{".", "..", ".a", "0", "00", "10", "2", "9", "_", "__", "a", "a.", "a.b", "a0", "a_", "aa", "ab", "b", "m.room", "m.room.name", "m.room_", "z"}
	for key, names := range map[string][]string{"users": users, "events": types} {
		var values []api.Json
		var want []api.Named
		for i, name := range names {
			values = append(values, number(int64(-i)))
			want = append(want, api.Named{Name: name, Level: int64(-i)})
		}
		r := rand.New(rand.NewSource(101))
		for range 50 {
			keys, l := slices.Clone(names), slices.Clone(values)
			r.Shuffle(len(keys), func(i, j int) { keys[i], keys[j], l[i], l[j] = keys[j], keys[i], l[j], l[i] })
			got, err := Parse(alone(key, table(keys, l...)))
			row := got.ByUser
			if key == "events" {
				row = got.ByType
			}
			if err != api.OK || !slices.Equal(row, want) || len(got.ByUser)+len(got.ByType) != len(want) {
				t.Fatalf("%s: error %d, %v, not %v", key, err, row, want)
			}
		}
	}
}

// TestParseOtherKeys (10.1): other keys, and those nearly the same, do not count, whatever is under them.
func TestParseOtherKeys(t *testing.T) {
	others := []string{"", "x", "notifications", "m.room.name", "@a:s", "levels", "state", "default", "users_default_", "ByUser", "Ban", "creator", "body"}
	for _, key := range append(seven(), "users", "events") {
		others = append(others, key+"s", key[1:], key[:len(key)-1], strings.ToUpper(key), key+" ", " "+key, key+"\x00")
	}
	for _, key := range others {
		for _, j := range []api.Json{{}, {Kind: api.JBool, Int: 1}, number(7), number(api.MaxInt), text("join"), list(number(1)), alone("@a:s", number(99)), alone("A", text("x"))} {
			tells(t, key, alone(key, j), untold())
			content := table([]string{"users", key, "ban"}, alone("@a:s", number(3)), j, number(8))
			tells(t, key+" among others", content, with(untold(), setNumber("ban", 8), addUser("@a:s", 3)))
		}
	}
	// The seven do not count where they stand deeper.
	tells(t, "deeper", alone("content", table([]string{"ban", "users"}, text("x"), number(1))), untold())
	tells(t, "types of these names", alone("events", table([]string{"ban", "kick"}, number(1), number(2))), with(untold(), addType("ban", 1), addType("kick", 2)))
}

// TestParseNotGood (10.1): a content that is no map, or no good one, also by what does not count.
func TestParseNotGood(t *testing.T) {
	deep := number(1)
	for range api.MaxDepth - 1 {
		deep = list(deep)
	}
	for what, c := range map[string]api.Json{
		"nothing": {}, "true": {Kind: api.JBool, Int: 1}, "a number": number(50), "a text": text("{}"), "a list": list(), "a list of a map": list(table(nil)), "another kind": {Kind: 6},
		"a map with a number": {Kind: api.JMap, Int: 1}, "a map with a text": {Kind: api.JMap, Text: "x"},
		"a key too many": {Kind: api.JMap, Keys: []string{"ban"}}, "a value too many": {Kind: api.JMap, List: []api.Json{number(1)}},
		"a key twice": table([]string{"x", "x"}, number(1), number(1)), "ban twice": table([]string{"ban", "ban"}, number(1), number(1)),
		"no letters": alone("\xff", number(1)), "no letters under it": alone("x", text("\xff")), "a half letter": alone("x", text("\xed\xa0\x80")),
		"a number too great": alone("x", number(api.MaxInt+1)), "a truth of 2": alone("x", api.Json{Kind: api.JBool, Int: 2}), "too deep": alone("x", deep),
		"a user twice": alone("users", table([]string{"@a:s", "@a:s"}, number(1), number(1))), "a type twice": alone("events", table([]string{"a", "a"}, number(1), number(2))),
		"a wrong value far within": alone("x", list(list(table([]string{"a"}, api.Json{Kind: 9})))),
	} {
		refused(t, what, c)
		if c.Kind == api.JMap && len(c.Keys) == len(c.List) {
			c.Keys, c.List = append([]string{"kick"}, c.Keys...), append([]api.Json{number(1)}, c.List...)
			refused(t, what+" beside a level", c)
		}
	}
	tells(t, "the deepest", alone("x", deep.List[0]), untold())
}

// TestParseLong (10.1): more bytes than a text of JSON may have are no error, as nothing is encoded.
func TestParseLong(t *testing.T) {
	long := alone("x", text(strings.Repeat("a", 2*api.MaxBytes)))
	tells(t, "long", long, untold())
	users, want := table(nil), untold()
	for i := range 5000 {
		name := "@" + strconv.Itoa(10000+i) + ":s"
		users.Keys, users.List = append(users.Keys, name), append(users.List, number(int64(i)))
		addUser(name, int64(i))(&want)
	}
	tells(t, "many users", alone("users", users), want)
}

// chanceContent tells a good map by chance, most of which tell levels.
func chanceContent(r *rand.Rand) api.Json {
	level := func() api.Json {
		if r.Intn(25) == 0 {
			return pick(r, []api.Json{{}, {Kind: api.JBool}, text("5"), list(), table(nil), number(api.MaxLevel + 1), number(-api.MaxLevel - 1)})
		}
		return number(pick(r, []int64{0, 1, -1, 50, 100, api.MaxLevel, -api.MaxLevel, r.Int63n(200)}))
	}
	rows := func(names, wrong []string) api.Json {
		if r.Intn(20) == 0 {
			return level()
		}
		j := table(nil)
		for _, at := range r.Perm(len(names))[:r.Intn(len(names))] {
			j.Keys, j.List = append(j.Keys, names[at]), append(j.List, level())
		}
		if r.Intn(15) == 0 {
			j.Keys, j.List = append(j.Keys, pick(r, wrong)), append(j.List, level())
		}
		return j
	}
	keys := append(seven(), "users", "events", "x", "Ban", "notifications")
	c := table(nil)
	for _, at := range r.Perm(len(keys))[:r.Intn(len(keys))] {
		j := level()
		switch keys[at] {
		case "users":
			j = rows(people(), []string{"", "@", "@A:s", "a"})
		case "events":
			j = rows(kinds(), []string{"", "A", "@a:s", "a-b"})
		}
		c.Keys, c.List = append(c.Keys, keys[at]), append(c.List, j)
	}
	return c
}

// TestParseAgainstModel (10.1): held against Go's own JSON reader.
func TestParseAgainstModel(t *testing.T) {
	r := rand.New(rand.NewSource(102))
	count := map[api.Errno]int{}
	for range 5000 {
		c := chanceContent(r)
		b, fault := canon.Encode(c)
		if fault != api.OK {
			t.Fatalf("%+v: error %d", c, fault)
		}
		want, wrong := modelParse(t, b)
		got, err := Parse(c)
		if err != wrong || !same(got, want) {
			t.Fatalf("%s: %+v, error %d, not %+v, error %d", b, got, err, want, wrong)
		}
		count[err]++
	}
	if count[api.OK] < 1000 || count[api.ErrArg] < 1000 {
		t.Error("too few:", count)
	}
}
