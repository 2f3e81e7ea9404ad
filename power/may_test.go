package power

import (
	"iter"
	"math/rand"
	"slices"
	"strconv"
	"testing"

	"agora/api"
)

// who is the sender of these tests; three levels about their own are asked.
const who = "@who:s"

// room tells levels in which who has s.
func room(s int64) api.Levels { return with(untold(), addUser("@other:s", 10), addUser(who, s)) }

// TestMayExample (10.4): the chapter's own.
func TestMayExample(t *testing.T) {
	old := room(50)
	may(t, "to 51", old, with(old, addUser("@a:s", 51)), who, false)
	may(t, "to 50", old, with(old, addUser("@a:s", 50)), who, true)
	named := with(old, addUser("@a:s", 0))
	may(t, "named, to 51", named, with(old, addUser("@a:s", 51)), who, false)
	may(t, "named, to 50", named, with(old, addUser("@a:s", 50)), who, true)
}

// TestMayByHand (10.4): contents, as events have them.
func TestMayByHand(t *testing.T) {
	read := func(s string) api.Levels {
		l, err := Parse(value(t, s))
		if err != api.OK {
			t.Fatalf("%s: error %d", s, err)
		}
		return l
	}
	const old = `{"users":{"@a:s":100,"@b:s":50,"@c:s":50,"@d:s":10},"events":{"m.room.name":60,"x":20},"ban":70}`
	for _, c := range []struct {
		next  string
		all   []string // who may
		other []string // who may not
	}{
		{old, []string{"@a:s", "@b:s", "@d:s", "@e:s"}, nil},
		{`{"users":{"@a:s":100,"@b:s":50,"@c:s":50,"@d:s":10},"events":{"m.room.name":60,"x":20},"ban":71}`, []string{"@a:s"}, []string{"@b:s", "@d:s", "@e:s"}},
		{`{"users":{"@a:s":100,"@b:s":50,"@c:s":50,"@d:s":10},"events":{"m.room.name":60,"x":20}}`, []string{"@a:s"}, []string{"@b:s", "@d:s", "@e:s"}},
		{`{"users":{"@a:s":100,"@b:s":50,"@c:s":50,"@d:s":10},"events":{"m.room.name":60,"x":20},"ban":70,"kick":30}`, []string{"@a:s", "@b:s", "@c:s"}, []string{"@d:s", "@e:s"}},
		{`{"users":{"@a:s":100,"@b:s":50,"@c:s":50,"@d:s":10},"events":{"m.room.name":60,"x":20},"ban":70,"invite":10}`, []string{"@a:s", "@b:s", "@d:s"}, []string{"@e:s"}},
		{`{"users":{"@a:s":100,"@b:s":50,"@c:s":50,"@d:s":10},"events":{"m.room.name":50,"x":20},"ban":70}`, []string{"@a:s"}, []string{"@b:s", "@d:s", "@e:s"}},
		{`{"users":{"@a:s":100,"@b:s":50,"@c:s":50,"@d:s":10},"events":{"m.room.name":60},"ban":70}`, []string{"@a:s", "@b:s", "@c:s"}, []string{"@d:s", "@e:s"}},
		{`{"users":{"@a:s":100,"@b:s":50,"@c:s":50,"@d:s":10},"events":{"m.room.name":60,"x":20,"y":10},"ban":70}`, []string{"@a:s", "@b:s", "@d:s"}, []string{"@e:s"}},
		{`{"users":{"@a:s":100,"@b:s":50,"@c:s":0,"@d:s":10},"events":{"m.room.name":60,"x":20},"ban":70}`, []string{"@a:s", "@c:s"}, []string{"@b:s", "@d:s", "@e:s"}},
		{`{"users":{"@a:s":100,"@b:s":50,"@c:s":50},"events":{"m.room.name":60,"x":20},"ban":70}`, []string{"@a:s", "@b:s", "@c:s", "@d:s"}, []string{"@e:s"}},
		{`{"users":{"@a:s":100,"@b:s":50,"@c:s":50,"@d:s":50},"events":{"m.room.name":60,"x":20},"ban":70}`, []string{"@a:s", "@b:s", "@c:s"}, []string{"@d:s", "@e:s"}},
		{`{"users":{"@b:s":50,"@c:s":50,"@d:s":10},"events":{"m.room.name":60,"x":20},"ban":70}`, []string{"@a:s"}, []string{"@b:s", "@d:s", "@e:s"}},
		{`{"users":{"@a:s":100,"@b:s":50,"@c:s":50,"@d:s":10,"@e:s":0},"events":{"m.room.name":60,"x":20},"ban":70}`, []string{"@a:s", "@b:s", "@d:s", "@e:s"}, nil},
		{`{"users":{"@a:s":100,"@b:s":50,"@c:s":50,"@d:s":10,"@e:s":1},"events":{"m.room.name":60,"x":20},"ban":70}`, []string{"@a:s", "@b:s", "@d:s"}, []string{"@e:s", "@f:s"}},
		{`{}`, []string{"@a:s"}, []string{"@b:s", "@c:s", "@d:s", "@e:s"}},
	} {
		for _, user := range c.all {
			may(t, c.next, read(old), read(c.next), user, true)
		}
		for _, user := range c.other {
			may(t, c.next, read(old), read(c.next), user, false)
		}
	}
}

// TestMayNumbers (10.4): each of the seven, from and to levels about the sender's own.
func TestMayNumbers(t *testing.T) {
	for _, s := range []int64{50, 0, -7, api.MaxLevel, -api.MaxLevel, high - 1, low + 1} {
		for _, key := range seven() {
			for _, from := range []int64{s - 1, s, s + 1} {
				for _, to := range []int64{s - 1, s, s + 1} {
					old := with(room(s), setNumber(key, from))
					may(t, key, old, with(old, setNumber(key, to)), who, from == to || from <= s && to <= s)
				}
			}
			old := with(room(s), setNumber(key, low))
			may(t, key, old, with(old, setNumber(key, high)), who, false)
			may(t, key, with(old, setNumber(key, high)), old, who, false)
		}
	}
}

// TestMayOneOfSeveral (10.4): one change that is not allowed among those that are.
func TestMayOneOfSeveral(t *testing.T) {
	old := room(50)
	fits := []func(l *api.Levels){
		setNumber("ban", 40), setNumber("kick", 30), setNumber("invite", 50), setNumber("redact", 49), setNumber("state_default", -1), setNumber("events_default", 1), setNumber("users_default", 2),
		addUser("@a:s", 50), addUser("@b:s", -7), addType("a", 50), addType("b", 0),
	}
	may(t, "all that fit", old, with(old, fits...), who, true)
	wrong := []func(l *api.Levels){addUser("@z:s", 51), addType("z", 51)}
	for _, key := range seven() {
		wrong = append(wrong, setNumber(key, 51))
	}
	for i, do := range wrong {
		may(t, "one wrong, number "+strconv.Itoa(i), old, with(old, append(slices.Clone(fits), do)...), who, false)
		may(t, "one wrong, alone", old, with(old, do), who, false)
	}
}

// about goes through levels about s, and none, that a name may have in old and in next.
func about(s int64) iter.Seq2[*int64, *int64] {
	less, more := s-1, s+1
	all := []*int64{nil, &less, &s, &more}
	return func(yield func(from, to *int64) bool) {
		for _, from := range all {
			for _, to := range all {
				if !yield(from, to) {
					return
				}
			}
		}
	}
}

// stays tells whether a name has the same in both, or nothing.
func stays(from, to *int64) bool {
	return from == to || from != nil && to != nil && *from == *to
}

// most tells whether a name has no more than s, or nothing.
func most(n *int64, s int64) bool { return n == nil || *n <= s }

// named tells levels in which a name has a level, if there is one.
func named(l api.Levels, add func(name string, n int64) func(l *api.Levels), name string, n *int64) api.Levels {
	if n == nil {
		return clone(l)
	}
	return with(l, add(name, *n))
}

// TestMayTypes (10.4): a type that has a level in both, in one, in none, about the sender's own.
func TestMayTypes(t *testing.T) {
	for _, s := range []int64{50, 0, -7, high - 1, low + 1} {
		base := with(room(s), addType("a", 3))
		for from, to := range about(s) {
			want := stays(from, to) || most(from, s) && most(to, s)
			// No type is anybody's own: one of the sender's name is like any other.
			for _, kind := range []string{"b", who} {
				may(t, "the type "+kind, named(base, addType, kind, from), named(base, addType, kind, to), who, want)
			}
		}
	}
}

// TestMayUsers (10.4): another user who has a level in both, in one, in none, about the sender's own.
func TestMayUsers(t *testing.T) {
	for _, s := range []int64{50, 0, -7, high - 1, low + 1} {
		for from, to := range about(s) {
			want := stays(from, to) || most(from, s-1) && most(to, s)
			may(t, "a user", named(room(s), addUser, "@a:s", from), named(room(s), addUser, "@a:s", to), who, want)
		}
	}
}

// TestMayOwn (10.4): the sender's own level, lowered, kept, lifted, named for the first time, named no longer.
func TestMayOwn(t *testing.T) {
	for _, s := range []int64{50, 0, -7, api.MaxLevel, high - 1, low + 1} {
		others := with(untold(), addUser("@other:s", low), setNumber("users_default", s-1))
		named := with(others, addUser(who, s))
		may(t, "lowered", named, with(others, addUser(who, s-1)), who, true)
		may(t, "lowered by much", named, with(others, addUser(who, low)), who, true)
		may(t, "kept", named, clone(named), who, true)
		may(t, "lifted", named, with(others, addUser(who, s+1)), who, false)
		may(t, "lifted by much", named, with(others, addUser(who, high)), who, false)
		may(t, "named no longer", named, others, who, true)
		may(t, "named no longer, by a stranger", named, others, "@x:s", false)
		// Who is not named has what all users have.
		all := with(others, setNumber("users_default", s))
		may(t, "named for the first time, lower", all, with(all, addUser(who, s-1)), who, true)
		may(t, "named for the first time, the same", all, with(all, addUser(who, s)), who, true)
		may(t, "named for the first time, higher", all, with(all, addUser(who, s+1)), who, false)
	}
	old := room(50)
	may(t, "lowered, and something put between", old, with(untold(), addUser("@other:s", 10), addUser(who, 20), setNumber("ban", 40)), who, true)
	may(t, "lifted, and what that would allow", old, with(untold(), addUser("@other:s", 10), addUser(who, 60), setNumber("ban", 60)), who, false)
}

// TestMayDefaults (10.4): a level that is named is another thing than one that holds without a name.
func TestMayDefaults(t *testing.T) {
	high := with(untold(), setNumber("users_default", 60), setNumber("state_default", 60), setNumber("events_default", 60), addUser(who, 50))
	may(t, "a user above, not named till now", high, with(high, addUser("@a:s", 50)), who, true)
	may(t, "a type above, not named till now", high, with(high, addType("a", 50)), who, true)
	may(t, "a user, as all users", high, with(high, addUser("@a:s", 60)), who, false)
	may(t, "a type, as all types", high, with(high, addType("a", 60)), who, false)
	may(t, "no longer named", with(high, addUser("@a:s", 49)), high, who, true)
	may(t, "no longer named, of the sender's level", with(high, addUser("@a:s", 50)), high, who, false)
	may(t, "a type no longer named", with(high, addType("a", 50)), high, who, true)
	// Who is not named has what all users have, and is judged by it.
	may(t, "a stranger of 60", high, with(high, setNumber("ban", 60)), "@x:s", true)
	may(t, "a stranger of 60, and one of 50", high, with(untold(), setNumber("users_default", 60), setNumber("state_default", 60), setNumber("events_default", 60), addUser(who, 60)), "@x:s", true)
	may(t, "the empty name", high, with(high, setNumber("ban", 60)), "", true)
	may(t, "the empty name", high, with(high, setNumber("ban", 61)), "", false)
}

// TestMaySender (10.4): the sender's level is that of old, not of next.
func TestMaySender(t *testing.T) {
	old, next := room(50), with(room(60), setNumber("kick", 55))
	may(t, "by what next says", old, next, who, false)
	may(t, "by what next says", with(untold(), addUser(who, 0)), with(untold(), addUser(who, 100), setNumber("ban", 100)), who, false)
	may(t, "lowered at the same time", room(60), with(room(50), setNumber("kick", 55)), who, true)
}

// TestMayTwice (10.4): of names that stand twice the first one counts, on both sides.
func TestMayTwice(t *testing.T) {
	old := room(50)
	for _, c := range []struct {
		what      string
		old, next api.Levels
		want      bool
	}{
		{"a user again, above", old, with(old, addUser("@other:s", 99)), true},
		{"a user again, in old", with(old, addUser("@other:s", 99)), old, true},
		{"a user twice, the first one above", old, with(old, addUser("@a:s", 51), addUser("@a:s", 50)), false},
		{"a user twice, the second one above", old, with(old, addUser("@a:s", 50), addUser("@a:s", 51)), true},
		{"a user twice in old, the second one above", with(old, addUser("@a:s", 49), addUser("@a:s", 51)), with(old, addUser("@a:s", 50)), true},
		{"a user twice in old, the first one above", with(old, addUser("@a:s", 51), addUser("@a:s", 49)), with(old, addUser("@a:s", 49)), false},
		{"a user twice in old, the first one stays", with(old, addUser("@a:s", 51), addUser("@a:s", 49)), with(old, addUser("@a:s", 51)), true},
		{"a type twice, the first one above", old, with(old, addType("a", 51), addType("a", 50)), false},
		{"a type twice, the second one above", old, with(old, addType("a", 50), addType("a", 51)), true},
		{"a type twice in old, the second one above", with(old, addType("a", 50), addType("a", 51)), with(old, addType("a", 49)), true},
		{"a type twice in old, the first one above", with(old, addType("a", 51), addType("a", 50)), with(old, addType("a", 50)), false},
		{"a type twice in old, the first one stays", with(old, addType("a", 51), addType("a", 50)), with(old, addType("a", 51)), true},
		{"the sender again, higher", with(old, addUser(who, 100)), with(old, setNumber("ban", 60)), false},
		{"the sender again, lower", with(old, addUser(who, 0)), with(old, setNumber("ban", 50), setNumber("kick", 1)), true},
	} {
		may(t, c.what, c.old, c.next, who, c.want)
	}
}

// TestMayOrder (10.4): in which order names stand does not count.
func TestMayOrder(t *testing.T) {
	old := api.Levels{ByUser: []api.Named{{Name: "@a:s", Level: 60}, {Name: who, Level: 50}, {Name: "@b:s", Level: 70}}, ByType: []api.Named{{Name: "a", Level: 60}, {Name: "b", Level: 70}}}
	next := api.Levels{ByUser: []api.Named{{Name: "@b:s", Level: 70}, {Name: "@a:s", Level: 60}, {Name: who, Level: 50}}, ByType: []api.Named{{Name: "b", Level: 70}, {Name: "a", Level: 60}}}
	may(t, "another order", old, next, who, true)
	next.ByUser[0].Level, next.ByUser[1].Level = 60, 70
	may(t, "levels exchanged", old, next, who, false)
	next.ByUser[0].Level, next.ByUser[1].Level = 70, 60
	next.ByType[0].Level, next.ByType[1].Level = 60, 70
	may(t, "levels of types exchanged", old, next, who, false)
}

// TestMayKinds (10.4): users, types and numbers of one name are not the same.
func TestMayKinds(t *testing.T) {
	old := room(50)
	may(t, "a level goes from users to types", with(old, addUser("a", 60)), with(old, addType("a", 60)), who, false)
	may(t, "a level goes from types to users", with(old, addType("a", 60)), with(old, addUser("a", 60)), who, false)
	may(t, "a type of a number's name", with(old, addType("ban", 50)), with(old, setNumber("ban", 49)), who, true)
	may(t, "a type of a number's name, above", with(old, addType("ban", 60)), with(old, setNumber("ban", 60)), who, false)
	may(t, "numbers exchanged", with(old, setNumber("ban", 60), setNumber("kick", 61)), with(old, setNumber("ban", 61), setNumber("kick", 60)), who, false)
	may(t, "the empty name", with(old, addUser("", 40), addType("", 40)), with(old, addUser("", 41), addType("", 50)), who, true)
	may(t, "the empty user above", old, with(old, addUser("", 51)), who, false)
	may(t, "the empty type above", old, with(old, addType("", 51)), who, false)
}

// TestMayAgainstModel (10.4): chance levels and changes, held to the chapter's words one by one.
func TestMayAgainstModel(t *testing.T) {
	r := rand.New(rand.NewSource(104))
	count := map[bool]int{}
	for range 20000 {
		old := chance(r)
		next := changed(r, old)
		if r.Intn(5) == 0 {
			next = chance(r)
		}
		for _, sender := range append(people(), "@f:s", "") {
			want := modelMay(old, next, sender)
			may(t, "chance", old, next, sender, want)
			count[want]++
		}
		if t.Failed() {
			return
		}
	}
	if count[true] < 20000 || count[false] < 20000 {
		t.Error("too few:", count)
	}
}
