package power

import (
	"math/rand"
	"reflect"
	"slices"
	"strconv"
	"strings"
	"sync"
	"testing"

	"agora/api"
)

// TestCallsEnd (R1): on contents that hold themselves, that are deep, on texts of any length.
func TestCallsEnd(t *testing.T) {
	ring := make([]api.Json, 2)
	ring[0], ring[1] = list(), table([]string{"users", "ban"})
	ring[0].List, ring[1].List = ring, ring
	refused(t, "a ring", ring[1])
	deep := number(1)
	for range 10000 {
		deep = list(deep)
	}
	refused(t, "a deep tree", alone("x", deep))
	refused(t, "a deep tree under users", alone("users", alone("@a:s", deep)))
	long := strings.Repeat("@a:s", 1<<20)
	refused(t, "a long name", alone("users", alone(long, number(1))))
	tells(t, "a long other key", alone(long, number(1)), untold())
	if l := Start(long); User(l, long) != 100 || User(l, long[1:]) != 0 || Type(l, long, true) != 0 {
		t.Error("a long name:", User(l, long))
	}
}

// TestLongRows (R1): so many names that they can't be held against each other one by one.
func TestLongRows(t *testing.T) {
	const n = 200000
	old := room(50)
	for i := range n {
		addUser("@"+strconv.Itoa(i)+":s", int64(i%50))(&old)
		addType("t"+strconv.Itoa(i), int64(i%51))(&old)
	}
	next := clone(old)
	slices.Reverse(next.ByUser)
	slices.Reverse(next.ByType)
	may(t, "the other way round", old, next, who, true)
	for i := range next.ByUser[:n] {
		next.ByUser[i].Level = 50
		next.ByType[i].Level++
	}
	next.ByType[0].Level = 50
	for i := range next.ByType {
		next.ByType[i].Level = min(next.ByType[i].Level, 50)
	}
	may(t, "all changed", old, next, who, true)
	next.ByUser[n/2].Level = 51
	may(t, "one too high", old, next, who, false)
	next.ByUser[n/2].Level = 50
	next.ByType[n/2].Level = 51
	may(t, "one type too high", old, next, who, false)
	often := api.Levels{ByUser: slices.Repeat([]api.Named{{Name: who, Level: 50}}, n)}
	may(t, "one name very often", often, with(often, setNumber("ban", 50)), who, true)
	if User(old, "@199999:s") != 199999%50 || Type(old, "t199999", true) != 199999%51 {
		t.Error("the last ones:", User(old, "@199999:s"), Type(old, "t199999", true))
	}
}

// TestAnyParts (R1, R2): contents made of any parts are levels, or ErrArg alone.
func TestAnyParts(t *testing.T) {
	r := rand.New(rand.NewSource(1))
	var part func(deep int) api.Json
	part = func(deep int) api.Json {
		j := api.Json{Kind: r.Intn(8) - 1}
		if j.Kind == api.JInt || r.Intn(8) == 0 {
			j.Int = pick(r, []int64{0, 1, 50, api.MaxLevel, api.MaxLevel + 1, low, high})
		}
		if r.Intn(8) == 0 {
			j.Text = pick(r, []string{"", "a", "\xff"})
		}
		for n := r.Intn(3); n > 0 && deep > 0 && j.Kind > 3; n-- {
			j.List = append(j.List, part(deep-1))
			if j.Kind == api.JMap {
				j.Keys = append(j.Keys, pick(r, append(seven(), "users", "events", "@a:s", "@b:s", "a", "x", "", "\xff")))
			}
		}
		return j
	}
	count := map[api.Errno]int{}
	for range 20000 {
		c := part(3)
		if r.Intn(2) == 0 {
			c = table([]string{pick(r, append(seven(), "users", "events", "x")), "y"}, part(2), number(1))
		}
		l, err := Parse(c)
		if err != api.OK && (err != api.ErrArg || !same(l, api.Levels{})) {
			t.Fatalf("%+v: %+v, error %d", c, l, err)
		}
		for _, n := range slices.Concat(l.ByUser, l.ByType) {
			if n.Level < -api.MaxLevel || n.Level > api.MaxLevel {
				t.Fatalf("%+v: %+v", c, l)
			}
		}
		count[err]++
	}
	if count[api.OK] < 500 || count[api.ErrArg] < 5000 {
		t.Error("too few:", count)
	}
}

// TestNothingBesideAnError (R2): also where much of the content is right.
func TestNothingBesideAnError(t *testing.T) {
	for _, content := range []string{
		`{"ban":1,"kick":2,"users":{"@a:s":5},"events":{"a":5},"users_default":true}`,
		`{"ban":null,"kick":2,"users":{"@a:s":5},"events":{"a":5}}`,
		`{"ban":1,"users":{"@a:s":5,"@z:s":"5"},"events":{"a":5}}`,
		`{"ban":1,"users":{"@a:s":5},"events":{"a":5,"z":[]}}`,
		`{"ban":1,"users":{"@a:s":5,"z":5},"events":[]}`,
	} {
		refused(t, content, value(t, content))
		refused(t, content, backwards(value(t, content)))
	}
}

// TestEmptyListsAreTheSame (R3).
func TestEmptyListsAreTheSame(t *testing.T) {
	none, empty := api.Json{Kind: api.JMap}, api.Json{Kind: api.JMap, Keys: []string{}, List: []api.Json{}}
	for _, c := range []api.Json{none, empty, alone("users", none), alone("users", empty), alone("events", none), alone("events", empty)} {
		tells(t, "empty", c, untold())
	}
	five := api.Json{Kind: api.JInt, Int: 5, Keys: []string{}, List: []api.Json{}}
	tells(t, "a number with empty lists", alone("ban", five), with(untold(), setNumber("ban", 5)))
	a, b := untold(), untold()
	a.ByUser, a.ByType = []api.Named{}, []api.Named{}
	for _, sender := range []string{"", who} {
		may(t, "empty rows", a, b, sender, true)
		may(t, "empty rows", b, a, sender, true)
	}
	if User(a, who) != User(b, who) || Type(a, "a", true) != Type(b, "a", true) {
		t.Error("empty rows are not the same")
	}
}

// roomy tells the same value in lists that have something behind their ends.
func roomy(j api.Json) api.Json {
	l := make([]api.Json, 0, len(j.List)+2)
	for _, v := range j.List {
		l = append(l, roomy(v))
	}
	n, m := len(l), len(j.Keys)
	j.Keys = append(append(make([]string, 0, m+2), j.Keys...), "ban", "@z:s")[:m]
	j.List = append(l, number(-5), text("behind"))[:n]
	return j
}

// whole tells a value with all that lies behind the ends of its lists.
func whole(j api.Json) api.Json {
	l := append([]api.Json{}, j.List[:cap(j.List)]...)
	for i := range l {
		l[i] = whole(l[i])
	}
	j.List, j.Keys = l, append([]string{}, j.Keys[:cap(j.Keys)]...)
	return j
}

// spoil writes over all memory of a value, and behind the ends of its lists.
func spoil(j api.Json) {
	l, keys := j.List[:cap(j.List)], j.Keys[:cap(j.Keys)]
	for i := range l {
		spoil(l[i])
		l[i] = text("spoilt")
	}
	for i := range keys {
		keys[i] = "spoilt"
	}
}

// spoilLevels writes over all memory of levels, and behind the ends of their rows.
func spoilLevels(l api.Levels) {
	for _, row := range [][]api.Named{l.ByUser[:cap(l.ByUser)], l.ByType[:cap(l.ByType)]} {
		for i := range row {
			row[i] = api.Named{Name: "spoilt", Level: 77}
		}
	}
}

// TestParseMemory (R4): what is handed in is not changed, and shares nothing with what is told.
func TestParseMemory(t *testing.T) {
	r := rand.New(rand.NewSource(4))
	for range 2000 {
		c := roomy(chanceContent(r))
		before := whole(c)
		one, err := Parse(c)
		two, again := Parse(c)
		if !reflect.DeepEqual(whole(c), before) {
			t.Fatalf("changed: %+v", c)
		}
		want := clone(two)
		spoilLevels(one)
		_ = append(one.ByUser, api.Named{Name: "spoilt"})
		if !reflect.DeepEqual(whole(c), before) || err != again || !same(two, want) {
			t.Fatalf("who writes over what was told writes over %+v, %+v", c, two)
		}
		if three, err := Parse(c); err != again || !same(three, want) {
			t.Fatalf("who writes over what was told changes what is told: %+v", three)
		}
		spoil(c)
		if !same(two, want) {
			t.Fatalf("who writes over what was handed in writes over what was told: %+v", two)
		}
	}
}

// TestStartMemory (R4): who writes over what was told changes nothing that is told.
func TestStartMemory(t *testing.T) {
	one, two := Start("@a:s"), Start("@a:s")
	spoilLevels(one)
	_ = append(one.ByUser, api.Named{Name: "spoilt"})
	for _, l := range []api.Levels{two, Start("@a:s")} {
		if !slices.Equal(l.ByUser, []api.Named{{Name: "@a:s", Level: 100}}) || len(l.ByType) != 0 {
			t.Errorf("%+v", l)
		}
	}
}

// roomyLevels tells the same levels in rows that have something behind their ends.
func roomyLevels(l api.Levels) api.Levels {
	behind := api.Named{Name: "@behind:s", Level: 1000}
	n, m := len(l.ByUser), len(l.ByType)
	l.ByUser = append(append(make([]api.Named, 0, n+2), l.ByUser...), behind, behind)[:n]
	l.ByType = append(append(make([]api.Named, 0, m+2), l.ByType...), behind, behind)[:m]
	return l
}

// TestAskedMemory (R4): levels that are handed in are not changed, what lies behind their ends neither, nor does it count.
func TestAskedMemory(t *testing.T) {
	r := rand.New(rand.NewSource(41))
	whole := func(l api.Levels) api.Levels {
		l.ByUser, l.ByType = slices.Clone(l.ByUser[:cap(l.ByUser)]), slices.Clone(l.ByType[:cap(l.ByType)])
		return l
	}
	for range 2000 {
		old := roomyLevels(chance(r))
		next := roomyLevels(changed(r, old))
		was, will := whole(old), whole(next)
		for _, user := range append(people(), "@behind:s") {
			if User(old, user) != modelUser(clone(old), user) {
				t.Fatalf("%+v: %s has %d", old, user, User(old, user))
			}
			Type(old, user, true)
			may(t, "roomy", old, next, user, modelMay(clone(old), clone(next), user))
		}
		if !same(whole(old), was) || !same(whole(next), will) {
			t.Fatalf("changed: %+v, %+v", old, next)
		}
	}
}

// TestNothingIsKept (R4, R5): levels that are changed afterwards change what is told next alone.
func TestNothingIsKept(t *testing.T) {
	old, next := room(50), with(room(50), setNumber("ban", 60))
	may(t, "first", old, next, who, false)
	old.ByUser[1].Level = 60
	next.ByUser[1].Level = 60
	may(t, "then", old, next, who, true)
	old.ByUser[1].Level = 50
	next.ByUser[1].Level = 50
	may(t, "at last", old, next, who, false)
	if User(old, who) != 50 {
		t.Error(User(old, who))
	}
	// Old and next may be one and the same memory.
	may(t, "itself", old, old, who, true)
}

// TestTheSameEachTime (R5): again, and from several goroutines at once.
func TestTheSameEachTime(t *testing.T) {
	r := rand.New(rand.NewSource(5))
	c := value(t, `{"users":{"@b:s":50,"@a:s":100},"events":{"b":1,"a":2},"ban":7}`)
	levels, _ := Parse(c)
	type asked struct {
		old, next api.Levels
		sender    string
		want      bool
	}
	var l []asked
	for range 50 {
		a := asked{old: chance(r), sender: pick(r, people())}
		a.next = changed(r, a.old)
		a.want = May(a.old, a.next, a.sender)
		l = append(l, a)
	}
	var all sync.WaitGroup
	for range 8 {
		all.Go(func() {
			for range 50 {
				for _, a := range l {
					if May(a.old, a.next, a.sender) != a.want {
						t.Errorf("%+v", a)
						return
					}
				}
				if got, err := Parse(c); err != api.OK || !same(got, levels) {
					t.Errorf("%+v, error %d", got, err)
				}
			}
		})
	}
	all.Wait()
}

// TestNoSumLeavesAnInt (R6): levels that are handed in may be any; no difference of two is taken.
func TestNoSumLeavesAnInt(t *testing.T) {
	all := []int64{low, low + 1, -1 << 32, -1, 0, 1, 1 << 31, 1 << 32, high - 1, high}
	for _, s := range all {
		for _, a := range all {
			for _, b := range all {
				base := with(api.Levels{}, addUser(who, s))
				may(t, "a number", with(base, setNumber("kick", a)), with(base, setNumber("kick", b)), who, a == b || max(a, b) <= s)
				may(t, "a type", with(base, addType("a", a)), with(base, addType("a", b)), who, a == b || max(a, b) <= s)
				may(t, "a user", with(base, addUser("@a:s", a)), with(base, addUser("@a:s", b)), who, a == b || a < s && b <= s)
				own := b <= s
				may(t, "the sender's own", base, with(api.Levels{}, addUser(who, b)), who, own)
			}
		}
	}
}
