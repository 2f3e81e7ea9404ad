package ranks

import (
	"fmt"
	"math/rand"
	"slices"
	"strconv"
	"strings"
	"testing"

	"agora/api"
	"agora/canon"
	"agora/power"
)

// The users of these tests.
const (
	ann = "@ann:s1"
	bob = "@bob:s2"
	cat = "@cat:s3"
)

func users() []string { return []string{ann, bob, cat} }

// value tells what a text of JSON says.
func value(s string) api.Json {
	j, err, at := canon.Decode([]byte(s))
	if err != api.OK {
		panic(fmt.Sprintf("%s: error %d at %d", s, err, at))
	}
	return j
}

// plain tells an event that is not of a state.
func plain(kind, sender, content string) api.Event {
	return api.Event{Room: "!r:s1", Type: kind, Sender: sender, Content: value(content)}
}

// of tells an event of a state.
func of(kind, key, sender, content string) api.Event {
	e := plain(kind, sender, content)
	e.IsState, e.Key = true, key
	return e
}

func create(sender string) api.Event { return of(api.TCreate, "", sender, `{"creator":"`+sender+`"}`) }

// member tells what a sender makes of a user's membership.
func member(sender, user, membership string) api.Event {
	return of(api.TMember, user, sender, `{"membership":"`+membership+`"}`)
}

func levels(sender, content string) api.Event { return of(api.TPower, "", sender, content) }

// gives tells levels that name one user.
func gives(sender, user string, n int64) api.Event {
	return levels(sender, `{"users":{"`+user+`":`+strconv.FormatInt(n, 10)+`}}`)
}

func message(sender string) api.Event { return plain(api.TMessage, sender, `{"body":"x"}`) }

// builder makes a past, one event behind the other.
type builder struct{ past api.Past }

// add puts an event behind the others, that leans on these places; it is told when it was made, and its name. It answers its place.
func (b *builder) add(e api.Event, ts int64, name string, auth ...int) int {
	p := &b.past
	at := len(p.Events)
	e.Ts = ts
	var prev []int
	if at > 0 {
		prev = []int{at - 1}
	}
	p.Names, p.Events, p.Denied = append(p.Names, name), append(p.Events, e), append(p.Denied, false)
	p.Prev, p.Auth = append(p.Prev, prev), append(p.Auth, auth)
	return at
}

// put does the same, with a time and a name of its place.
func (b *builder) put(e api.Event, auth ...int) int {
	at := len(b.past.Events)
	return b.add(e, int64(at), "$"+strconv.Itoa(1000+at), auth...)
}

// roomOf is the past of a room as it usually goes: a creation, joins, two changes of levels, a ban, a name and messages.
//
//	0 created by ann, 1 ann joins, 2 levels by ann (bob has 50), 3 bob joins, 4 cat joins,
//	5 levels by bob, 6 cat is banned by bob, 7 a message by ann by 2, 8 a message by bob by 5
func roomOf() api.Past {
	b := &builder{}
	b.put(create(ann))
	b.put(member(ann, ann, "join"), 0)
	b.put(levels(ann, `{"users":{"@ann:s1":100,"@bob:s2":50}}`), 0, 1)
	b.put(member(bob, bob, "join"), 0, 2)
	b.put(member(cat, cat, "join"), 0, 2)
	b.put(levels(bob, `{"users":{"@ann:s1":100,"@bob:s2":50,"@cat:s3":10}}`), 0, 2, 3)
	b.put(member(bob, cat, "ban"), 0, 5, 3, 4)
	b.put(message(ann), 0, 2, 1)
	b.put(message(bob), 0, 5, 3)
	return b.past
}

// row reads numbers with blanks between.
func row(t *testing.T, text string) []int {
	t.Helper()
	var l []int
	for _, s := range strings.Fields(text) {
		n, err := strconv.Atoi(s)
		if err != nil {
			t.Fatal(err)
		}
		l = append(l, n)
	}
	return l
}

// short tells a row in not too many letters.
func short(l []int) string {
	if len(l) > 30 {
		return fmt.Sprint(l[:30], " .. of ", len(l))
	}
	return fmt.Sprint(l)
}

// equal tells whether two rows are the same, where none and an empty one are.
func equal(t *testing.T, what string, got, want []int) {
	t.Helper()
	if !slices.Equal(got, want) {
		t.Errorf("%s: %s, not %s", what, short(got), short(want))
	}
}

// is does the same with a row that is written as a text.
func is(t *testing.T, what string, got []int, want string) {
	t.Helper()
	equal(t, what, got, row(t, want))
}

// number holds a number to another one.
func number[N int | int64](t *testing.T, what string, got, want N) {
	t.Helper()
	if got != want {
		t.Errorf("%s: %d, not %d", what, got, want)
	}
}

// inPast tells whether a place is one.
func inPast(p api.Past, i int) bool { return 0 <= i && i <= len(p.Events)-1 }

// modelChain goes all ways from places one by one.
func modelChain(p api.Past, l []int) []int {
	var out []int
	var lean func(i int)
	lean = func(i int) {
		for _, j := range p.Auth[i] {
			if !slices.Contains(out, j) {
				out = append(out, j)
				lean(j)
			}
		}
	}
	for _, i := range l {
		if inPast(p, i) {
			lean(i)
		}
	}
	slices.Sort(out)
	return out
}

// modelFirst tells the first of a row of Auth of that type, of a state, with the empty key; -1, if there is none.
func modelFirst(p api.Past, i int, kind string) int {
	at := slices.IndexFunc(p.Auth[i], func(j int) bool {
		e := p.Events[j]
		return e.IsState && e.Type == kind && e.Key == ""
	})
	if at < 0 {
		return -1
	}
	return p.Auth[i][at]
}

// modelLevel is 12.3's words.
func modelLevel(p api.Past, i int) int64 {
	if !inPast(p, i) {
		return 0
	}
	if at := modelFirst(p, i, api.TPower); at >= 0 {
		l, err := power.Parse(p.Events[at].Content)
		if err != api.OK {
			return 0
		}
		return power.User(l, p.Events[i].Sender)
	}
	if at := modelFirst(p, i, api.TCreate); at >= 0 && p.Events[at].Sender == p.Events[i].Sender {
		return 100
	}
	return 0
}

// modelLess tells by numbers, the greater one first, by times, by names, by places, whether a stands ahead of b.
func modelLess(p api.Past, x, y int64, a, b int) bool {
	switch {
	case x != y:
		return x > y
	case p.Events[a].Ts != p.Events[b].Ts:
		return p.Events[a].Ts < p.Events[b].Ts
	case p.Names[a] != p.Names[b]:
		return p.Names[a] < p.Names[b]
	}
	return a < b
}

// modelSet tells the places of a set, each once, in any order.
func modelSet(p api.Past, set []int) []int {
	var l []int
	for _, i := range set {
		if inPast(p, i) && !slices.Contains(l, i) {
			l = append(l, i)
		}
	}
	return l
}

// modelByPower is 12.4's and 9.1's words: each time all places of the set are looked at.
func modelByPower(p api.Past, set []int) []int {
	left := modelSet(p, set)
	var told []int
	for len(left) > 0 {
		best := -1
		for _, i := range left {
			chain := modelChain(p, []int{i})
			waits := slices.ContainsFunc(left, func(j int) bool { return slices.Contains(chain, j) })
			if !waits && (best < 0 || modelLess(p, modelLevel(p, i), modelLevel(p, best), i, best)) {
				best = i
			}
		}
		told = append(told, best)
		left = slices.DeleteFunc(left, func(i int) bool { return i == best })
	}
	return told
}

// modelLine is 12.5's words.
func modelLine(p api.Past, i int) []int {
	if !inPast(p, i) {
		return nil
	}
	next := modelFirst(p, i, api.TPower)
	if next < 0 {
		return []int{i}
	}
	return append([]int{i}, modelLine(p, next)...)
}

func modelNear(p api.Past, line []int, i int) int {
	for _, at := range modelLine(p, i) {
		if k := slices.Index(line, at); k >= 0 {
			return k
		}
	}
	return len(line)
}

// modelByLine is 12.6's words: the first one of those that are left is told, till none is.
func modelByLine(p api.Past, set []int, by int) []int {
	line := modelLine(p, by)
	near := func(i int) int64 { return int64(modelNear(p, line, i)) }
	left := modelSet(p, set)
	var told []int
	for len(left) > 0 {
		best := left[0]
		for _, i := range left {
			if modelLess(p, near(i), near(best), i, best) {
				best = i
			}
		}
		told = append(told, best)
		left = slices.DeleteFunc(left, func(i int) bool { return i == best })
	}
	return told
}

// pick tells one of a row by chance.
func pick[T any](r *rand.Rand, row ...T) T { return row[r.Intn(len(row))] }

// chanceEvent tells an event such as a past has, and others.
func chanceEvent(r *rand.Rand) api.Event {
	sender := pick(r, users()...)
	var e api.Event
	switch r.Intn(8) {
	case 0, 1, 2:
		e = gives(sender, pick(r, users()...), pick[int64](r, -5, 0, 1, 50, 100))
		if r.Intn(8) == 0 {
			e.Content = value(pick(r, `{"ban":"x"}`, `{"users":[]}`, `{"users_default":7}`, `[]`, `{}`))
		}
	case 3:
		e = create(sender)
	case 4:
		e = member(sender, pick(r, users()...), pick(r, "join", "leave", "ban", "invite"))
	case 5:
		e = of(api.TRules, "", sender, `{"join_rule":"public"}`)
	default:
		e = message(sender)
	}
	if e.IsState && r.Intn(8) == 0 {
		e.Key = "x"
	}
	if r.Intn(10) == 0 {
		e.IsState = false
	}
	return e
}

// chancePast tells a past of n events: rows of Auth in any order, some places twice, times and names of a few kinds. Some pasts have few edges, some many; in some, all lean on levels, and lines are long.
func chancePast(r *rand.Rand, n int) api.Past {
	b := &builder{}
	most, times := 1+r.Intn(5), 1+r.Intn(5)
	names := []string{"ab", "a", "A", "", "\xff", "\u00e9"}[:1+r.Intn(6)]
	lean, told := r.Intn(2) == 0, []int(nil)
	for i := range n {
		var auth []int
		for range r.Intn(most + 1) {
			if i > 0 {
				auth = append(auth, max(r.Intn(i), pick(r, 0, i-4)))
			}
		}
		if lean && len(told) > 0 {
			auth = slices.Insert(auth, r.Intn(len(auth)+1), told[max(r.Intn(len(told)), len(told)-3)])
		}
		b.add(chanceEvent(r), int64(r.Intn(times)-2), pick(r, names...), auth...)
		if b.past.Events[i].Type == api.TPower {
			told = append(told, i)
		}
		b.past.Denied[i] = r.Intn(3) == 0
	}
	return b.past
}

// chanceSet tells places of a past, some twice, and some that are none.
func chanceSet(r *rand.Rand, n int) []int {
	var l []int
	for range r.Intn(2*n + 2) {
		l = append(l, r.Intn(n+4)-2)
	}
	return l
}

// copyOf tells the same past in other memory, but for the contents.
func copyOf(p api.Past) api.Past {
	q := api.Past{Names: slices.Clone(p.Names), Events: slices.Clone(p.Events), Denied: slices.Clone(p.Denied)}
	for _, l := range p.Prev {
		q.Prev = append(q.Prev, slices.Clone(l))
	}
	for _, l := range p.Auth {
		q.Auth = append(q.Auth, slices.Clone(l))
	}
	return q
}

// wrongPasts tells pasts that are not right, each by one thing that is wrong with a right one of nine places.
func wrongPasts() map[string]api.Past {
	wrong := map[string]func(p *api.Past){
		"no names":          func(p *api.Past) { p.Names = nil },
		"a name less":       func(p *api.Past) { p.Names = p.Names[1:] },
		"a name more":       func(p *api.Past) { p.Names = append(p.Names, "$x") },
		"no events":         func(p *api.Past) { p.Events = nil },
		"an event less":     func(p *api.Past) { p.Events = p.Events[:8] },
		"an event more":     func(p *api.Past) { p.Events = append(p.Events, message(ann)) },
		"no row of Prev":    func(p *api.Past) { p.Prev = nil },
		"a Prev less":       func(p *api.Past) { p.Prev = p.Prev[:8] },
		"a Prev more":       func(p *api.Past) { p.Prev = append(p.Prev, nil) },
		"no row of Auth":    func(p *api.Past) { p.Auth = nil },
		"an Auth less":      func(p *api.Past) { p.Auth = p.Auth[:8] },
		"an Auth more":      func(p *api.Past) { p.Auth = append(p.Auth, nil) },
		"no verdicts":       func(p *api.Past) { p.Denied = nil },
		"a verdict less":    func(p *api.Past) { p.Denied = p.Denied[:8] },
		"a verdict more":    func(p *api.Past) { p.Denied = append(p.Denied, false) },
		"an edge, no event": func(p *api.Past) { *p = api.Past{Auth: [][]int{nil}} },
	}
	for what, at := range map[string]int{"its own place": 0, "a later place": 1, "the place ahead of the first": -99, "no place": 99} {
		for _, i := range []int{0, 5, 8} {
			j := i + at
			if at < 0 {
				j = -1
			}
			end := fmt.Sprint(" in row ", i, ": ", what)
			wrong["Prev"+end] = func(p *api.Past) { p.Prev[i] = append(p.Prev[i], j) }
			wrong["Auth"+end] = func(p *api.Past) { p.Auth[i] = append([]int{j}, p.Auth[i]...) }
		}
	}
	out := map[string]api.Past{}
	for what, spoil := range wrong {
		p := copyOf(roomOf())
		spoil(&p)
		out[what] = p
	}
	return out
}
