package power

import (
	"encoding/json"
	"fmt"
	"math"
	"math/rand"
	"regexp"
	"slices"
	"testing"

	"agora/api"
	"agora/canon"
)

// low and high are the least and the greatest number that there are.
const low, high = int64(math.MinInt64), int64(math.MaxInt64)

// seven are the keys of the seven numbers, as the chapter names them.
func seven() []string {
	return []string{"ban", "kick", "invite", "redact", "state_default", "events_default", "users_default"}
}

// field tells where levels have the number of a key.
func field(l *api.Levels, key string) *int64 {
	return map[string]*int64{
		"ban": &l.Ban, "kick": &l.Kick, "invite": &l.Invite, "redact": &l.Redact,
		"state_default": &l.State, "events_default": &l.Events, "users_default": &l.Users,
	}[key]
}

// untold are the levels of a content that tells nothing.
func untold() api.Levels {
	return api.Levels{Ban: 50, Kick: 50, Redact: 50, State: 50}
}

func number(n int64) api.Json { return api.Json{Kind: api.JInt, Int: n} }

func text(s string) api.Json { return api.Json{Kind: api.JText, Text: s} }

func list(l ...api.Json) api.Json { return api.Json{Kind: api.JList, List: l} }

// table makes a map of keys and as many values.
func table(keys []string, l ...api.Json) api.Json {
	return api.Json{Kind: api.JMap, Keys: keys, List: l}
}

// alone makes a map of one key.
func alone(key string, j api.Json) api.Json { return table([]string{key}, j) }

// value tells what a text of JSON says, in order.
func value(t *testing.T, s string) api.Json {
	t.Helper()
	j, err, at := canon.Decode([]byte(s))
	if err != api.OK {
		t.Fatalf("%s: error %d at %d", s, err, at)
	}
	return j
}

// backwards tells a value with all its maps in the opposite order.
func backwards(j api.Json) api.Json {
	var l []api.Json
	for _, v := range j.List {
		l = append(l, backwards(v))
	}
	j.List = l
	if j.Kind == api.JMap {
		j.Keys = slices.Clone(j.Keys)
		slices.Reverse(j.Keys)
		slices.Reverse(j.List)
	}
	return j
}

// same holds levels against each other, rows and all; an empty row may be nil.
func same(a, b api.Levels) bool {
	for _, key := range seven() {
		if *field(&a, key) != *field(&b, key) {
			return false
		}
	}
	return slices.Equal(a.ByUser, b.ByUser) && slices.Equal(a.ByType, b.ByType)
}

// clone tells the same levels in other memory.
func clone(l api.Levels) api.Levels {
	l.ByUser, l.ByType = slices.Clone(l.ByUser), slices.Clone(l.ByType)
	return l
}

// with tells the same levels, in other memory, with something done to them.
func with(l api.Levels, do ...func(l *api.Levels)) api.Levels {
	l = clone(l)
	for _, d := range do {
		d(&l)
	}
	return l
}

func setNumber(key string, n int64) func(l *api.Levels) {
	return func(l *api.Levels) { *field(l, key) = n }
}

func addUser(name string, n int64) func(l *api.Levels) {
	return func(l *api.Levels) { l.ByUser = append(l.ByUser, api.Named{Name: name, Level: n}) }
}

func addType(name string, n int64) func(l *api.Levels) {
	return func(l *api.Levels) { l.ByType = append(l.ByType, api.Named{Name: name, Level: n}) }
}

// tells holds what is parsed, in order and not, to levels.
func tells(t *testing.T, what string, c api.Json, want api.Levels) {
	t.Helper()
	for _, j := range []api.Json{c, backwards(c)} {
		if l, err := Parse(j); err != api.OK || !same(l, want) {
			t.Errorf("%.100q: %s, error %d, not %s", what, short(l), err, short(want))
		}
	}
}

// refused holds a content to ErrArg, and nothing beside it.
func refused(t *testing.T, what string, c api.Json) {
	t.Helper()
	if l, err := Parse(c); err != api.ErrArg || !same(l, api.Levels{}) {
		t.Errorf("%.100q: %s, error %d", what, short(l), err)
	}
}

// short tells levels in not too many letters.
func short(l api.Levels) string {
	return fmt.Sprintf("%.1000q", fmt.Sprintf("%+v", l))
}

// may holds May to an answer.
func may(t *testing.T, what string, old, next api.Levels, sender string, want bool) {
	t.Helper()
	if May(old, next, sender) != want {
		t.Errorf("%s: by %q of %d: %t; %s became %s", what, sender, User(old, sender), !want, short(old), short(next))
	}
}

var (
	userForm = regexp.MustCompile(`^@[a-z0-9._-]{1,32}:[a-z0-9.-]{1,32}$`)
	typeForm = regexp.MustCompile(`^[a-z0-9._]{1,64}$`)
)

// modelParse is the chapter's words on what Go's own JSON reader says of the bytes of a good map.
func modelParse(t *testing.T, b []byte) (api.Levels, api.Errno) {
	t.Helper()
	var content map[string]any
	if err := json.Unmarshal(b, &content); err != nil {
		t.Fatalf("%s: %v", b, err)
	}
	l := untold()
	for _, key := range seven() {
		if v, told := content[key]; told {
			n, ok := v.(float64)
			if !ok || math.Abs(n) > 1073741824 {
				return api.Levels{}, api.ErrArg
			}
			*field(&l, key) = int64(n)
		}
	}
	for key, row := range map[string]*[]api.Named{"users": &l.ByUser, "events": &l.ByType} {
		form := map[string]*regexp.Regexp{"users": userForm, "events": typeForm}[key]
		v, told := content[key]
		if !told {
			continue
		}
		m, ok := v.(map[string]any)
		if !ok {
			return api.Levels{}, api.ErrArg
		}
		for name, v := range m {
			n, ok := v.(float64)
			if !ok || math.Abs(n) > 1073741824 || !form.MatchString(name) {
				return api.Levels{}, api.ErrArg
			}
			*row = append(*row, api.Named{Name: name, Level: int64(n)})
		}
		slices.SortFunc(*row, func(a, b api.Named) int { return slices.Compare([]byte(a.Name), []byte(b.Name)) })
	}
	return l, api.OK
}

// levelOf tells what a name has in a row, and whether it has something.
func levelOf(row []api.Named, name string) (int64, bool) {
	at := slices.IndexFunc(row, func(n api.Named) bool { return n.Name == name })
	if at < 0 {
		return 0, false
	}
	return row[at].Level, true
}

// modelUser is the chapter's words.
func modelUser(l api.Levels, user string) int64 {
	if n, ok := levelOf(l.ByUser, user); ok {
		return n
	}
	return l.Users
}

// modelMay is the chapter's words, gone through one by one, every name being looked for in both.
func modelMay(old, next api.Levels, sender string) bool {
	s := modelUser(old, sender)
	for _, key := range seven() {
		a, b := *field(&old, key), *field(&next, key)
		if a != b && max(a, b) > s {
			return false
		}
	}
	for _, n := range append(slices.Clone(old.ByType), next.ByType...) {
		if !fine(old.ByType, next.ByType, n.Name, s) {
			return false
		}
	}
	for _, n := range append(slices.Clone(old.ByUser), next.ByUser...) {
		if !fine(old.ByUser, next.ByUser, n.Name, s) {
			return false
		}
		a, has := levelOf(old.ByUser, n.Name)
		b, stays := levelOf(next.ByUser, n.Name)
		if has && !(stays && a == b) && n.Name != sender && !(a < s) {
			return false
		}
	}
	return true
}

// fine tells whether a name has the same in both rows, or nothing in either that is above s.
func fine(old, next []api.Named, name string, s int64) bool {
	a, inOld := levelOf(old, name)
	b, inNext := levelOf(next, name)
	if inOld && inNext {
		return a == b || max(a, b) <= s
	}
	if inOld {
		return a <= s
	}
	return b <= s
}

// pick tells one of a row by chance.
func pick[T any](r *rand.Rand, row []T) T { return row[r.Intn(len(row))] }

// people and kinds are names that chance levels are of.
func people() []string { return []string{"@a:s", "@b:s", "@c:s", "@d:s", "@e:s"} }

func kinds() []string { return []string{"a", "b", "m.room.name", "m.room.power_levels"} }

// chanceRow tells a row of some names, in any order, some of them twice.
func chanceRow(r *rand.Rand, names []string, level func() int64) []api.Named {
	var row []api.Named
	for range r.Intn(len(names) + 2) {
		row = append(row, api.Named{Name: pick(r, names), Level: level()})
	}
	return row
}

// chance tells levels by chance, of a few numbers.
func chance(r *rand.Rand) api.Levels {
	few := pick(r, [][]int64{{0, 50, 100}, {49, 50, 51}, {-1, 0, 1}, {low, 0, high}, {50}, {0, 49, 50, 51, 100}})
	level := func() int64 { return pick(r, few) }
	var l api.Levels
	for _, key := range seven() {
		*field(&l, key) = level()
	}
	l.ByUser, l.ByType = chanceRow(r, people(), level), chanceRow(r, kinds(), level)
	return l
}

// changed tells levels with some changes by chance.
func changed(r *rand.Rand, l api.Levels) api.Levels {
	l = clone(l)
	level := func() int64 { return pick(r, []int64{0, 49, 50, 51, l.Users, l.State}) }
	for range r.Intn(4) {
		switch r.Intn(6) {
		case 0:
			*field(&l, pick(r, seven())) = level()
		case 1:
			addUser(pick(r, people()), level())(&l)
		case 2:
			addType(pick(r, kinds()), level())(&l)
		case 3, 4:
			row := pick(r, []*[]api.Named{&l.ByUser, &l.ByType})
			if len(*row) > 0 {
				(*row)[r.Intn(len(*row))].Level = level()
			}
		case 5:
			row := pick(r, []*[]api.Named{&l.ByUser, &l.ByType})
			if at := r.Intn(len(*row) + 1); at < len(*row) {
				*row = slices.Delete(*row, at, at+1)
			}
		}
	}
	return l
}
