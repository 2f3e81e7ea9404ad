package power

import (
	"math/rand"
	"slices"
	"testing"

	"agora/api"
)

// TestWhatStays (10.5): nobody is refused, whoever they are, if all stays as it is, however it is written.
func TestWhatStays(t *testing.T) {
	r := rand.New(rand.NewSource(1051))
	for range 2000 {
		l := chance(r)
		again := clone(l)
		// What stands behind another one of its name does not count.
		for _, row := range []*[]api.Named{&again.ByUser, &again.ByType} {
			for _, n := range slices.Clone(*row) {
				*row = append(*row, api.Named{Name: n.Name, Level: n.Level + 1})
			}
		}
		for _, sender := range append(people(), "@f:s", "") {
			may(t, "itself", l, l, sender, true)
			may(t, "a copy", l, clone(l), sender, true)
			may(t, "with names again", l, again, sender, true)
			may(t, "with names no longer again", again, l, sender, true)
		}
		if t.Failed() {
			return
		}
	}
	for _, l := range []api.Levels{{}, untold(), Start("@a:s"), Start("")} {
		for _, sender := range []string{"@a:s", "@b:s", ""} {
			may(t, "itself", l, clone(l), sender, true)
		}
	}
}

// names tells all names of rows, each once.
func names(rows ...[]api.Named) []string {
	var l []string
	for _, n := range slices.Concat(rows...) {
		l = append(l, n.Name)
	}
	slices.Sort(l)
	return slices.Compact(l)
}

// reached tells what a name has in rows where it does not have the same in both; none, if it has.
func reached(old, next []api.Named, name string) []int64 {
	a, had := levelOf(old, name)
	b, has := levelOf(next, name)
	if had && has && a != b {
		return []int64{a, b}
	}
	if had && !has {
		return []int64{a}
	}
	if has && !had {
		return []int64{b}
	}
	return nil
}

// TestNobodyReachesHigher (10.5): what was allowed lifted nothing above the sender's level, touched nothing above it, and nobody else's who has no less.
func TestNobodyReachesHigher(t *testing.T) {
	r := rand.New(rand.NewSource(1052))
	allowed := 0
	for range 30000 {
		old := chance(r)
		next := changed(r, old)
		sender := pick(r, append(people(), "@f:s"))
		if same(old, next) || !May(old, next, sender) {
			continue
		}
		allowed++
		var all []int64
		for _, key := range seven() {
			if a, b := *field(&old, key), *field(&next, key); a != b {
				all = append(all, a, b)
			}
		}
		for _, kind := range names(old.ByType, next.ByType) {
			all = append(all, reached(old.ByType, next.ByType, kind)...)
		}
		s := User(old, sender)
		for _, user := range names(old.ByUser, next.ByUser) {
			here := reached(old.ByUser, next.ByUser, user)
			all = append(all, here...)
			if had, ok := levelOf(old.ByUser, user); ok && len(here) > 0 && had >= s && user != sender {
				t.Fatalf("%s of %d changed what %s has, who has %d: %+v became %+v", sender, s, user, had, old, next)
			}
		}
		if len(all) > 0 && slices.Max(all) > s {
			t.Fatalf("%s of %d reached %v: %+v became %+v", sender, s, all, old, next)
		}
	}
	if allowed < 3000 {
		t.Error("too few:", allowed)
	}
}

// single tells changes of levels, each of another thing, to chance levels about who's.
func single(r *rand.Rand) []func(l *api.Levels) {
	level := func() int64 { return pick(r, []int64{47, 48, 49, 50, 50, 51}) }
	l := []func(l *api.Levels){addUser("@new:s", level()), addType("new", level())}
	for _, key := range seven() {
		l = append(l, setNumber(key, level()))
	}
	for i := range 4 {
		n := level()
		l = append(l, func(l *api.Levels) { l.ByUser[i].Level = n }, func(l *api.Levels) { l.ByType[i].Level = n })
	}
	return l
}

// TestEachForItself (10.4, 10.5): several changes are allowed just if each of them is, alone.
func TestEachForItself(t *testing.T) {
	r := rand.New(rand.NewSource(1053))
	counts := map[bool]int{}
	for range 5000 {
		old := with(room(50), addUser("@a:s", 0), addUser("@b:s", 0), addType("a", 0), addType("b", 0), addType("c", 0), addType("d", 0))
		old = with(old, single(r)...)
		old.ByUser[1].Level = 50
		some := single(r)
		r.Shuffle(len(some), func(i, j int) { some[i], some[j] = some[j], some[i] })
		some = some[:1+r.Intn(4)]
		want := true
		for _, do := range some {
			want = want && May(old, with(old, do), who)
		}
		may(t, "all at once", old, with(old, some...), who, want)
		counts[want]++
	}
	if counts[true] < 500 || counts[false] < 500 {
		t.Error("too few:", counts)
	}
}
