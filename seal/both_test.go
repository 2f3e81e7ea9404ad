package seal

import (
	"math/rand"
	"slices"
	"testing"

	"agora/api"
	"agora/event"
	"agora/ident"
	"agora/redact"
)

// pick tells one of a row by chance.
func pick[T any](r *rand.Rand, row []T) T { return row[r.Intn(len(row))] }

// chanceValue tells a good value by chance, no deeper than that.
func chanceValue(r *rand.Rand, deep int) api.Json {
	switch n := r.Intn(6); {
	case n == 0:
		return null()
	case n == 1:
		return api.Json{Kind: api.JBool, Int: r.Int63n(2)}
	case n == 2 || deep <= 1:
		return number(r.Int63n(2*api.MaxInt+1) - api.MaxInt)
	case n == 3:
		return text(pick(r, []string{"", "a", "join", "é\n", "\"\\", "<&>"}))
	case n == 4:
		j := list()
		for range r.Intn(4) {
			j.List = append(j.List, chanceValue(r, deep-1))
		}
		return j
	}
	return chanceMap(r, deep, []string{"a", "b", "ba", "", "ban", "é", "creator"})
}

// chanceMap tells a map of some of these keys, in any order.
func chanceMap(r *rand.Rand, deep int, keys []string) api.Json {
	j := table(nil)
	for _, at := range r.Perm(len(keys)) {
		if r.Intn(2) == 0 {
			j.Keys, j.List = append(j.Keys, keys[at]), append(j.List, chanceValue(r, deep-1))
		}
	}
	return j
}

// chanceEvent tells a well shaped event by chance, one of few, so that some come twice.
func chanceEvent(r *rand.Rand) api.Event {
	kind := pick(r, []string{api.TCreate, api.TMember, api.TPower, api.TRules, api.TMessage, api.TName, "m.x"})
	keys := append([]string{"body", "Ban", "users_"}, keepers()[kind]...)
	e := api.Event{
		Room: pick(r, []string{"!r:s1", "!q:s2"}), Type: kind, Sender: pick(r, []string{"@ann:s1", "@bob:s2", "@cy:s3"}),
		Content: chanceMap(r, 1+r.Intn(3), keys), Prev: names(r.Intn(3)), Auth: names(r.Intn(2)), Depth: r.Int63n(2), Ts: r.Int63n(2),
	}
	if r.Intn(2) == 0 {
		e.IsState, e.Key = true, pick(r, []string{"", "@ann:s1", "é"})
	}
	if r.Intn(3) == 0 {
		e.Hash = letters(uint64(r.Intn(20)))
	}
	for _, server := range []string{"s1", "s2", "s9"} {
		if r.Intn(4) == 0 {
			e.Sigs = append(e.Sigs, api.Sig{Server: server, Token: letters(uint64(r.Intn(20)))})
		}
	}
	return e
}

// TestAgainstModel (7.1, 7.2): chance calls at one table, held against a table that is asked of bytes by Go's own JSON writer, call by call.
func TestAgainstModel(t *testing.T) {
	r := rand.New(rand.NewSource(71))
	o, model := mustTable(t, "s1", "s2", "s3"), mustTable(t, "s1", "s2", "s3")
	var old []api.Event
	count := map[string]int{}
	for range 5000 {
		e := chanceEvent(r)
		if len(old) > 0 && r.Intn(2) == 0 {
			e = pick(r, old)
		}
		switch r.Intn(4) {
		case 0:
			if got, want := mustHash(t, o, e), model.Digest(goContents(e)); got != want {
				t.Fatalf("%+v: hash %s, not %s", e, got, want)
			}
		case 1:
			if got, want := mustName(t, o, e), "$"+model.Digest(goFace(e)); got != want {
				t.Fatalf("%+v: name %s, not %s", e, got, want)
			}
		case 2:
			server := pick(r, []string{"s1", "s2", "s3", "s9", ident.Home(e.Sender)})
			got, err := Seal(o, e, server)
			if server == "s9" {
				if err != api.ErrNone || !same(got, api.Event{}) {
					t.Fatalf("%+v: error %d", got, err)
				}
				count["none"]++
				break
			}
			want := ordered(e)
			want.Hash = model.Digest(goContents(e))
			token, _ := model.Sign(server, goFace(want))
			want.Sigs = []api.Sig{sig(server, token)}
			if err != api.OK || !same(got, want) {
				t.Fatalf("%+v, error %d, not %+v", got, err, want)
			}
			old = append(old, got)
		case 3:
			if len(old) > 0 && r.Intn(3) == 0 {
				e.Content = chanceEvent(r).Content
			}
			home := ident.Home(e.Sender)
			at := slices.IndexFunc(e.Sigs, func(s api.Sig) bool { return s.Server == home })
			got, whole, err := Check(o, e)
			switch {
			case at < 0 || !model.Verify(home, goFace(e), e.Sigs[at].Token):
				if err != api.ErrSig || whole || !same(got, api.Event{}) {
					t.Fatalf("%+v: %+v, error %d", e, got, err)
				}
				count["sig"]++
			case model.Digest(goContents(e)) == e.Hash:
				if err != api.OK || !whole || !same(got, ordered(e)) {
					t.Fatalf("%+v: %+v, error %d", e, got, err)
				}
				count["whole"]++
			default:
				if err != api.OK || whole || !same(got, hidden(e)) {
					t.Fatalf("%+v: %+v, error %d", e, got, err)
				}
				count["not whole"]++
			}
		}
		if o.Texts() != model.Texts() || o.Tokens() != model.Tokens() {
			t.Fatalf("%d texts and %d tokens, not %d and %d", o.Texts(), o.Tokens(), model.Texts(), model.Tokens())
		}
	}
	for _, what := range []string{"none", "sig", "whole", "not whole"} {
		if count[what] < 20 {
			t.Errorf("too few: %v", count)
		}
	}
}

// TestSealedChecks (7.3): what is sealed checks, whole, for its sender's server, and stays so, whatever is done behind it.
func TestSealedChecks(t *testing.T) {
	r := rand.New(rand.NewSource(72))
	o := mustTable(t, "s1", "s2", "s3")
	var all []api.Event
	for range 500 {
		e := chanceEvent(r)
		home := ident.Home(e.Sender)
		all = append(all, mustSeal(t, o, e, home))
		for _, other := range []string{"s1", "s2", "s3"} {
			if s := mustSeal(t, o, e, other); other != home {
				unchecked(t, "by "+other, o, s, api.ErrSig)
			}
		}
	}
	for _, s := range all {
		checked(t, "sealed", o, s, s, true)
	}
}

// TestOneName (7.3): an event and its redaction, with whatever signatures, have one name; it is redacted, and not whole, but signed.
func TestOneName(t *testing.T) {
	r := rand.New(rand.NewSource(73))
	o := mustTable(t, "s1", "s2", "s3")
	for range 500 {
		e := chanceEvent(r)
		if r.Intn(2) == 0 {
			e = mustSeal(t, o, e, ident.Home(e.Sender))
		}
		name := mustName(t, o, e)
		if !ident.Event(name) {
			t.Fatalf("%s is no name", name)
		}
		less := redact.Redact(e)
		for _, f := range []api.Event{e, less} {
			for _, sigs := range [][]api.Sig{nil, e.Sigs, chanceEvent(r).Sigs} {
				f.Sigs = sigs
				if n := mustName(t, o, f); n != name {
					t.Fatalf("%+v: %s, not %s", f, n, name)
				}
			}
		}
	}
}

// TestNameTells (7.3): whose name is the same has the same redaction, but for signatures, and the other way round.
func TestNameTells(t *testing.T) {
	r := rand.New(rand.NewSource(74))
	o := mustTable(t)
	seen := map[string]api.Event{}
	faces := map[string]string{}
	again := 0
	for range 3000 {
		e := chanceEvent(r)
		e.Content = chanceMap(r, 1, append([]string{"body"}, keepers()[e.Type][:min(1, len(keepers()[e.Type]))]...))
		for i := range e.Content.List {
			e.Content.List[i] = number(int64(r.Intn(2)))
		}
		name := mustName(t, o, e)
		less := redact.Redact(e)
		less.Sigs = nil
		first, ok := seen[name]
		if ok && !same(first, less) {
			t.Fatalf("%s is %+v and %+v", name, first, less)
		}
		if ok {
			again++
		}
		if old := faces[string(goBytes(less))]; old != "" && old != name {
			t.Fatalf("%+v is %s and %s", less, old, name)
		}
		seen[name], faces[string(goBytes(less))] = less, name
	}
	if again < 100 || len(seen) < 100 {
		t.Error("too few:", again, len(seen))
	}
}

// TestChangedRest (7.3): if anything that is left by redaction is changed, and the server has not signed that, it does not check.
func TestChangedRest(t *testing.T) {
	o := mustTable(t, homes()...)
	s := mustSeal(t, o, full(), "s2")
	rest, body := parts()
	for what, e := range rest {
		e.Hash, e.Sigs = s.Hash, s.Sigs
		unchecked(t, what, o, e, api.ErrSig)
	}
	for _, hash := range []string{"", letters(0), letters(99)} {
		e := s
		e.Hash = hash
		unchecked(t, "hash "+hash, o, e, api.ErrSig)
	}
	for what, e := range body {
		e.Hash, e.Sigs = s.Hash, s.Sigs
		checked(t, what, o, e, hidden(s), false)
		e.Hash = mustHash(t, o, e)
		unchecked(t, what+" with its digest", o, e, api.ErrSig)
	}
	// What its server has signed, too, checks.
	for what, e := range rest {
		if home := ident.Home(e.Sender); home == "s2" {
			now := mustSeal(t, o, e, home)
			checked(t, what, o, now, now, true)
			now.Sigs = s.Sigs
			unchecked(t, what+" with the first signature", o, now, api.ErrSig)
		}
	}
}

// TestChangedByChance (7.3): one content in another's seal: signed if what is left is the same, whole if all is.
func TestChangedByChance(t *testing.T) {
	r := rand.New(rand.NewSource(75))
	o := mustTable(t, "s1", "s2", "s3")
	count := [3]int{}
	for range 3000 {
		s := mustSeal(t, o, chanceEvent(r), "s1")
		s.Sender = "@ann:s1"
		s = mustSeal(t, o, s, "s1")
		e := s
		e.Content = chanceMap(r, 2, append([]string{"body"}, keepers()[s.Type]...))
		if r.Intn(2) == 0 {
			e.Content = backwards(s.Content)
			if at := slices.Index(e.Content.Keys, "body"); at >= 0 && r.Intn(2) == 0 {
				e.Content.List[at] = chanceValue(r, 2)
			}
		}
		switch {
		case !same(hidden(e), hidden(s)):
			unchecked(t, "another face", o, e, api.ErrSig)
			count[0]++
		case same(ordered(e), s):
			checked(t, "all the same", o, e, s, true)
			count[1]++
		default:
			checked(t, "other contents", o, e, hidden(s), false)
			count[2]++
		}
	}
	if slices.Min(count[:]) < 100 {
		t.Error("too few:", count)
	}
}

// TestEveryByte (7.3): whatever byte of a sealed event's bytes is changed, it is no event any more, not signed, or not whole.
func TestEveryByte(t *testing.T) {
	o := mustTable(t, homes()...)
	s := mustSeal(t, o, full(), "s2")
	b, _ := event.Encode(s)
	count := map[api.Errno]int{}
	for at := range b {
		for _, c := range []byte("a1z0~AE") {
			turned := slices.Clone(b)
			turned[at] = c
			e, err := event.Decode(turned)
			if err != api.OK || same(e, s) {
				continue
			}
			got, whole, err := Check(o, e)
			count[err]++
			if whole || err == api.OK && !same(got, hidden(s)) {
				t.Errorf("%s: %+v, whole %t, error %d", turned, got, whole, err)
			}
		}
	}
	if count[api.OK] < 3 || count[api.ErrSig] < 100 {
		t.Error("too few:", count)
	}
}
