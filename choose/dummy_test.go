package choose

import (
	"fmt"
	"math"
	"math/rand"
	"reflect"
	"testing"

	"agora/api"
	"agora/room"
)

// dummy is what Dummy drafts.
func dummy(id, agent string, ts int64) api.Event {
	return api.Event{Room: id, Type: api.TDummy, Sender: agent, Content: api.Json{Kind: api.JMap}, Ts: ts}
}

// TestDummy (15.3): of that room, of TDummy, by the agent, not of a state, with an empty map; all else as Draft's.
func TestDummy(t *testing.T) {
	h := forked(t)
	for _, agent := range []string{ann, bob} {
		for _, ts := range []int64{0, 1, 1 << 40, api.MaxInt} {
			for most := 1; most <= api.MaxPrev; most++ {
				what := fmt.Sprintf("%s, ts %d, most %d", agent, ts, most)
				d, err := Dummy(h.Room, here, agent, ts, most)
				if err != api.OK {
					t.Fatalf("%s: error %d", what, err)
				}
				alike(t, what, d, h.made(dummy(here, agent, ts), modelPrevs(h.Room, most)...))
				if d.IsState || d.Key != "" || d.Type != "m.dummy" || d.Content.Kind != api.JMap || len(d.Content.Keys)+len(d.Content.List) > 0 {
					t.Errorf("%s: %+v", what, d)
				}
			}
		}
	}
	d, _ := Dummy(h.Room, here, bob, 7, 2)
	equal(t, "prev", d.Prev, h.names(7, 9))
	equal(t, "auth", d.Auth, h.names(0, 9, 4))
	if d.Depth != 7 || d.Ts != 7 || d.Sender != bob {
		t.Errorf("%+v", d)
	}
	// Where there is but one head there is nothing to merge, but it is drafted all the same.
	one := begun(t)
	d, err := Dummy(one.Room, here, cat, 3, 5)
	if err != api.OK {
		t.Fatalf("error %d", err)
	}
	alike(t, "one head", d, one.made(dummy(here, cat, 3), 5))
}

// TestDummyWrong (15.3): the errors of Draft, in their order.
func TestDummyWrong(t *testing.T) {
	h := forked(t)
	denied := begun(t)
	denied.put(of(api.TPower, "", ann, `{"events":{"m.dummy":50},"users":{"@ann:s1":100,"@bob:s2":49}}`), 5)
	for _, c := range []struct {
		what  string
		r     *room.Room
		id    string
		agent string
		ts    int64
		most  int
		want  api.Errno
	}{
		{"nil", nil, here, ann, 1, 2, api.ErrArg},
		{"nil, all of it", nil, "", "", -1, 0, api.ErrArg},
		{"most 0", h.Room, here, ann, 1, 0, api.ErrArg},
		{"most -1", h.Room, here, ann, 1, -1, api.ErrArg},
		{"most 21", h.Room, here, ann, 1, api.MaxPrev + 1, api.ErrArg},
		{"most 0, all of it", h.Room, "", "", -1, 0, api.ErrArg},
		{"no room", h.Room, "", ann, 1, 2, api.ErrShape},
		{"room", h.Room, "r:s1", ann, 1, 2, api.ErrShape},
		{"no agent", h.Room, here, "", 1, 2, api.ErrShape},
		{"agent", h.Room, here, "ann:s1", 1, 2, api.ErrShape},
		{"ts", h.Room, here, ann, -1, 2, api.ErrShape},
		{"late", h.Room, here, ann, api.MaxInt + 1, 2, api.ErrShape},
		{"ts, no heads", empty(t).Room, here, ann, math.MinInt64, 2, api.ErrShape},
		{"no events", empty(t).Room, here, ann, 1, 2, api.ErrNone},
		{"no heads", unheaded(t).Room, here, ann, 1, 2, api.ErrNone},
		{"no heads, another room", unheaded(t).Room, "!q:s1", ann, 1, 2, api.ErrNone},
		{"another room", h.Room, "!q:s1", ann, 1, 2, api.ErrDenied},
		{"not joined", h.Room, here, dan, 1, 2, api.ErrDenied},
		{"banned", h.Room, here, cat, 1, 5, api.ErrDenied},
		{"level", denied.Room, here, bob, 1, 2, api.ErrDenied},
	} {
		d, err := Dummy(c.r, c.id, c.agent, c.ts, c.most)
		if err != c.want || !reflect.DeepEqual(d, api.Event{}) {
			t.Errorf("%s: error %d, not %d: %+v", c.what, err, c.want, d)
		}
	}
	if _, err := Dummy(denied.Room, here, ann, 1, 2); err != api.OK {
		t.Errorf("her level is enough: error %d", err)
	}
}

// TestDummyByChance (15.3): what Draft answers of such an event, whatever the room.
func TestDummyByChance(t *testing.T) {
	r := rand.New(rand.NewSource(153))
	for range 40 {
		h := chance(t, r, r.Intn(30))
		for range 10 {
			id, agent, ts, most := pick(r, here, here, here, "!q:s1", ""), pick(r, ann, bob, cat, dan, "x"), int64(r.Intn(9)-1), r.Intn(8)
			d, err := Dummy(h.Room, id, agent, ts, most)
			want, error := modelDraft(h.Room, dummy(id, agent, ts), most)
			if err != error {
				t.Fatalf("error %d, not %d", err, error)
			}
			alike(t, "dummy", d, want)
		}
	}
}

// TestDue (15.3): are there more heads than most.
func TestDue(t *testing.T) {
	h := begun(t)
	for i := range 30 {
		n := len(h.Heads())
		if n != max(i, 1) {
			t.Fatalf("%d heads", n)
		}
		for _, c := range []struct {
			most int
			want bool
		}{{n - 1, true}, {n, false}, {n + 1, false}, {0, true}, {-1, true}, {n / 2, true}, {2 * n, false}, {math.MaxInt, false}, {math.MinInt, true}} {
			if Due(h.Room, c.most) != c.want {
				t.Errorf("%d heads, most %d: %t", n, c.most, !c.want)
			}
		}
		h.put(message(bob), 5)
	}
}

// TestDueWithoutHeads (15.3, R6): of none there are never more; a count below 0 counts as 0.
func TestDueWithoutHeads(t *testing.T) {
	for i, r := range append(bare(), nil, empty(t).Room, unheaded(t).Room) {
		for _, most := range []int{0, 1, -1, -2, math.MinInt, math.MaxInt, api.MaxPrev} {
			if Due(r, most) {
				t.Errorf("room %d, most %d: due", i, most)
			}
		}
	}
}

// TestDueCountsHeads (15.3): what is denied, or followed, is no head.
func TestDueCountsHeads(t *testing.T) {
	h := forked(t)
	h.lies(3, 5)
	h.bad(message(ann))
	if !Due(h.Room, 4) || Due(h.Room, 5) {
		t.Errorf("%v", h.Heads())
	}
	h.put(message(ann), 6, 8)
	if !Due(h.Room, 3) || Due(h.Room, 4) {
		t.Errorf("%v", h.Heads())
	}
}
