package seal

import (
	"strings"
	"testing"

	"agora/api"
	"agora/event"
	"agora/ident"
	"agora/oracle"
)

// tables tells a table, one without servers, one that New did not make, and none.
func tables(t *testing.T) []*oracle.Table {
	t.Helper()
	return []*oracle.Table{mustTable(t, homes()...), mustTable(t), {}, nil}
}

// TestSealByHand (7.1): hash, signature and all else of one event, number by number.
func TestSealByHand(t *testing.T) {
	o := mustTable(t, "s1", "s2")
	got := mustSeal(t, o, full(), "s2")
	want := full()
	want.Content = value(t, `{"membership":"invite","reason":{"y":null,"z":-1}}`)
	want.Hash, want.Sigs = letters(1), []api.Sig{sig("s2", letters(1))}
	if !same(got, want) {
		t.Errorf("%+v, not %+v", got, want)
	}
	signed := `{"auth":["$AAAAAAAAAAM","$AAAAAAAAAAQ","$AAAAAAAAAAU"],"content":{"membership":"invite"},"depth":7,"hash":"AAAAAAAAAAE","key":"@bob:s3","prev":["$AAAAAAAAAAE","$AAAAAAAAAAI"],"room":"!r:s1","sender":"@ann:s2","sigs":{},"ts":99,"type":"m.room.member"}`
	if !o.Verify("s2", []byte(signed), got.Sigs[0].Token) {
		t.Errorf("not signed: %s", signed)
	}
	counts(t, "one event", o, 1, 1)
}

// TestSealSeveral (7.1): events of several types, by their senders' servers and by all others.
func TestSealSeveral(t *testing.T) {
	o, model := mustTable(t, homes()...), mustTable(t, homes()...)
	for _, e := range several(t) {
		for _, server := range homes() {
			want := ordered(e)
			want.Hash = model.Digest(goContents(e))
			token, _ := model.Sign(server, goFace(want))
			want.Sigs = []api.Sig{sig(server, token)}
			if got := mustSeal(t, o, e, server); !same(got, want) {
				t.Errorf("%+v, not %+v", got, want)
			}
		}
	}
	counts(t, "all", o, len(several(t)), len(several(t))*len(homes()))
	if model.Texts() != o.Texts() || model.Tokens() != o.Tokens() {
		t.Errorf("the model has %d texts and %d tokens", model.Texts(), model.Tokens())
	}
}

// TestSealAgain (7.1): what an event bears already is of no weight: it has the new digest, and one signature.
func TestSealAgain(t *testing.T) {
	o := mustTable(t, homes()...)
	want := mustSeal(t, o, full(), "s2")
	for _, e := range append(borne(full()), want) {
		if got := mustSeal(t, o, e, "s2"); !same(got, want) {
			t.Errorf("%+v became %+v", e, got)
		}
		other := mustSeal(t, o, e, "s1")
		if other.Hash != want.Hash || len(other.Sigs) != 1 || other.Sigs[0].Server != "s1" {
			t.Errorf("%+v became %+v", e, other)
		}
	}
	counts(t, "all", o, 1, 2)
}

// TestSealTells (7.1): what Seal tells is what Hash, event and the table tell.
func TestSealTells(t *testing.T) {
	o := mustTable(t, homes()...)
	for _, e := range several(t) {
		s := mustSeal(t, o, e, ident.Home(e.Sender))
		if event.Shape(s) != api.OK || s.Hash != mustHash(t, o, e) || s.Hash != mustHash(t, o, s) {
			t.Errorf("%+v", s)
		}
		b, err := event.Encode(s)
		if again, fault := event.Decode(b); err != api.OK || fault != api.OK || !same(again, s) {
			t.Errorf("%+v became %+v", s, again)
		}
	}
}

// TestSealUnknown (7.1): a server that the table does not know.
func TestSealUnknown(t *testing.T) {
	o := mustTable(t, "s1", "s2")
	for _, server := range []string{"s3", "", "s", "s11", "S1", "s1 ", " s1", "s1\x00", "@ann:s1", strings.Repeat("s", 100000)} {
		refused(t, server, o, hello(), server, api.ErrNone)
		refused(t, server, o, full(), server, api.ErrNone)
	}
	for _, bare := range tables(t)[1:] {
		for _, server := range []string{"s1", "", "S"} {
			refused(t, "a table without servers", bare, hello(), server, api.ErrNone)
		}
	}
	counts(t, "nothing", o, 0, 0)
	if s := mustSeal(t, o, hello(), "s2"); s.Hash != letters(1) || s.Sigs[0].Token != letters(1) {
		t.Errorf("%+v", s)
	}
}

// TestSealLong (7.1): an event that is just not too long without its digest and signature, and its neighbours.
func TestSealLong(t *testing.T) {
	far := strings.Repeat("s", api.MaxServer)
	for _, key := range []string{"reason", "membership"} {
		for _, server := range []string{"s", "s2", far} {
			o := mustTable(t, "s", "s2", far)
			limit := api.MaxBytes - weight(server)
			e := long(t, full(), key, limit)
			s := mustSeal(t, o, e, server)
			if b, err := event.Encode(s); err != api.OK || len(b) != api.MaxBytes {
				t.Errorf("%s by %s: %d bytes, error %d", key, server, len(b), err)
			}
			counts(t, key, o, 1, 1)
			for _, n := range []int{limit + 1, limit + 10, limit + 11, limit + 12, api.MaxBytes - 1, api.MaxBytes} {
				refused(t, key, o, long(t, full(), key, n), server, api.ErrLong)
			}
			counts(t, key, o, 1, 1)
		}
	}
}

// TestSealLongBearer (7.1): an event that is long by what it bears is no longer with one signature; too long by it, it is none that may be sealed.
func TestSealLongBearer(t *testing.T) {
	o := mustTable(t, "s2")
	e := full()
	e.Hash, e.Sigs = letters(9), []api.Sig{sig("a", letters(1)), sig("b", letters(1)), sig("s2", letters(2))}
	s := mustSeal(t, o, long(t, e, "membership", api.MaxBytes), "s2")
	if len(s.Sigs) != 1 || event.Shape(s) != api.OK {
		t.Errorf("%d signatures, error %d", len(s.Sigs), event.Shape(s))
	}
	counts(t, "one", o, 1, 1)
	e.Hash = ""
	s = mustSeal(t, o, long(t, e, "membership", api.MaxBytes), "s2")
	checked(t, "long", o, s, s, true)
	refused(t, "too long by what it bears", o, long(t, e, "membership", api.MaxBytes+1), "s2", api.ErrLong)
}

// TestWhichErrorFirst (7.1): Shape's ahead of all, then ErrNone, then ErrLong.
func TestWhichErrorFirst(t *testing.T) {
	o := mustTable(t, "s2")
	refused(t, "too long, and no server", o, long(t, full(), "reason", api.MaxBytes+1), "s9", api.ErrLong)
	refused(t, "too long when sealed, and no server", o, long(t, full(), "reason", api.MaxBytes), "s9", api.ErrNone)
	refused(t, "too long when sealed, and no table", nil, long(t, full(), "reason", api.MaxBytes), "s2", api.ErrNone)
	refused(t, "too long, and no table", nil, long(t, full(), "reason", api.MaxBytes+1), "s2", api.ErrLong)
	e := long(t, full(), "reason", 2*api.MaxBytes)
	e.Depth = -1
	refused(t, "too long, and no event", o, e, "s9", api.ErrShape)
	unchecked(t, "too long, and no event", o, e, api.ErrShape)
	unchecked(t, "too long, and not signed", o, long(t, full(), "reason", api.MaxBytes+1), api.ErrLong)
	counts(t, "nothing", o, 0, 0)
}

// TestOddServer (7.1): a server of the table whose name is none may sign; nobody is at home there.
func TestOddServer(t *testing.T) {
	for _, odd := range []string{"", "S", "s 1", "\xff", strings.Repeat("s", api.MaxServer+1)} {
		o := mustTable(t, odd, "s2")
		s := mustSeal(t, o, full(), odd)
		want := ordered(full())
		want.Hash = letters(1)
		want.Sigs = []api.Sig{sig(odd, letters(1))}
		if !same(s, want) || !o.Verify(odd, goFace(want), letters(1)) {
			t.Errorf("%q: %+v", odd, s)
		}
		unchecked(t, odd, o, s, api.ErrShape)
		counts(t, odd, o, 1, 1)
	}
}
