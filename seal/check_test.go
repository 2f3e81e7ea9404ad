package seal

import (
	"testing"

	"agora/api"
	"agora/ident"
)

// TestCheckSealed (7.2): what is sealed by its sender's server is whole; by another one it is ErrSig.
func TestCheckSealed(t *testing.T) {
	o := mustTable(t, homes()...)
	for _, e := range several(t) {
		for _, server := range homes() {
			s := mustSeal(t, o, e, server)
			if server == ident.Home(e.Sender) {
				checked(t, e.Type, o, s, s, true)
			} else {
				unchecked(t, e.Type+" by "+server, o, s, api.ErrSig)
			}
		}
	}
	counts(t, "all", o, len(several(t)), len(several(t))*len(homes()))
}

// TestCheckOrder (7.2): the content is told in order, in whatever order it came.
func TestCheckOrder(t *testing.T) {
	o := mustTable(t, homes()...)
	for _, e := range several(t) {
		s := mustSeal(t, o, e, ident.Home(e.Sender))
		turned := s
		turned.Content = backwards(s.Content)
		checked(t, e.Type, o, turned, s, true)
		turned.Content.Keys, turned.Content.List = append(turned.Content.Keys, "b2", "b1"), append(turned.Content.List, null(), null())
		checked(t, e.Type+" and more", o, turned, hidden(s), false)
	}
}

// TestUnsigned (7.2): an event without signatures, with wrong ones, with one of another text or another server.
func TestUnsigned(t *testing.T) {
	o := mustTable(t, homes()...)
	s := mustSeal(t, o, full(), "s2")
	other := mustSeal(t, o, hello(), "s2")
	by1 := mustSeal(t, o, full(), "s1")
	for what, sigs := range map[string][]api.Sig{
		"none":                       nil,
		"a number too far":           {sig("s2", letters(100))},
		"no number":                  {sig("s2", letters(0))},
		"another text's":             {sig("s2", other.Sigs[0].Token)},
		"another server's token":     {sig("s2", by1.Sigs[0].Token)},
		"another server's name":      {sig("s1", s.Sigs[0].Token)},
		"another server's":           {sig("s1", by1.Sigs[0].Token)},
		"a server that nobody knows": {sig("s9", s.Sigs[0].Token)},
		"the room's server alone":    {sig("s1", by1.Sigs[0].Token), sig("s3", letters(1))},
		"the right one under others": {sig("s1", s.Sigs[0].Token), sig("s3", s.Sigs[0].Token)},
		"a wrong one among others":   {sig("s1", by1.Sigs[0].Token), sig("s2", other.Sigs[0].Token)},
	} {
		e := s
		e.Sigs = sigs
		unchecked(t, what, o, e, api.ErrSig)
	}
	counts(t, "all", o, 2, 3)
}

// TestSignedFace (7.2): the face is what is signed, not the contents, nor the whole event.
func TestSignedFace(t *testing.T) {
	o := mustTable(t, homes()...)
	s := mustSeal(t, o, full(), "s2")
	for what, b := range map[string][]byte{"contents": goContents(s), "whole": goBytes(s), "redaction": goBytes(hidden(s)), "bare": goFace(full())} {
		token, err := o.Sign("s2", b)
		if err != api.OK {
			t.Fatal(err)
		}
		e := s
		e.Sigs = []api.Sig{sig("s2", token)}
		unchecked(t, what, o, e, api.ErrSig)
	}
	token, _ := o.Sign("s2", goFace(s))
	if token != s.Sigs[0].Token {
		t.Errorf("%s, not %s", token, s.Sigs[0].Token)
	}
}

// TestOthersBeside (7.2): signatures of other servers beside the right one, right or wrong, change nothing, and stay.
func TestOthersBeside(t *testing.T) {
	o := mustTable(t, homes()...)
	s := mustSeal(t, o, full(), "s2")
	right := s.Sigs[0]
	by1, by3 := mustSeal(t, o, full(), "s1").Sigs[0], mustSeal(t, o, full(), "s3").Sigs[0]
	for _, sigs := range [][]api.Sig{
		{by1, right}, {right, by3}, {by1, right, by3}, {sig("a", letters(0)), right}, {right, sig("x", letters(9))},
		{sig("a", right.Token), sig("b", letters(0)), right, sig("z", letters(0))}, {sig("a", letters(1)), sig("b", letters(1)), sig("c", letters(1)), right},
	} {
		e := s
		e.Sigs = sigs
		checked(t, "whole", o, e, e, true)
		e.Content = table([]string{"reason", "membership"}, null(), text("invite"))
		checked(t, "not whole", o, e, hidden(e), false)
		e.Content = table([]string{"membership"}, text("join"))
		unchecked(t, "not signed", o, e, api.ErrSig)
	}
}

// TestNotWhole (7.2): the example, and a digest that its server signed though it is not that of the contents.
func TestNotWhole(t *testing.T) {
	o := mustTable(t, "s1")
	s := mustSeal(t, o, hello(), "s1")
	e := s
	e.Content = table([]string{"body"}, text("hallo"))
	want := s
	want.Content = table(nil)
	checked(t, "another body", o, e, want, false)
	e.Depth++
	unchecked(t, "another depth", o, e, api.ErrSig)
	for _, hash := range []string{"", letters(0), letters(1000)} {
		e := hello()
		e.Hash = hash
		token, _ := o.Sign("s1", goFace(e))
		e.Sigs = []api.Sig{sig("s1", token)}
		checked(t, "digest "+hash, o, e, hidden(e), false)
	}
	// A digest of an event without anything to hide may be wrong, too: its redaction is all the same not whole.
	e = plain()
	e.Hash = s.Hash
	token, _ := o.Sign("s1", goFace(e))
	e.Sigs = []api.Sig{sig("s1", token)}
	checked(t, "nothing to hide", o, e, e, false)
}

// TestFaceByHash (7.2): what a digest is of is asked of this table: another event's digest is not right.
func TestFaceByHash(t *testing.T) {
	o := mustTable(t, "s1")
	a, b := mustSeal(t, o, hello(), "s1"), mustSeal(t, o, plain(), "s1")
	e := a
	e.Hash, e.Sigs = b.Hash, b.Sigs
	// Both say the same once they are redacted, so that the other one's signature is right of this face, but its digest is not.
	checked(t, "another one's seal", o, e, b, false)
	e.Sigs = a.Sigs
	unchecked(t, "another one's digest", o, e, api.ErrSig)
}

// TestCheckLongest (7.2): a sealed event of just as many bytes as may be; one byte more is ErrLong.
func TestCheckLongest(t *testing.T) {
	for _, key := range []string{"reason", "membership"} {
		o := mustTable(t, "s2")
		s := mustSeal(t, o, long(t, full(), key, api.MaxBytes-weight("s2")), "s2")
		checked(t, key, o, s, s, true)
		unchecked(t, key, o, long(t, s, key, api.MaxBytes+1), api.ErrLong)
		unchecked(t, key, o, long(t, s, key, 3*api.MaxBytes), api.ErrLong)
	}
	// One that is long by other servers' signatures, and one that is redacted from that length.
	o := mustTable(t, "s2")
	s := mustSeal(t, o, long(t, full(), "reason", api.MaxBytes-weight("s2")-len(`"s1":"AAAAAAAAAAA",`)), "s2")
	s.Sigs = []api.Sig{sig("s1", letters(1)), s.Sigs[0]}
	checked(t, "two signatures", o, s, s, true)
	turned := s
	turned.Content = table([]string{"reason"}, text("b"+s.Content.List[0].Text[1:]))
	checked(t, "two signatures, another reason", o, turned, hidden(s), false)
}
