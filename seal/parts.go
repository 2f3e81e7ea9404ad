package seal

import (
	"slices"

	"agora/api"
	"agora/canon"
	"agora/event"
	"agora/ident"
	"agora/oracle"
	"agora/redact"
)

// blank stands for a digest or a token that is not told yet: all of them have as many letters.
const blank = "AAAAAAAAAAA"

// contents tells the bytes of an event without its digest and its signatures.
func contents(e api.Event) []byte {
	return without(e, func(e api.Event) api.Event {
		e.Hash, e.Sigs = "", nil
		return e
	})
}

// face tells the bytes of an event's redaction without its signatures.
func face(e api.Event) []byte {
	return without(e, func(e api.Event) api.Event {
		e.Sigs = nil
		return redact.Redact(e)
	})
}

// without tells the bytes of what a closure leaves of an event. There is no error: what has less than a well shaped event is well shaped, and no longer.
func without(e api.Event, left func(e api.Event) api.Event) []byte {
	b, _ := event.Encode(left(e))
	return b
}

// vouched tells whether the server at home in an event's sender signed its face.
func vouched(t *oracle.Table, e api.Event) bool {
	home, b := ident.Home(e.Sender), face(e)
	return slices.ContainsFunc(e.Sigs, func(sig api.Sig) bool {
		return sig.Server == home && t.Verify(home, b, sig.Token)
	})
}

// fresh tells the same event in new memory, its content in order.
func fresh(e api.Event) api.Event {
	e.Content = canon.Order(e.Content)
	e.Prev, e.Auth, e.Sigs = slices.Clone(e.Prev), slices.Clone(e.Auth), slices.Clone(e.Sigs)
	return e
}
