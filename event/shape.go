package event

import (
	"unicode/utf8"

	"agora/api"
	"agora/canon"
	"agora/ident"
)

// shaped tells whether an event is well shaped but for the number of its bytes.
func shaped(e api.Event) bool {
	return placed(e) && keyed(e) && filled(e.Content) &&
		named(e.Prev, api.MaxPrev) && named(e.Auth, api.MaxAuth) &&
		within(e.Depth, api.MaxHeight) && within(e.Ts, api.MaxInt) &&
		(e.Hash == "" || digest(e.Hash)) && signed(e.Sigs)
}

// placed tells whether an event has a room, a type and a sender.
func placed(e api.Event) bool {
	_, _, room := ident.Room(e.Room)
	_, _, user := ident.User(e.Sender)
	return room && user && ident.Type(e.Type)
}

// keyed tells whether an event has a key that may be, or none, if it is not one of a state.
func keyed(e api.Event) bool {
	if !e.IsState {
		return e.Key == ""
	}
	return len(e.Key) <= api.MaxKey && utf8.ValidString(e.Key)
}

// filled tells whether a content is a map that may stand in an event, which is one level more.
func filled(content api.Json) bool {
	around := api.Json{Kind: api.JList, List: []api.Json{content}}
	return content.Kind == api.JMap && canon.Good(around)
}

// named tells whether names are events', no more than that, and no two the same.
func named(names []string, most int) bool {
	if len(names) > most || !once(names) {
		return false
	}
	for _, name := range names {
		if !ident.Event(name) {
			return false
		}
	}
	return true
}

// once tells whether no two of a row are the same.
func once[T comparable](row []T) bool {
	stood := make(map[T]struct{}, len(row))
	for _, one := range row {
		stood[one] = struct{}{}
	}
	return len(stood) == len(row)
}

func within(n, most int64) bool { return 0 <= n && n <= most }

// digest tells whether letters are those of an event's name.
func digest(letters string) bool { return ident.Event("$" + letters) }

// signed tells whether signatures may be: servers that rise are no two the same, too.
func signed(sigs []api.Sig) bool {
	if len(sigs) > api.MaxSigs {
		return false
	}
	for i, sig := range sigs {
		if !ident.Server(sig.Server) || !digest(sig.Token) {
			return false
		}
		if i > 0 && sigs[i-1].Server >= sig.Server {
			return false
		}
	}
	return true
}
