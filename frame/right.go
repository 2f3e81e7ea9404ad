package frame

import (
	"agora/api"
	"agora/ident"
)

// What a message may have beside its kind, its room and its events.
const (
	hasUser = 1 << iota
	hasWhat
	hasAt
	hasErr
	hasDraft
	hasNames
)

// kinds tells by kind what a message has, and how many events: at least, at most. 0 is no kind.
var kinds = [...]struct{ has, least, most int }{
	api.MHeart:   {hasAt, 0, 0},
	api.MPull:    {hasAt, 0, 0},
	api.MBatch:   {hasAt, 0, api.MaxBatch},
	api.MPush:    {0, 1, 1},
	api.MMissing: {hasNames, 0, 0},
	api.MGive:    {0, 0, api.MaxBatch},
	api.MAsk:     {hasUser | hasWhat, 0, 0},
	api.MDraft:   {hasUser | hasWhat | hasErr | hasDraft, 0, 0},
	api.MSend:    {hasWhat, 1, 1},
	api.MDone:    {hasUser | hasWhat | hasErr, 0, 0},
	api.MInvite:  {hasUser, 1, 1},
}

// maxErr is the greatest number of an error that is told.
const maxErr = 255

func isKind(n int) bool { return 0 < n && n < len(kinds) }

// fits tells whether a message is right, if its events are well shaped.
func fits(m api.Message) bool {
	return isKind(m.Kind) && isRoom(m.Room) && fitsHead(m, kinds[m.Kind].has) && fitsEvents(m)
}

// fitsHead tells whether a message has what it should have beside its room and its events, and nothing else.
func fitsHead(m api.Message, has int) bool {
	draft := within(m.Depth, api.MaxHeight) && areEvents(m.Prev, api.MaxPrev) && areEvents(m.Auth, api.MaxAuth)
	return either(has&hasUser, isUser(m.User), m.User == "") &&
		either(has&hasWhat, m.What == "join" || m.What == "leave", m.What == "") &&
		either(has&hasAt, within(m.At, api.MaxInt), m.At == 0) &&
		either(has&hasErr, within(int64(m.Err), maxErr), m.Err == 0) &&
		either(has&hasDraft, draft, m.Depth == 0 && len(m.Prev) == 0 && len(m.Auth) == 0) &&
		either(has&hasNames, len(m.Names) > 0 && areEvents(m.Names, api.MaxBatch), len(m.Names) == 0)
}

// either tells what counts of a part: whether it may be so, where the kind has it; else whether it is zero.
func either(has int, may, zero bool) bool {
	if has != 0 {
		return may
	}
	return zero
}

// fitsEvents tells whether there are as many events as should be, and all are of the message's room.
func fitsEvents(m api.Message) bool {
	kind := kinds[m.Kind]
	if len(m.Events) < kind.least || len(m.Events) > kind.most {
		return false
	}
	for _, e := range m.Events {
		if e.Room != m.Room {
			return false
		}
	}
	return true
}

func isRoom(s string) bool {
	_, _, ok := ident.Room(s)
	return ok
}

func isUser(s string) bool {
	_, _, ok := ident.User(s)
	return ok
}

// areEvents tells whether these are events' names, and no more than that.
func areEvents(names []string, most int) bool {
	if len(names) > most {
		return false
	}
	for _, name := range names {
		if !ident.Event(name) {
			return false
		}
	}
	return true
}

func within(n, most int64) bool { return 0 <= n && n <= most }
