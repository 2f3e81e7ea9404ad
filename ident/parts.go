package ident

import (
	"strings"

	"agora/api"
)

// colon parts a local name from its server; neither of them may hold one, so that a name has one way alone to be taken apart.
const colon = ":"

func localName(s string) bool {
	return fits(s, api.MaxLocal, letterOr("._-"))
}

// apart tells the two parts of a name that begins with that sign.
func apart(s, sign string) (string, string, bool) {
	both, ok := strings.CutPrefix(s, sign)
	if !ok {
		return "", "", false
	}
	name, server, ok := strings.Cut(both, colon)
	if !ok || !localName(name) || !Server(server) {
		return "", "", false
	}
	return name, server, true
}

func joined(sign, name, server string) (string, api.Errno) {
	if !localName(name) || !Server(server) {
		return "", api.ErrArg
	}
	return sign + name + colon + server, api.OK
}
