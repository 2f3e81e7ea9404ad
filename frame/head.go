package frame

import (
	"bytes"

	"agora/api"
	"agora/canon"
	"agora/values"
)

// entry is an entry of a head: in those of messages that have this; 0: in all.
type entry struct {
	of  int
	key string
	one api.Json
}

// head tells the head of a message, whose kind is one.
func head(m api.Message) api.Json {
	return entries(kinds[m.Kind].has,
		entry{0, "kind", values.Number(int64(m.Kind))},
		entry{0, "room", values.Text(m.Room)},
		entry{hasUser, "user", values.Text(m.User)},
		entry{hasWhat, "what", values.Text(m.What)},
		entry{hasAt, "at", values.Number(m.At)},
		entry{hasErr, "err", values.Number(int64(m.Err))},
		entry{hasDraft, "depth", values.Number(m.Depth)},
		entry{hasDraft, "prev", values.Texts(m.Prev)},
		entry{hasDraft, "auth", values.Texts(m.Auth)},
		entry{hasNames, "names", values.Texts(m.Names)},
	)
}

// entries tells a map of those of the entries that are had.
func entries(has int, all ...entry) api.Json {
	j := api.Json{Kind: api.JMap}
	for _, e := range all {
		if e.of&has == e.of {
			j.Keys, j.List = append(j.Keys, e.key), append(j.List, e.one)
		}
	}
	return j
}

// readHead tells the message without events whose head a part is. Whether that is right is not asked.
func readHead(part []byte) (api.Message, bool) {
	j, plain, ok := read(part)
	if !ok {
		return api.Message{}, false
	}
	m := api.Message{
		Kind:  int(values.At(j, "kind").Int),
		Room:  values.TextAt(j, "room"),
		User:  values.TextAt(j, "user"),
		What:  values.TextAt(j, "what"),
		At:    values.At(j, "at").Int,
		Err:   api.Errno(values.At(j, "err").Int),
		Depth: values.At(j, "depth").Int,
		Prev:  words(values.At(j, "prev")),
		Auth:  words(values.At(j, "auth")),
		Names: words(values.At(j, "names")),
	}
	if !isKind(m.Kind) {
		return api.Message{}, false
	}
	// What was lacking, too much or of another type makes the head of what was read another one.
	again, err := canon.Encode(head(m))
	return m, err == api.OK && bytes.Equal(again, plain)
}

// words tells the texts of a list.
func words(j api.Json) []string {
	var row []string
	for _, one := range j.List {
		row = append(row, one.Text)
	}
	return row
}
