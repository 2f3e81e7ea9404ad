package event

import (
	"agora/api"
	"agora/values"
)

// told tells a well shaped event's JSON, its content as it stands. It shares memory with the event.
func told(e api.Event) api.Json {
	j := api.Json{Kind: api.JMap}
	put := func(name string, one api.Json) {
		j.Keys = append(j.Keys, name)
		j.List = append(j.List, one)
	}
	put("auth", values.Texts(e.Auth))
	put("content", e.Content)
	put("depth", values.Number(e.Depth))
	put("hash", values.Text(e.Hash))
	if e.IsState {
		put("key", values.Text(e.Key))
	}
	put("prev", values.Texts(e.Prev))
	put("room", values.Text(e.Room))
	put("sender", values.Text(e.Sender))
	put("sigs", tokens(e.Sigs))
	put("ts", values.Number(e.Ts))
	put("type", values.Text(e.Type))
	return j
}

func tokens(sigs []api.Sig) api.Json {
	j := api.Json{Kind: api.JMap}
	for _, sig := range sigs {
		j.Keys = append(j.Keys, sig.Server)
		j.List = append(j.List, values.Text(sig.Token))
	}
	return j
}

// read tells the event that a value, in order, says, if it has an event's names and kinds, and no others (what is no map has no names). Whether the event is well shaped is not asked.
func read(j api.Json) (api.Event, bool) {
	r := reader{left: make(map[string]api.Json, len(j.Keys))}
	for i, name := range j.Keys {
		r.left[name] = j.List[i]
	}
	_, state := r.left["key"]
	e := api.Event{
		Room:    r.text("room"),
		Type:    r.text("type"),
		Sender:  r.text("sender"),
		IsState: state,
		Content: r.take("content", api.JMap),
		Prev:    r.texts("prev"),
		Auth:    r.texts("auth"),
		Depth:   r.number("depth"),
		Ts:      r.number("ts"),
		Hash:    r.text("hash"),
		Sigs:    r.sigs("sigs"),
	}
	if state {
		e.Key = r.text("key")
	}
	return e, !r.bad && len(r.left) == 0
}

// reader takes values out of a map. What is left of it in the end are names too many; bad is set once a value is not there, or of another kind.
type reader struct {
	left map[string]api.Json
	bad  bool
}

// take tells the value of a name. One that is not there is null, which no name of an event may be.
func (r *reader) take(name string, kind int) api.Json {
	j := r.left[name]
	delete(r.left, name)
	r.expect(j, kind)
	return j
}

func (r *reader) expect(j api.Json, kind int) {
	if j.Kind != kind {
		r.bad = true
	}
}

func (r *reader) text(name string) string { return r.take(name, api.JText).Text }

func (r *reader) number(name string) int64 { return r.take(name, api.JInt).Int }

func (r *reader) texts(name string) []string {
	var row []string
	for _, j := range r.take(name, api.JList).List {
		r.expect(j, api.JText)
		row = append(row, j.Text)
	}
	return row
}

// sigs tells signatures by the names of servers, which rise, as the map is in order.
func (r *reader) sigs(name string) []api.Sig {
	var row []api.Sig
	j := r.take(name, api.JMap)
	for i, server := range j.Keys {
		token := j.List[i]
		r.expect(token, api.JText)
		row = append(row, api.Sig{Server: server, Token: token.Text})
	}
	return row
}
