package frame

import (
	"agora/api"
	"agora/canon"
	"agora/event"
)

// partWide is how many bytes tell how many a part has.
const partWide = 2

// put puts parts one behind the other, each behind the number of its bytes.
func put(parts ...[]byte) []byte {
	var all []byte
	for _, part := range parts {
		all = append(all, digits(int64(len(part)), partWide)...)
		all = append(all, part...)
	}
	return all
}

// cut tells the first part of bytes, and what is behind it.
func cut(b []byte) ([]byte, []byte, bool) {
	if len(b) < partWide {
		return nil, nil, false
	}
	long, rest := int(number(b[:partWide])), b[partWide:]
	if len(rest) < long {
		return nil, nil, false
	}
	return rest[:long], rest[long:], true
}

// read tells the value that a part is, and its canonical bytes, of which those of the part differ but in their order and in blanks.
func read(part []byte) (api.Json, []byte, bool) {
	j, err, _ := canon.Decode(part)
	if err != api.OK {
		return api.Json{}, nil, false
	}
	plain, err := canon.Encode(j)
	return j, plain, err == api.OK && tally(plain) == tally(part)
}

// tally tells how often each byte stands there that is no blank of JSON. Whoever writes a letter or a number in another way than the canonical one has more bytes, or larger letters.
func tally(b []byte) [256]int {
	var n [256]int
	for _, c := range b {
		n[c]++
	}
	n[' '], n['\t'], n['\n'], n['\r'] = 0, 0, 0, 0
	return n
}

// readEvents tells the events that parts are, which may be so many.
func readEvents(b []byte, most int) ([]api.Event, bool) {
	var events []api.Event
	for len(b) > 0 {
		part, rest, ok := cut(b)
		if !ok || len(events) == most {
			return nil, false
		}
		j, _, ok := read(part)
		if !ok {
			return nil, false
		}
		e, err := event.FromJson(j)
		if err != api.OK {
			return nil, false
		}
		events, b = append(events, e), rest
	}
	return events, true
}
