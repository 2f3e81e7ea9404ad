// Package canon is layer 1: canonical JSON, values as bytes and bytes as values. See shared/doc/01-canon.md.
package canon

import "agora/api"

// Good tells whether a value is good.
func Good(j api.Json) bool { return goodAt(j, 1) }

// Order puts a value in order; of one that is not good it tells api.Json{}.
func Order(j api.Json) api.Json {
	if !Good(j) {
		return api.Json{}
	}
	return arranged(j)
}

// Encode tells a value's bytes.
func Encode(j api.Json) ([]byte, api.Errno) {
	if !Good(j) {
		return nil, api.ErrArg
	}
	var w writer
	w.value(arranged(j))
	if w.long() {
		return nil, api.ErrLong
	}
	return w.out, api.OK
}

// Decode tells what bytes say, or the first error and its place.
func Decode(b []byte) (api.Json, api.Errno, int) {
	if len(b) > api.MaxBytes {
		return api.Json{}, api.ErrLong, api.MaxBytes
	}
	r := reader{text: string(b)}
	if at, bad := stray(r.text); bad {
		return api.Json{}, api.ErrUtf, at
	}
	j, ok := r.whole()
	if !ok {
		return api.Json{}, r.err, r.place
	}
	return j, api.OK, 0
}
