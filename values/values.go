// Package values makes values of JSON, and finds what stands under their keys.
package values

import (
	"slices"

	"agora/api"
)

// Text makes a text.
func Text(s string) api.Json { return api.Json{Kind: api.JText, Text: s} }

// Number makes a number.
func Number(n int64) api.Json { return api.Json{Kind: api.JInt, Int: n} }

// Texts makes a list of texts.
func Texts(row []string) api.Json {
	j := api.Json{Kind: api.JList}
	for _, s := range row {
		j.List = append(j.List, Text(s))
	}
	return j
}

// At tells the value under a key; null, if there is none. A value that is not good may have keys and be no map, or lack the value of a key.
func At(j api.Json, key string) api.Json {
	at := slices.Index(j.Keys, key)
	if j.Kind != api.JMap || at < 0 || at >= len(j.List) {
		return api.Json{}
	}
	return j.List[at]
}

// TextAt tells the text under a key; empty, if there is none, or no text there.
func TextAt(j api.Json, key string) string {
	at := At(j, key)
	if at.Kind != api.JText {
		return ""
	}
	return at.Text
}
