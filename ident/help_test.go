package ident

import (
	"encoding/base64"
	"regexp"
	"strings"
	"testing"
)

// The chapter's kinds of names, as patterns of Go's own.
var (
	serverForm = regexp.MustCompile(`\A[a-z0-9.\-]{1,32}\z`)
	localForm  = regexp.MustCompile(`\A[a-z0-9._\-]{1,32}\z`)
	typeForm   = regexp.MustCompile(`\A[a-z0-9._]{1,64}\z`)
	pairForm   = regexp.MustCompile(`\A([@!])([a-z0-9._\-]{1,32}):([a-z0-9.\-]{1,32})\z`)
)

// eventForm tells an event's name by Go's own base64, which must tell the same letters again.
func eventForm(s string) bool {
	if len(s) != 12 || s[0] != '$' {
		return false
	}
	b, err := base64.RawStdEncoding.DecodeString(s[1:])
	return err == nil && len(b) == 8 && base64.RawStdEncoding.EncodeToString(b) == s[1:]
}

// taker is User or Room.
type taker func(string) (string, string, bool)

// takes holds a call that takes names apart to its answer.
func takes(t *testing.T, what string, take taker, s, local, server string, ok bool) {
	t.Helper()
	l, h, is := take(s)
	if l != local || h != server || is != ok {
		t.Errorf("%s(%q): %q, %q, %t, not %q, %q, %t", what, s, l, h, is, local, server, ok)
	}
}

// many tells one letter, as often as n.
func many(n int) string { return strings.Repeat("a", n) }

// oneByte tells all texts of one byte.
func oneByte() []string {
	var l []string
	for c := range 256 {
		l = append(l, string([]byte{byte(c)}))
	}
	return l
}

// oddLetters are texts that are of several bytes, or of none, or look like letters that are allowed.
func oddLetters() []string {
	return []string{"", "é", "ａ", "а", "١", "K", "ſ", "\xff", "\x00", "a\x00", "a\n", "\na", " a", "a ", "a é", "\u202ea", "�"}
}
