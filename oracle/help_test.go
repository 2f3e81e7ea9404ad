package oracle

import (
	"encoding/base64"
	"encoding/binary"
	"slices"
	"strconv"
	"testing"

	"agora/api"
)

// lettersOf tells what the chapter makes of a number, by Go's own base64.
func lettersOf(n int) string {
	return base64.RawStdEncoding.EncodeToString(binary.BigEndian.AppendUint64(nil, uint64(n)))
}

// names tells n names that are unlike.
func names(n int) []string {
	var l []string
	for i := range n {
		l = append(l, "s"+strconv.Itoa(i))
	}
	return l
}

func mustNew(t *testing.T, servers ...string) *Table {
	t.Helper()
	o, err := New(servers)
	if err != api.OK || o == nil {
		t.Fatalf("%q: error %d, table %v", servers, err, o)
	}
	return o
}

func mustSign(t *testing.T, o *Table, server, text string) string {
	t.Helper()
	token, err := o.Sign(server, []byte(text))
	if err != api.OK {
		t.Fatalf("%q by %q: error %d", text, server, err)
	}
	return token
}

func counts(t *testing.T, o *Table, texts, tokens int) {
	t.Helper()
	if o.Texts() != texts || o.Tokens() != tokens {
		t.Fatalf("%d texts and %d tokens, not %d and %d", o.Texts(), o.Tokens(), texts, tokens)
	}
}

// bare tells tables that New did not make.
func bare() []*Table { return []*Table{nil, {}, new(Table)} }

// model is a table as the chapter says it, row by row.
type model struct {
	servers []string
	texts   []string
	tokens  [][2]string
}

func (m *model) digest(text string) string {
	if !slices.Contains(m.texts, text) {
		m.texts = append(m.texts, text)
	}
	return lettersOf(slices.Index(m.texts, text) + 1)
}

func (m *model) sign(server, text string) (string, api.Errno) {
	if !slices.Contains(m.servers, server) {
		return "", api.ErrNone
	}
	pair := [2]string{server, text}
	if !slices.Contains(m.tokens, pair) {
		m.tokens = append(m.tokens, pair)
	}
	return lettersOf(slices.Index(m.tokens, pair) + 1), api.OK
}

func (m *model) verify(server, text, token string) bool {
	at := slices.Index(m.tokens, [2]string{server, text})
	return at >= 0 && lettersOf(at+1) == token
}
