package score

import (
	"fmt"
	"math"
	"slices"
	"strconv"
	"testing"

	"agora/api"
)

// board makes a board, which must be made.
func board(t *testing.T, n, room, limit int) *Board {
	t.Helper()
	b, err := New(n, room, limit)
	if err != api.OK || b == nil {
		t.Fatalf("board of %d, %d and %d: error %d", n, room, limit, err)
	}
	return b
}

// offer offers texts, all of which must be taken.
func offer(t *testing.T, b *Board, peer int, texts ...string) {
	t.Helper()
	for _, text := range texts {
		was, total := b.Waiting(peer), b.Total()
		if err := b.Offer(peer, []byte(text)); err != api.OK {
			t.Fatalf("peer %d, %.40q: error %d", peer, text, err)
		}
		if b.Waiting(peer) != was+1 || b.Total() != total+1 {
			t.Fatalf("peer %d, %.40q: %d waiting became %d, %d in all %d", peer, text, was, b.Waiting(peer), total, b.Total())
		}
	}
}

// offered makes a board whose peers offered these texts; nobody is out.
func offered(t *testing.T, room, limit int, rows ...[]string) *Board {
	t.Helper()
	b := board(t, len(rows), room, limit)
	for peer, texts := range rows {
		offer(t, b, peer, texts...)
	}
	return b
}

// next tells the next turn as a text, or nothing, if there is none.
func next(t *testing.T, b *Board) string {
	t.Helper()
	total := b.Total()
	turn, ok := b.Next()
	if ok != (total > 0) {
		t.Fatalf("%d in all: a turn: %v", total, ok)
	}
	if !ok {
		if turn.Peer != 0 || turn.Frame != nil {
			t.Errorf("no turn, but %d %.40q", turn.Peer, turn.Frame)
		}
		return ""
	}
	if b.Total() != total-1 {
		t.Errorf("%d in all became %d", total, b.Total())
	}
	return fmt.Sprintf("%d %s", turn.Peer, turn.Frame)
}

// tells holds the next turns against texts.
func tells(t *testing.T, what string, b *Board, want ...string) {
	t.Helper()
	var got []string
	for range want {
		got = append(got, next(t, b))
	}
	if !slices.Equal(got, want) {
		t.Errorf("%s: told %.200q, not %.200q", what, got, want)
	}
}

// told takes all turns.
func told(t *testing.T, b *Board) []string {
	t.Helper()
	var l []string
	for range b.Total() {
		l = append(l, next(t, b))
	}
	if b.Total() != 0 {
		t.Errorf("%d in all behind all turns", b.Total())
	}
	return l
}

// ends takes all turns, and holds them against texts.
func ends(t *testing.T, what string, b *Board, want ...string) {
	t.Helper()
	if got := told(t, b); !slices.Equal(got, want) {
		t.Errorf("%s: told %.200q, not %.200q", what, got, want)
	}
}

// stands holds a peer against its score, whether it is out, and how many of its frames wait.
func stands(t *testing.T, what string, b *Board, peer, score int, out bool, waiting int) {
	t.Helper()
	if b.Score(peer) != score || b.Out(peer) != out || b.Waiting(peer) != waiting {
		t.Errorf("%s: peer %d: score %d, out %v, %d waiting; not %d, %v, %d", what, peer, b.Score(peer), b.Out(peer), b.Waiting(peer), score, out, waiting)
	}
}

// looks tells all that can be asked of peers 0 to n - 1, and of some that are none.
func looks(b *Board, n int) []string {
	l := []string{fmt.Sprint("total ", b.Total())}
	for peer := -2; peer < n+2; peer++ {
		l = append(l, fmt.Sprint(peer, " ", b.Score(peer), " ", b.Out(peer), " ", b.Waiting(peer)))
	}
	return l
}

// same holds all that can be asked against what it was.
func same(t *testing.T, what string, b *Board, n int, was []string) {
	t.Helper()
	if now := looks(b, n); !slices.Equal(now, was) {
		t.Errorf("%s: %q became %q", what, was, now)
	}
}

// counted tells n texts that are unlike, with that letter ahead.
func counted(letter string, n int) []string {
	var l []string
	for i := range n {
		l = append(l, letter+strconv.Itoa(i))
	}
	return l
}

// strangers tells numbers that are no peer's of n.
func strangers(n int) []int {
	return []int{-1, n, n + 1, -n, -n - 1, 2 * n, api.MaxServers, api.MaxServers + 1, math.MaxInt, math.MinInt, 1 << 32, 1<<32 + 1, -1 << 32}
}

// bare tells boards that New did not make.
func bare() []*Board { return []*Board{nil, {}, new(Board)} }

// spoil writes over bytes, and over what lies behind their end.
func spoil(b []byte) {
	b = b[:cap(b)]
	for i := range b {
		b[i] = '#'
	}
}

// roomy tells the same bytes with something behind their end.
func roomy(text string) []byte { return []byte(text + "behind")[:len(text)] }
