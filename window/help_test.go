package window

import (
	"fmt"
	"math"
	"slices"
	"strconv"
	"testing"

	"agora/api"
)

// sender makes a sender, which must be made.
func sender(t *testing.T, wide, queue int) *Sender {
	t.Helper()
	s, err := NewSender(wide, queue)
	if err != api.OK || s == nil {
		t.Fatalf("sender of %d and %d: error %d", wide, queue, err)
	}
	return s
}

// receiver makes a receiver, which must be made.
func receiver(t *testing.T, wide int) *Receiver {
	t.Helper()
	r, err := NewReceiver(wide)
	if err != api.OK || r == nil {
		t.Fatalf("receiver of %d: error %d", wide, err)
	}
	return r
}

// push pushes texts, all of which must be taken.
func push(t *testing.T, s *Sender, texts ...string) {
	t.Helper()
	for _, text := range texts {
		left := s.Left()
		if err := s.Push([]byte(text)); err != api.OK {
			t.Fatalf("%.40q: error %d", text, err)
		}
		if s.Left() != left+1 {
			t.Fatalf("%.40q: %d left became %d", text, left, s.Left())
		}
	}
}

// pushed makes a sender to which these texts were pushed.
func pushed(t *testing.T, wide, queue int, texts ...string) *Sender {
	t.Helper()
	s := sender(t, wide, queue)
	push(t, s, texts...)
	return s
}

// piece is a piece with the bytes of a text.
func piece(seq int64, text string) api.Piece { return api.Piece{Seq: seq, Data: []byte(text)} }

// counted tells n texts that are unlike.
func counted(n int) []string {
	var l []string
	for i := range n {
		l = append(l, "p"+strconv.Itoa(i))
	}
	return l
}

// shows holds a sender against its first number that is not done, how many are left, and the texts under way.
func shows(t *testing.T, what string, s *Sender, base int64, left int, out ...string) {
	t.Helper()
	if s.Base() != base || s.Left() != left {
		t.Errorf("%s: base %d, left %d, not %d and %d", what, s.Base(), s.Left(), base, left)
	}
	alike(t, what, s.Out(), numbered(base, out))
}

// numbered tells pieces of these texts, the first of which has that number.
func numbered(first int64, texts []string) []api.Piece {
	var l []api.Piece
	for i, text := range texts {
		l = append(l, piece(first+int64(i), text))
	}
	return l
}

// alike holds pieces against others.
func alike(t *testing.T, what string, got, want []api.Piece) {
	t.Helper()
	if a, b := lines(got), lines(want); !slices.Equal(a, b) {
		t.Errorf("%s: pieces %.200q, not %.200q", what, a, b)
	}
}

func lines(pieces []api.Piece) []string {
	l := []string{}
	for _, p := range pieces {
		l = append(l, fmt.Sprintf("%d %s", p.Seq, p.Data))
	}
	return l
}

// tells holds what a receiver told against texts.
func tells(t *testing.T, what string, got [][]byte, want ...string) {
	t.Helper()
	if !slices.Equal(texts(got), want) {
		t.Errorf("%s: told %.200q, not %.200q", what, texts(got), want)
	}
}

func texts(told [][]byte) []string {
	var l []string
	for _, b := range told {
		l = append(l, string(b))
	}
	return l
}

// holds holds a receiver against its wanted number, and how many it keeps.
func holds(t *testing.T, what string, r *Receiver, want int64, kept int) {
	t.Helper()
	if r.Want() != want || r.Kept() != kept {
		t.Errorf("%s: wants %d, keeps %d, not %d and %d", what, r.Want(), r.Kept(), want, kept)
	}
}

// bareSenders tells senders that NewSender did not make.
func bareSenders() []*Sender { return []*Sender{nil, {}, new(Sender)} }

// bareReceivers tells receivers that NewReceiver did not make.
func bareReceivers() []*Receiver { return []*Receiver{nil, {}, new(Receiver)} }

// farNumbers tells numbers that nothing near 0 has: far above, and below.
func farNumbers() []int64 {
	return []int64{-1, -2, -64, math.MinInt64, math.MinInt64 + 1, math.MaxInt64, math.MaxInt64 - 1, 1 << 32, 1<<32 + 1, 1 << 53, -1 << 32, -1 << 53}
}

// spoil writes over bytes, and over what lies behind their end.
func spoil(b []byte) {
	b = b[:cap(b)]
	for i := range b {
		b[i] = '#'
	}
}

// roomy tells the same bytes with something behind their end.
func roomy(text string) []byte { return []byte(text + "behind")[:len(text)] }
