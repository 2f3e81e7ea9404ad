package window

import (
	"fmt"
	"math"
	"strings"
	"testing"

	"agora/api"
)

// TestBareSenders (R1, 16.1): a nil sender, and one that NewSender did not make, takes nothing, and tells nothing.
func TestBareSenders(t *testing.T) {
	long := make([]byte, api.MaxPiece+1)
	for i, s := range bareSenders() {
		what := fmt.Sprint("sender ", i)
		for range 2 {
			shows(t, what, s, 0, 0)
			// What is too long is told behind what is no sender.
			for _, data := range [][]byte{nil, {}, []byte("x"), long[:api.MaxPiece], long} {
				if err := s.Push(data); err != api.ErrArg {
					t.Errorf("%s: %d bytes: error %d", what, len(data), err)
				}
				shows(t, what, s, 0, 0)
			}
			for _, n := range append(farNumbers(), 0, 1, 2, api.MaxWindow) {
				if done := s.Ack(n); done != 0 {
					t.Errorf("%s: ack of %d: %d", what, n, done)
				}
				shows(t, what, s, 0, 0)
			}
		}
	}
}

// TestBareReceivers (R1, 16.2): a nil receiver, and one that NewReceiver did not make, takes nothing, and tells nothing.
func TestBareReceivers(t *testing.T) {
	for i, r := range bareReceivers() {
		what := fmt.Sprint("receiver ", i)
		for range 2 {
			holds(t, what, r, 0, 0)
			for _, n := range append(farNumbers(), 0, 0, 1, 2, api.MaxWindow) {
				for _, text := range []string{"", "x", strings.Repeat("m", api.MaxPiece+1)} {
					tells(t, what, r.Take(piece(n, text)))
					holds(t, what, r, 0, 0)
				}
			}
		}
	}
}

// TestWrongAcks (16.1, R2): a number that is none of those under way changes nothing.
func TestWrongAcks(t *testing.T) {
	for _, done := range []int64{0, 1, 3, 5} {
		s := pushed(t, 3, 9, counted(8)...)
		for n := range done {
			s.Ack(n + 1)
		}
		out := counted(8)[done:min(done+3, 8)]
		for _, n := range append(farNumbers(), 0, done-1, done, done+4, 9, -done, math.MinInt64+done, math.MinInt64+done+1, math.MaxInt64-done, 1<<32+done+1) {
			if got := s.Ack(n); got != 0 {
				t.Errorf("%d done, ack of %d: %d", done, n, got)
			}
			shows(t, fmt.Sprintf("%d done, ack of %d", done, n), s, done, 8-int(done), out...)
		}
		if got := s.Ack(done + 1); got != 1 {
			t.Errorf("%d done, one more: %d", done, got)
		}
	}
}

// TestWrongPieces (16.2, R2): a piece that is not kept changes nothing, whatever its number and its bytes are.
func TestWrongPieces(t *testing.T) {
	for _, want := range []int64{0, 1, 3, 70} {
		r := receiver(t, 4)
		for n := range want {
			r.Take(piece(n, "x"))
		}
		r.Take(piece(want+2, "c"))
		for _, n := range append(farNumbers(), want-1, want-4, want+4, want+5, -want-1, math.MinInt64+want, math.MaxInt64-want, 1<<32+want, 1<<32+want+1) {
			for _, text := range []string{"", "y", strings.Repeat("m", api.MaxPiece+1)} {
				tells(t, "wrong", r.Take(piece(n, text)))
				holds(t, fmt.Sprintf("wants %d, piece %d", want, n), r, want, 1)
			}
		}
		r.Take(piece(want+1, "b"))
		tells(t, "right", r.Take(piece(want, "a")), "a", "b", "c")
	}
}

// TestRefusedPushes (16.1, R2): what is refused has no number, and changes nothing.
func TestRefusedPushes(t *testing.T) {
	s := sender(t, 2, 1)
	long := make([]byte, api.MaxPiece+1)
	for i, text := range counted(3) {
		s.Push(long)
		shows(t, "too long", s, 0, i, counted(3)[:min(i, 2)]...)
		push(t, s, text)
	}
	for range 3 {
		s.Push(long)
		s.Push(nil)
		s.Push([]byte("x"))
		shows(t, "full", s, 0, 3, "p0", "p1")
	}
	s.Ack(2)
	push(t, s, "p3")
	shows(t, "behind all that was refused", s, 2, 2, "p2", "p3")
}
