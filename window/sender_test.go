package window

import (
	"fmt"
	"math"
	"strings"
	"testing"

	"agora/api"
)

// TestNewSender (16.1): which windows and queues may be.
func TestNewSender(t *testing.T) {
	for _, c := range []struct {
		wide, queue int
		want        api.Errno
	}{
		{1, 0, api.OK}, {1, api.MaxQueue, api.OK}, {api.MaxWindow, 0, api.OK}, {api.MaxWindow, api.MaxQueue, api.OK}, {3, 4, api.OK}, {2, 1, api.OK},
		{0, 0, api.ErrArg}, {0, 5, api.ErrArg}, {-1, 0, api.ErrArg}, {api.MaxWindow + 1, 0, api.ErrArg}, {api.MaxQueue, 0, api.ErrArg},
		{1, -1, api.ErrArg}, {1, api.MaxQueue + 1, api.ErrArg}, {api.MaxWindow, -1, api.ErrArg}, {api.MaxWindow, api.MaxQueue + 1, api.ErrArg},
		{0, -1, api.ErrArg}, {api.MaxWindow + 1, api.MaxQueue + 1, api.ErrArg},
		{math.MaxInt, math.MaxInt, api.ErrArg}, {math.MinInt, math.MinInt, api.ErrArg}, {1, math.MaxInt, api.ErrArg}, {1, math.MinInt, api.ErrArg}, {math.MaxInt, 0, api.ErrArg}, {math.MinInt, 0, api.ErrArg},
	} {
		s, err := NewSender(c.wide, c.queue)
		if err != c.want || (s == nil) != (err != api.OK) {
			t.Errorf("wide %d, queue %d: error %d, not %d; %v", c.wide, c.queue, err, c.want, s)
		}
		if err == api.OK {
			shows(t, "new", s, 0, 0)
		}
	}
}

// TestExampleOfSender (16.1): the chapter's example.
func TestExampleOfSender(t *testing.T) {
	s := pushed(t, 2, 1, "a", "b", "c")
	shows(t, "three pieces", s, 0, 3, "a", "b")
	if n := s.Ack(1); n != 1 {
		t.Errorf("ack of 1: %d", n)
	}
	shows(t, "behind ack of 1", s, 1, 2, "b", "c")
}

// TestPush (16.1): pieces are numbered in order; no more are taken than the window and the queue have room for.
func TestPush(t *testing.T) {
	for _, c := range [][2]int{{1, 0}, {1, 1}, {1, 7}, {2, 0}, {3, 4}, {api.MaxWindow, 0}, {api.MaxWindow, 5}, {5, 300}, {api.MaxWindow, api.MaxQueue}, {1, api.MaxQueue}} {
		wide, most := c[0], c[0]+c[1]
		what := fmt.Sprintf("wide %d, queue %d", c[0], c[1])
		s, l := sender(t, c[0], c[1]), counted(most+1)
		for i, text := range l[:most] {
			if i < 200 || i > most-3 {
				shows(t, what, s, 0, i, l[:min(i, wide)]...)
			}
			push(t, s, text)
		}
		for range 2 {
			shows(t, what+", full", s, 0, most, l[:wide]...)
			for _, data := range [][]byte{nil, {}, []byte("x")} {
				if err := s.Push(data); err != api.ErrFull {
					t.Errorf("%s, full: error %d", what, err)
				}
			}
		}
		// Each piece that is done makes room for one.
		s.Ack(1)
		shows(t, what+", one done", s, 1, most-1, l[1:min(wide+1, most)]...)
		push(t, s, l[most])
		if err := s.Push(nil); err != api.ErrFull {
			t.Errorf("%s, full again: error %d", what, err)
		}
		shows(t, what+", full again", s, 1, most, l[1:wide+1]...)
	}
}

// TestPushLong (16.1): a piece has no bytes, or as many as MaxPiece, and no more; what is too long is told ahead of what has no room.
func TestPushLong(t *testing.T) {
	least, most := "", strings.Repeat("m", api.MaxPiece)
	tooLong := []string{most + "m", most + most}
	s := sender(t, 2, 1)
	for i, text := range []string{least, most, "x"} {
		for _, long := range tooLong {
			if err := s.Push([]byte(long)); err != api.ErrLong {
				t.Errorf("%d bytes, %d left: error %d", len(long), i, err)
			}
		}
		push(t, s, text)
	}
	for _, c := range []struct {
		text string
		want api.Errno
	}{{tooLong[0], api.ErrLong}, {tooLong[1], api.ErrLong}, {most, api.ErrFull}, {least, api.ErrFull}} {
		if err := s.Push([]byte(c.text)); err != c.want {
			t.Errorf("%d bytes, full: error %d, not %d", len(c.text), err, c.want)
		}
	}
	shows(t, "full", s, 0, 3, least, most)
	if s.Ack(1) != 1 {
		t.Error("ack of 1")
	}
	shows(t, "one done", s, 1, 2, most, "x")
}

// TestOutAgain (16.1): what is under way is told again till it is done, the same under one number.
func TestOutAgain(t *testing.T) {
	s := pushed(t, 3, 3, counted(5)...)
	for range 4 {
		shows(t, "nothing done", s, 0, 5, "p0", "p1", "p2")
	}
	s.Ack(2)
	for range 4 {
		shows(t, "two done", s, 2, 3, "p2", "p3", "p4")
	}
	push(t, s, "p5", "p6")
	shows(t, "two more", s, 2, 5, "p2", "p3", "p4")
	s.Ack(5)
	shows(t, "five done", s, 5, 2, "p5", "p6")
	s.Ack(7)
	shows(t, "all done", s, 7, 0)
	push(t, s, "p7")
	shows(t, "one more", s, 7, 1, "p7")
}

// TestAck (16.1): as many pieces pushed, as many done, a number: how many are done by it.
func TestAck(t *testing.T) {
	for _, c := range []struct {
		wide, pieces, done int
		n                  int64
		want               int
	}{
		// Fewer pieces than the window is wide.
		{4, 0, 0, 0, 0}, {4, 0, 0, 1, 0}, {4, 0, 0, 4, 0},
		{4, 1, 0, 0, 0}, {4, 1, 0, 1, 1}, {4, 1, 0, 2, 0}, {4, 1, 0, 4, 0},
		{4, 3, 0, 0, 0}, {4, 3, 0, 1, 1}, {4, 3, 0, 2, 2}, {4, 3, 0, 3, 3}, {4, 3, 0, 4, 0}, {4, 3, 0, 5, 0},
		{4, 3, 1, 0, 0}, {4, 3, 1, 1, 0}, {4, 3, 1, 2, 1}, {4, 3, 1, 3, 2}, {4, 3, 1, 4, 0}, {4, 3, 1, 5, 0},
		{4, 3, 3, 2, 0}, {4, 3, 3, 3, 0}, {4, 3, 3, 4, 0}, {4, 3, 3, 7, 0},
		{api.MaxWindow, 63, 0, 63, 63}, {api.MaxWindow, 63, 0, 64, 0},
		// As many.
		{4, 4, 0, 3, 3}, {4, 4, 0, 4, 4}, {4, 4, 0, 5, 0},
		{1, 1, 0, 1, 1}, {1, 1, 0, 2, 0}, {api.MaxWindow, 64, 0, 64, 64}, {api.MaxWindow, 64, 0, 65, 0},
		// More: what waits is not done.
		{4, 9, 0, 0, 0}, {4, 9, 0, 1, 1}, {4, 9, 0, 4, 4}, {4, 9, 0, 5, 0}, {4, 9, 0, 9, 0}, {4, 9, 0, 10, 0},
		{4, 9, 3, 2, 0}, {4, 9, 3, 3, 0}, {4, 9, 3, 4, 1}, {4, 9, 3, 7, 4}, {4, 9, 3, 8, 0}, {4, 9, 3, 9, 0},
		{4, 9, 6, 6, 0}, {4, 9, 6, 7, 1}, {4, 9, 6, 9, 3}, {4, 9, 6, 10, 0},
		{1, 3, 0, 1, 1}, {1, 3, 0, 2, 0}, {1, 3, 1, 2, 1}, {1, 3, 1, 3, 0}, {1, 3, 2, 3, 1}, {1, 3, 3, 4, 0},
		{api.MaxWindow, 200, 100, 164, 64}, {api.MaxWindow, 200, 100, 165, 0}, {api.MaxWindow, 200, 100, 100, 0}, {api.MaxWindow, 200, 100, 101, 1},
	} {
		what := fmt.Sprintf("wide %d, %d pieces, %d done, ack of %d", c.wide, c.pieces, c.done, c.n)
		l := counted(c.pieces)
		s := pushed(t, c.wide, api.MaxQueue, l...)
		for i := range c.done {
			if n := s.Ack(int64(i + 1)); n != 1 {
				t.Fatalf("%s: one by one: %d", what, n)
			}
		}
		if n := s.Ack(c.n); n != c.want {
			t.Errorf("%s: %d, not %d", what, n, c.want)
		}
		done := c.done + c.want
		shows(t, what, s, int64(done), c.pieces-done, l[done:min(done+c.wide, c.pieces)]...)
		// The same again tells nothing.
		if n := s.Ack(c.n); n != 0 {
			t.Errorf("%s, again: %d", what, n)
		}
		shows(t, what+", again", s, int64(done), c.pieces-done, l[done:min(done+c.wide, c.pieces)]...)
	}
}
