package window

import (
	"fmt"
	"math/rand"
	"slices"
	"testing"

	"agora/api"
)

// net has what is under way both ways, and loses, doubles and turns it round by chance.
type net struct {
	r      *rand.Rand
	pieces []api.Piece
	wants  []int64
}

// put puts a thing in among the others, once, twice, or not at all.
func put[T any](r *rand.Rand, l []T, x T) []T {
	for range r.Intn(3) {
		l = slices.Insert(l, r.Intn(len(l)+1), x)
	}
	return l
}

// taken cuts off some of what is under way; the rest is late.
func taken[T any](r *rand.Rand, l []T) (now, later []T) {
	n := r.Intn(len(l) + 1)
	return l[:n], l[n:]
}

// ends are a sender and a receiver, with all that was pushed, told, and sent under each number.
type ends struct {
	s            *Sender
	r            *Receiver
	wide         int
	pushed, told []string
	sent         map[int64]string
}

func newEnds(t *testing.T, wide, queue int) *ends {
	t.Helper()
	return &ends{s: sender(t, wide, queue), r: receiver(t, wide), wide: wide, sent: map[int64]string{}}
}

// push pushes a text that no other piece has, if there is room.
func (e *ends) push() {
	text := fmt.Sprint("text ", len(e.pushed))
	if e.s.Push([]byte(text)) == api.OK {
		e.pushed = append(e.pushed, text)
	}
}

// out tells the pieces under way, which must be what they were ahead, under their numbers.
func (e *ends) out(t *testing.T) []api.Piece {
	t.Helper()
	l := e.s.Out()
	for _, p := range l {
		if was, ok := e.sent[p.Seq]; ok && was != string(p.Data) || e.pushed[p.Seq] != string(p.Data) {
			t.Fatalf("piece %d: %q, was %q, pushed %q", p.Seq, p.Data, was, e.pushed[p.Seq])
		}
		e.sent[p.Seq] = string(p.Data)
	}
	return l
}

// take lets a piece come; what was told must be a beginning of what was pushed.
func (e *ends) take(t *testing.T, p api.Piece) {
	t.Helper()
	e.told = append(e.told, texts(e.r.Take(p))...)
	if len(e.told) > len(e.pushed) || !slices.Equal(e.told, e.pushed[:len(e.told)]) {
		t.Fatalf("told %q of %q", e.told, e.pushed)
	}
	if e.r.Want() != int64(len(e.told)) || e.r.Kept() >= e.wide {
		t.Fatalf("wide %d: wants %d behind %d, keeps %d", e.wide, e.r.Want(), len(e.told), e.r.Kept())
	}
}

// TestBadNet (16.3): whatever is lost, doubled, late, what is told is a beginning of what was pushed; and all of it, once nothing is lost any more.
func TestBadNet(t *testing.T) {
	r, told := rand.New(rand.NewSource(163)), 0
	for range 300 {
		e, n := newEnds(t, 1+r.Intn(8), r.Intn(9)), net{r: r}
		for range 80 {
			for range r.Intn(4) {
				e.push()
			}
			for _, p := range e.out(t) {
				n.pieces = put(r, n.pieces, p)
			}
			var pieces []api.Piece
			pieces, n.pieces = taken(r, n.pieces)
			for _, p := range pieces {
				e.take(t, p)
				n.wants = put(r, n.wants, e.r.Want())
			}
			var wants []int64
			wants, n.wants = taken(r, n.wants)
			for _, want := range wants {
				base, done := e.s.Base(), e.s.Ack(want)
				if e.s.Base() != base+int64(done) || e.s.Base() > e.r.Want() {
					t.Fatalf("ack of %d: %d done, base %d became %d, wants %d", want, done, base, e.s.Base(), e.r.Want())
				}
			}
		}
		told += len(e.told)
		for e.s.Left() > 0 {
			left := e.s.Left()
			for _, p := range e.out(t) {
				e.take(t, p)
			}
			if e.s.Ack(e.r.Want()) == 0 {
				t.Fatalf("%d left stay", left)
			}
		}
		if len(e.told) != len(e.pushed) || e.r.Kept() != 0 {
			t.Fatalf("told %d of %d, keeps %d", len(e.told), len(e.pushed), e.r.Kept())
		}
	}
	if told < 300*40 {
		t.Errorf("but %d told: these nets let too little through", told)
	}
}

// ways tells ways in which a net without losses turns pieces round, and doubles them.
func ways(r *rand.Rand) []func([]api.Piece) []api.Piece {
	turned := func(l []api.Piece) []api.Piece {
		l = slices.Clone(l)
		slices.Reverse(l)
		return l
	}
	mixed := func(l []api.Piece) []api.Piece {
		l = append(slices.Clone(l), l...)
		r.Shuffle(len(l), func(i, j int) { l[i], l[j] = l[j], l[i] })
		return l
	}
	return []func([]api.Piece) []api.Piece{
		slices.Clone[[]api.Piece], turned, mixed,
		func(l []api.Piece) []api.Piece { return append(turned(l), l...) },
	}
}

// TestRounds (16.3): if all that is under way arrives, all is told in as many rounds as windows.
func TestRounds(t *testing.T) {
	r := rand.New(rand.NewSource(164))
	for _, c := range []struct{ wide, pieces int }{
		{1, 0}, {1, 1}, {1, 2}, {1, 30}, {2, 1}, {2, 2}, {2, 3}, {2, 4}, {3, 8}, {3, 9}, {3, 10}, {7, 50}, {8, 7},
		{api.MaxWindow, 1}, {api.MaxWindow, 63}, {api.MaxWindow, 64}, {api.MaxWindow, 65}, {api.MaxWindow, 128}, {api.MaxWindow, 129}, {api.MaxWindow, 1000}, {api.MaxWindow, api.MaxQueue + api.MaxWindow},
	} {
		for i, way := range ways(r) {
			what := fmt.Sprintf("wide %d, %d pieces, way %d", c.wide, c.pieces, i)
			e, windows := newEnds(t, c.wide, max(c.pieces-c.wide, 0)), (c.pieces+c.wide-1)/c.wide
			for range c.pieces {
				e.push()
			}
			for round := range windows {
				if e.s.Left() == 0 {
					t.Errorf("%s: all is done in %d rounds", what, round)
				}
				for _, p := range way(e.out(t)) {
					e.take(t, p)
				}
				e.s.Ack(e.r.Want())
			}
			if len(e.told) != c.pieces || e.s.Left() != 0 || e.s.Base() != int64(c.pieces) || e.r.Kept() != 0 {
				t.Errorf("%s: told %d, left %d, kept %d in %d rounds", what, len(e.told), e.s.Left(), e.r.Kept(), windows)
			}
		}
	}
}

// TestRoundsOverMore (16.3): likewise where pieces go on being pushed as there is room.
func TestRoundsOverMore(t *testing.T) {
	for _, c := range []struct{ wide, queue, pieces int }{{1, 0, 40}, {2, 0, 41}, {2, 1, 41}, {5, 3, 101}, {api.MaxWindow, 0, 1000}, {api.MaxWindow, 9, 1001}} {
		e, rounds := newEnds(t, c.wide, c.queue), 0
		for ; len(e.told) < c.pieces && rounds <= c.pieces; rounds++ {
			for range min(c.wide+c.queue-e.s.Left(), c.pieces-len(e.pushed)) {
				e.push()
			}
			for _, p := range e.out(t) {
				e.take(t, p)
			}
			e.s.Ack(e.r.Want())
		}
		if want := (c.pieces + c.wide - 1) / c.wide; rounds != want || e.s.Left() != 0 {
			t.Errorf("wide %d, queue %d, %d pieces: %d rounds, not %d", c.wide, c.queue, c.pieces, rounds, want)
		}
	}
}

// TestOnePieceLost (16.3): what one piece alone is lost of is told as far as that one; it is sent again, and all behind it is told at once.
func TestOnePieceLost(t *testing.T) {
	const wide = 6
	for lost := range wide {
		s, r := pushed(t, wide, 2, counted(8)...), receiver(t, wide)
		var told []string
		for i, p := range s.Out() {
			if i != lost {
				told = append(told, texts(r.Take(p))...)
			}
		}
		what := fmt.Sprint("lost ", lost)
		if !slices.Equal(told, counted(lost)) {
			t.Errorf("%s: told %q", what, told)
		}
		holds(t, what, r, int64(lost), wide-1-lost)
		if n := s.Ack(r.Want()); n != lost {
			t.Errorf("%s: %d done", what, n)
		}
		tells(t, what+", again", r.Take(s.Out()[0]), counted(wide)[lost:]...)
		holds(t, what+", again", r, wide, 0)
		s.Ack(r.Want())
		shows(t, what+", again", s, wide, 2, "p6", "p7")
	}
}

// TestAllRows (16.3): of every short row of numbers: told in order, once; less than wide are kept.
func TestAllRows(t *testing.T) {
	for wide := 1; wide <= 3; wide++ {
		var all func(row []int64)
		all = func(row []int64) {
			inOrder(t, wide, row)
			for n := int64(-1); n < int64(wide+2) && len(row) < 6; n++ {
				all(append(slices.Clone(row), n))
			}
		}
		all(nil)
	}
}

// inOrder lets pieces of these numbers come.
func inOrder(t *testing.T, wide int, row []int64) {
	t.Helper()
	r, next := receiver(t, wide), int64(0)
	for _, n := range row {
		for _, b := range r.Take(piece(n, fmt.Sprint(n))) {
			if string(b) != fmt.Sprint(next) {
				t.Fatalf("wide %d, row %d: %s, not %d", wide, row, b, next)
			}
			next++
		}
		if r.Want() != next || r.Kept() >= wide {
			t.Fatalf("wide %d, row %d: wants %d, not %d; keeps %d", wide, row, r.Want(), next, r.Kept())
		}
	}
}
