package window

import (
	"fmt"
	"math/rand"
	"slices"
	"testing"

	"agora/api"
)

// modelSender is a sender as the chapter says it: all that was ever pushed, and how many of these are done.
type modelSender struct {
	wide, queue int
	pushed      []string
	done        int
}

func (m *modelSender) push(text string) api.Errno {
	if len(text) > api.MaxPiece {
		return api.ErrLong
	}
	if len(m.pushed)-m.done == m.wide+m.queue {
		return api.ErrFull
	}
	m.pushed = append(m.pushed, text)
	return api.OK
}

func (m *modelSender) out() []api.Piece {
	var l []api.Piece
	for i, text := range m.pushed {
		if i >= m.done && i < m.done+m.wide {
			l = append(l, piece(int64(i), text))
		}
	}
	return l
}

func (m *modelSender) ack(n int64) int {
	// Each number above the first one that is not done, as far as the one behind the last one under way.
	for k := range len(m.out()) {
		if n == int64(m.done+k+1) {
			m.done += k + 1
			return k + 1
		}
	}
	return 0
}

// modelReceiver is a receiver as the chapter says it: which pieces it keeps, and which number it wants.
type modelReceiver struct {
	wide, want int
	kept       []api.Piece
}

func (m *modelReceiver) find(n int64) int {
	return slices.IndexFunc(m.kept, func(p api.Piece) bool { return p.Seq == n })
}

func (m *modelReceiver) take(p api.Piece) []string {
	inside := false
	for k := range m.wide {
		inside = inside || p.Seq == int64(m.want+k)
	}
	if !inside || len(p.Data) > api.MaxPiece {
		return nil
	}
	if m.find(p.Seq) < 0 {
		m.kept = append(m.kept, p)
	}
	var told []string
	for at := m.find(int64(m.want)); at >= 0; at = m.find(int64(m.want)) {
		told = append(told, string(m.kept[at].Data))
		m.kept = slices.Delete(m.kept, at, at+1)
		m.want++
	}
	return told
}

// chanceText tells a text that a piece may have, or, seldom, one that is too long.
func chanceText(r *rand.Rand, long string) string {
	if r.Intn(200) == 0 {
		return long[:api.MaxPiece+r.Intn(2)]
	}
	return counted(100)[r.Intn(100)][r.Intn(3):]
}

// TestSenderByWords (16.1): whatever is pushed and acknowledged, in whatever order, a sender does what the chapter's words say.
func TestSenderByWords(t *testing.T) {
	r := rand.New(rand.NewSource(161))
	long := string(make([]byte, api.MaxPiece+1))
	for range 400 {
		m := &modelSender{wide: 1 + r.Intn(6), queue: r.Intn(6)}
		s := sender(t, m.wide, m.queue)
		for step := range 60 {
			what := fmt.Sprintf("wide %d, queue %d, step %d", m.wide, m.queue, step)
			if r.Intn(5) < 3 {
				text := chanceText(r, long)
				if got, want := s.Push([]byte(text)), m.push(text); got != want {
					t.Fatalf("%s: push: error %d, not %d", what, got, want)
				}
			} else {
				n := int64(m.done - 2 + r.Intn(m.wide+5))
				if got, want := s.Ack(n), m.ack(n); got != want {
					t.Fatalf("%s: ack of %d: %d, not %d", what, n, got, want)
				}
			}
			if s.Base() != int64(m.done) || s.Left() != len(m.pushed)-m.done {
				t.Fatalf("%s: base %d, left %d, not %d of %d", what, s.Base(), s.Left(), m.done, len(m.pushed))
			}
			alike(t, what, s.Out(), m.out())
		}
	}
}

// TestReceiverByWords (16.2): whatever pieces come, in whatever order, a receiver does what the chapter's words say.
func TestReceiverByWords(t *testing.T) {
	r := rand.New(rand.NewSource(162))
	long := string(make([]byte, api.MaxPiece+1))
	for range 400 {
		m := &modelReceiver{wide: 1 + r.Intn(7)}
		o := receiver(t, m.wide)
		for step := range 60 {
			p := piece(int64(m.want-2+r.Intn(m.wide+4)), chanceText(r, long))
			what := fmt.Sprintf("wide %d, step %d, piece %d", m.wide, step, p.Seq)
			tells(t, what, o.Take(p), m.take(p)...)
			holds(t, what, o, int64(m.want), len(m.kept))
		}
		if t.Failed() {
			return
		}
	}
}
