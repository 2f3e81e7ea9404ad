package score

import (
	"fmt"
	"math"
	"math/big"
	"math/rand"
	"slices"
	"testing"

	"agora/api"
)

// modelFrame is a frame that waits.
type modelFrame struct {
	peer int
	text string
}

// model is a board as the chapter says it: all frames that wait, one row for all; who was told last; scores as numbers without an end.
type model struct {
	n, room, limit int
	frames         []modelFrame
	last           int
	scores         []*big.Int
}

func newModel(n, room, limit int) *model {
	m := &model{n: n, room: room, limit: limit, last: n - 1}
	for range n {
		m.scores = append(m.scores, new(big.Int))
	}
	return m
}

func (m *model) isPeer(peer int) bool {
	for p := range m.n {
		if p == peer {
			return true
		}
	}
	return false
}

func (m *model) out(peer int) bool {
	return m.isPeer(peer) && m.scores[peer].Cmp(big.NewInt(int64(m.limit))) >= 0
}

func (m *model) waiting(peer int) int {
	n := 0
	for _, f := range m.frames {
		if f.peer == peer {
			n++
		}
	}
	return n
}

func (m *model) offer(peer int, text string) api.Errno {
	if !m.isPeer(peer) {
		return api.ErrArg
	}
	if m.out(peer) {
		return api.ErrDenied
	}
	if m.waiting(peer) == m.room {
		return api.ErrFull
	}
	if len(text) > api.MaxPiece {
		return api.ErrLong
	}
	m.frames = append(m.frames, modelFrame{peer, text})
	return api.OK
}

func (m *model) next() (modelFrame, bool) {
	peer := m.last
	for range m.n {
		if peer++; peer == m.n {
			peer = 0
		}
		for i, f := range m.frames {
			if f.peer == peer {
				m.frames, m.last = slices.Delete(m.frames, i, i+1), peer
				return f, true
			}
		}
	}
	return modelFrame{}, false
}

func (m *model) blame(peer, by int) bool {
	if !m.isPeer(peer) {
		return false
	}
	if by > 0 {
		m.scores[peer].Add(m.scores[peer], big.NewInt(int64(by)))
	}
	if !m.out(peer) {
		return false
	}
	m.scores[peer].SetInt64(int64(m.limit))
	m.frames = slices.DeleteFunc(m.frames, func(f modelFrame) bool { return f.peer == peer })
	return true
}

// score tells a peer's score, 0 of what is none.
func (m *model) score(peer int) int {
	if !m.isPeer(peer) {
		return 0
	}
	return int(m.scores[peer].Int64())
}

// agrees holds a board against its model.
func (m *model) agrees(t *testing.T, what string, b *Board) {
	t.Helper()
	for peer := -2; peer < m.n+2; peer++ {
		stands(t, what, b, peer, m.score(peer), m.out(peer), m.waiting(peer))
	}
	if b.Total() != len(m.frames) {
		t.Errorf("%s: %d in all, not %d", what, b.Total(), len(m.frames))
	}
}

// chanceText tells a text that a frame may have, or, seldom, one that is too long.
func chanceText(r *rand.Rand, long string) string {
	if r.Intn(300) == 0 {
		return long[:api.MaxPiece+r.Intn(2)]
	}
	return fmt.Sprint("frame ", r.Intn(1000))[r.Intn(7):]
}

// chanceBy tells by how much a peer is blamed: mostly by little, now and then by about what is left, or by whatever an int holds.
func chanceBy(r *rand.Rand, left int) int {
	switch r.Intn(12) {
	case 0:
		return left - 1 + r.Intn(2)
	case 1:
		return []int{math.MaxInt, math.MaxInt - 1, math.MinInt, -1, math.MinInt + 1, left + 1}[r.Intn(6)]
	}
	return r.Intn(2)
}

// TestBoardByWords (18.1, 18.2, 18.3): whatever is offered, taken and blamed, in whatever order, a board does what the chapter's words say.
func TestBoardByWords(t *testing.T) {
	r := rand.New(rand.NewSource(181))
	long := string(make([]byte, api.MaxPiece+1))
	limits := []int{1, 2, 5, 9, 40, math.MaxInt, math.MaxInt - 1}
	for range 500 {
		m := newModel(1+r.Intn(6), 1+r.Intn(5), limits[r.Intn(len(limits))])
		b := board(t, m.n, m.room, m.limit)
		busy := 1 + r.Intn(9)
		for step := range 100 {
			what := fmt.Sprintf("%d peers, room %d, limit %d, step %d", m.n, m.room, m.limit, step)
			peer := r.Intn(m.n+2) - 1
			switch k := r.Intn(12); {
			case k < busy:
				text := chanceText(r, long)
				if got, want := b.Offer(peer, []byte(text)), m.offer(peer, text); got != want {
					t.Fatalf("%s: offer by %d: error %d, not %d", what, peer, got, want)
				}
			case k < 11:
				f, told := m.next()
				turn, ok := b.Next()
				if ok != told || turn.Peer != f.peer || string(turn.Frame) != f.text {
					t.Fatalf("%s: told %v %d %.40q, not %v %d %.40q", what, ok, turn.Peer, turn.Frame, told, f.peer, f.text)
				}
			default:
				by := chanceBy(r, m.limit-m.score(peer))
				if got, want := b.Blame(peer, by), m.blame(peer, by); got != want {
					t.Fatalf("%s: blame of %d by %d: out %v", what, peer, by, got)
				}
			}
			m.agrees(t, what, b)
		}
		if t.Failed() {
			return
		}
	}
}

// TestShortRowsByWords (18.1, 18.2, 18.3): every short row of offers, turns and blames.
func TestShortRowsByWords(t *testing.T) {
	deeds := []func(*Board, *model) (string, string){
		func(b *Board, m *model) (string, string) { return tried(b, m, 0) },
		func(b *Board, m *model) (string, string) { return tried(b, m, 1) },
		func(b *Board, m *model) (string, string) { return tried(b, m, 2) },
		func(b *Board, m *model) (string, string) {
			turn, ok := b.Next()
			f, told := m.next()
			return fmt.Sprint(ok, turn.Peer, string(turn.Frame)), fmt.Sprint(told, f.peer, f.text)
		},
		func(b *Board, m *model) (string, string) { return fmt.Sprint(b.Blame(1, 1)), fmt.Sprint(m.blame(1, 1)) },
		func(b *Board, m *model) (string, string) { return fmt.Sprint(b.Blame(2, 9)), fmt.Sprint(m.blame(2, 9)) },
	}
	const long = 6
	rows := 1
	for range long {
		rows *= len(deeds)
	}
	for row := range rows {
		b, m := board(t, 3, 2, 2), newModel(3, 2, 2)
		left := row
		for range long {
			got, want := deeds[left%len(deeds)](b, m)
			if left /= len(deeds); got != want {
				t.Fatalf("row %d: %s, not %s", row, got, want)
			}
		}
		m.agrees(t, fmt.Sprint("row ", row), b)
	}
}

// tried offers a frame that tells how many wait.
func tried(b *Board, m *model, peer int) (got, want string) {
	text := fmt.Sprint(len(m.frames))
	return fmt.Sprint(b.Offer(peer, []byte(text))), fmt.Sprint(m.offer(peer, text))
}
