package score

// queue is a row of things, of which the first one is taken off first.
type queue[T any] struct {
	row []T
}

// put puts a thing behind all others.
func (q *queue[T]) put(x T) { q.row = append(q.row, x) }

// take takes the first thing off, and tells whether there was one.
func (q *queue[T]) take() (T, bool) {
	var none, first T
	if len(q.row) == 0 {
		return none, false
	}
	// What is taken off is had no longer, though its place in the row's memory still is.
	first, q.row[0] = q.row[0], none
	q.row = q.row[1:]
	return first, true
}

// waiting tells how many things there are.
func (q *queue[T]) waiting() int { return len(q.row) }

// drop lets all of them go, with the row's memory.
func (q *queue[T]) drop() { q.row = nil }
