package order

import "container/heap"

// queue holds the things that may be told next: a heap, the least rank first, of these the least place.
type queue struct {
	rank   []int64
	places []int
}

func (q *queue) put(i int) { heap.Push(q, i) }

func (q *queue) take() int { return heap.Pop(q).(int) }

func (q *queue) Len() int { return len(q.places) }

func (q *queue) Less(i, j int) bool {
	a, b := q.places[i], q.places[j]
	if q.rank[a] != q.rank[b] {
		return q.rank[a] < q.rank[b]
	}
	return a < b
}

func (q *queue) Swap(i, j int) { q.places[i], q.places[j] = q.places[j], q.places[i] }

func (q *queue) Push(x any) { q.places = append(q.places, x.(int)) }

func (q *queue) Pop() any {
	last := len(q.places) - 1
	i := q.places[last]
	q.places = q.places[:last]
	return i
}
