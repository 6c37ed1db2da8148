// Package queue: a heap of hits.
package queue

import "nearby/api"

// Queue is a heap: each hit goes ahead of the two below it, so the one that
// goes ahead of all stands at the top.
type Queue struct {
	ahead func(a, b api.Hit) bool
	hits  []api.Hit
}

// New makes an empty queue of which the order is ahead's.
func New(ahead func(a, b api.Hit) bool) *Queue {
	return &Queue{ahead: ahead}
}

// Len tells how many hits there are.
func (q *Queue) Len() int {
	return len(q.hits)
}

// Top tells the hit that goes ahead of all. There must be one.
func (q *Queue) Top() api.Hit {
	return q.hits[0]
}

// Push puts a hit in.
func (q *Queue) Push(h api.Hit) {
	q.hits = append(q.hits, h)
	q.up(len(q.hits) - 1)
}

// Pop takes the top out. There must be one.
func (q *Queue) Pop() api.Hit {
	top, last := q.hits[0], len(q.hits)-1
	q.hits[0] = q.hits[last]
	q.hits = q.hits[:last]
	q.down(0)
	return top
}

// up sifts the hit at a place towards the top.
func (q *Queue) up(at int) {
	for at > 0 {
		above := (at - 1) / 2
		if !q.ahead(q.hits[at], q.hits[above]) {
			return
		}
		q.swap(at, above)
		at = above
	}
}

// down sifts the hit at a place away from the top.
func (q *Queue) down(at int) {
	for {
		first := at
		for below := 2*at + 1; below <= 2*at+2; below++ {
			if below < len(q.hits) && q.ahead(q.hits[below], q.hits[first]) {
				first = below
			}
		}
		if first == at {
			return
		}
		q.swap(at, first)
		at = first
	}
}

func (q *Queue) swap(a, b int) {
	q.hits[a], q.hits[b] = q.hits[b], q.hits[a]
}
