package walk

import (
	"nearby/api"
	"nearby/distance"
	"nearby/queue"
)

// beam is the nearest found so far, at most width of them. The farthest is at
// the top of its queue: it is the one that makes way.
type beam struct {
	width int
	hits  *queue.Queue
}

func newBeam(width int) *beam {
	return &beam{width: width, hits: queue.New(distance.Farther)}
}

// leadsOn tells whether the way goes on from a hit. From one that is farther
// off than all found it does not, unless these are too few: then what is
// wanted may stand behind it.
func (b *beam) leadsOn(h api.Hit) bool {
	return b.hits.Len() < b.width || !distance.Farther(h, b.hits.Top())
}

func (b *beam) add(h api.Hit) {
	b.hits.Push(h)
	if b.hits.Len() > b.width {
		b.hits.Pop()
	}
}

// inOrder empties the beam: the nearer ahead.
func (b *beam) inOrder() []api.Hit {
	hits := make([]api.Hit, b.hits.Len())
	for at := len(hits) - 1; at >= 0; at-- {
		hits[at] = b.hits.Pop()
	}
	return hits
}
