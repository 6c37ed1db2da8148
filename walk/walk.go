// Package walk: the way along a graph towards a point.
package walk

import (
	"nearby/api"
	"nearby/distance"
	"nearby/graph"
	"nearby/queue"
)

// Walk goes along a graph towards one point. It remembers the distances it
// has worked out: an entry that it meets on several layers costs one look.
type Walk struct {
	graph   *graph.Graph
	measure func(id int) int
	known   map[int]int
}

// New makes a walk; measure works out how far an entry is from the point.
func New(g *graph.Graph, measure func(id int) int) *Walk {
	return &Walk{graph: g, measure: measure, known: map[int]int{}}
}

// Anyone wants every entry.
func Anyone(int) bool { return true }

// Looks tells how often a distance was worked out.
func (w *Walk) Looks() int {
	return len(w.known)
}

// Down goes from the entrance towards the point, layer by layer, and tells
// where to start on the layer it is to come to. On an empty graph that is
// nowhere.
func (w *Walk) Down(to int) []api.Hit {
	entrance, there := w.graph.Entrance()
	if !there {
		return nil
	}
	starts := []api.Hit{w.hit(entrance)}
	for layer := w.graph.Level(entrance); layer > to; layer-- {
		starts = w.Along(layer, starts, 1, Anyone)
	}
	return starts
}

// Along goes along a layer from where it starts, and tells the nearest of
// those wanted that it meets, at most width of them, the nearer ahead. It
// ends when it has so many and every way on leads farther off than these, or
// when there is no way on: on layer 0, where the chain leads to all entries,
// it meets width of those wanted, or all.
func (w *Walk) Along(layer int, starts []api.Hit, width int, wanted func(id int) bool) []api.Hit {
	candidates, found := queue.New(distance.Nearer), newBeam(width)
	met := map[int]struct{}{}
	meet := func(id int) {
		if _, again := met[id]; again {
			return
		}
		met[id] = struct{}{}
		h := w.hit(id)
		candidates.Push(h)
		if wanted(id) {
			found.add(h)
		}
	}
	for _, s := range starts {
		meet(s.Id)
	}
	for candidates.Len() > 0 && found.leadsOn(candidates.Top()) {
		for _, id := range w.graph.Reached(candidates.Pop().Id, layer) {
			meet(id)
		}
	}
	return found.inOrder()
}

// hit tells an entry with its distance.
func (w *Walk) hit(id int) api.Hit {
	d, known := w.known[id]
	if !known {
		d = w.measure(id)
		w.known[id] = d
	}
	return api.Hit{Id: id, Distance: d}
}
