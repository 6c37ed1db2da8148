// Package weave: which entries of a graph are linked.
package weave

import (
	"slices"

	"nearby/api"
	"nearby/distance"
	"nearby/graph"
	"nearby/walk"
)

// Weave ties and cuts the links of a graph, as entries come and go.
type Weave struct {
	Graph    *graph.Graph
	Links    int                // how many links an entry may have on a layer above 0
	Beam     int                // how many are found on a layer, to choose from
	Distance func(a, b int) int // of two entries, by their numbers
}

// Put puts an entry in that is not in the graph, and links it on its layers.
func (w Weave) Put(id, level int) {
	found := w.near(id, level)
	w.Graph.Enter(id, level)
	for layer, hits := range found {
		w.link(id, layer, hits)
	}
}

// Delete takes an entry out. Those that it was linked to are tied to one
// another, so that the ways that led through it are not all lost. One that is
// not there has no layers, and nothing happens.
func (w Weave) Delete(id int) {
	left := make([][]int, w.Graph.Level(id)+1)
	for layer := range left {
		left[layer] = w.Graph.Linked(id, layer)
	}
	w.Graph.Leave(id)
	for layer, ids := range left {
		w.mend(layer, ids)
	}
}

// near tells for each layer that an entry will share with others which are
// near to it there. It is asked ahead of the entry's coming in: else the
// nearest would be the entry itself.
func (w Weave) near(id, level int) [][]api.Hit {
	entrance, there := w.Graph.Entrance()
	if !there {
		return nil
	}
	way := walk.New(w.Graph, func(other int) int { return w.Distance(id, other) })
	starts := way.Down(level)
	found := make([][]api.Hit, min(level, w.Graph.Level(entrance))+1)
	for layer := len(found) - 1; layer >= 0; layer-- {
		starts = way.Along(layer, starts, w.Beam, walk.Anyone)
		found[layer] = starts
	}
	return found
}

// link ties a new entry to the nearest of those found. The first takes it
// whatever it costs, so that no entry comes in without a link; another one
// only where it costs no nearer link.
func (w Weave) link(id, layer int, found []api.Hit) {
	for at, h := range found[:min(len(found), w.Links)] {
		if !w.room(h.Id, layer) {
			far := w.farthest(h.Id, w.Graph.Linked(h.Id, layer))
			if at > 0 && distance.Nearer(far, w.hit(h.Id, id)) {
				continue
			}
			w.Graph.Cut(layer, h.Id, far.Id)
		}
		w.Graph.Tie(layer, h.Id, id)
	}
}

// mend gives each entry that lost a link one to the nearest of the others
// that lost one, where both have room. Each has lost one just now, so
// nothing needs to be cut.
func (w Weave) mend(layer int, left []int) {
	for _, id := range left {
		linked := w.Graph.Linked(id, layer)
		free := slices.DeleteFunc(slices.Clone(left), func(other int) bool {
			return other == id || slices.Contains(linked, other) || !w.room(other, layer)
		})
		if len(free) > 0 && w.room(id, layer) {
			w.Graph.Tie(layer, id, w.nearest(id, free).Id)
		}
	}
}

// room tells whether an entry may have another link on a layer.
func (w Weave) room(id, layer int) bool {
	most := w.Links
	if layer == 0 {
		most = 2 * w.Links
	}
	return len(w.Graph.Linked(id, layer)) < most
}

// nearest tells which of others, of which there must be one, is nearest.
func (w Weave) nearest(id int, others []int) api.Hit {
	return slices.MinFunc(w.hits(id, others), distance.Compare)
}

// farthest tells which of others, of which there must be one, is farthest.
func (w Weave) farthest(id int, others []int) api.Hit {
	return slices.MaxFunc(w.hits(id, others), distance.Compare)
}

func (w Weave) hits(id int, others []int) []api.Hit {
	hits := make([]api.Hit, len(others))
	for at, other := range others {
		hits[at] = w.hit(id, other)
	}
	return hits
}

func (w Weave) hit(id, other int) api.Hit {
	return api.Hit{Id: other, Distance: w.Distance(id, other)}
}
