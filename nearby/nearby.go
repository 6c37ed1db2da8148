// Package nearby: what is nearest to a point, found along links: see DOC.md.
package nearby

import (
	"errors"
	"slices"

	"nearby/api"
	"nearby/check"
	"nearby/distance"
	"nearby/filter"
	"nearby/graph"
	"nearby/refusal"
	"nearby/store"
	"nearby/walk"
	"nearby/weave"
)

// Base is a base of entries.
type Base struct {
	config  api.Config
	entries *store.Store
	graph   *graph.Graph
	looks   int
}

// New makes an empty base (P2).
func New(c api.Config) (*Base, api.Errno) {
	if err := check.Config(c); err != nil {
		return nil, errnoOf(err)
	}
	return &Base{config: c, entries: store.New(c.Cap), graph: graph.New()}, api.OK
}

// Put puts an entry in (P3).
func (b *Base) Put(id int, point []int, tags [api.Tags]int, draw uint64) api.Errno {
	if err := check.Point(point, b.config.Dim); err != nil {
		return errnoOf(err)
	}
	if err := b.entries.Put(api.Entry{Id: id, Point: point, Tags: tags}); err != nil {
		return errnoOf(err)
	}
	w := b.weave()
	w.Delete(id)
	w.Put(id, graph.LevelOf(draw, b.config.Links, b.config.Top))
	return api.OK
}

// Get tells an entry (P3).
func (b *Base) Get(id int) (api.Entry, api.Errno) {
	e, err := b.entries.Get(id)
	return e, errnoOf(err)
}

// Delete takes an entry out (P3).
func (b *Base) Delete(id int) api.Errno {
	if err := b.entries.Delete(id); err != nil {
		return errnoOf(err)
	}
	b.weave().Delete(id)
	return api.OK
}

// Count tells how many entries there are (P3).
func (b *Base) Count() int {
	return b.entries.Count()
}

// Search tells the nearest entries (P4, P5).
func (b *Base) Search(point []int, k int, beam int, f api.Filter) ([]api.Hit, api.Errno) {
	if err := check.Search(point, b.config.Dim, k, beam, f); err != nil {
		return nil, errnoOf(err)
	}
	way := walk.New(b.graph, func(id int) int { return b.distance(point, id) })
	passes := func(id int) bool { return filter.Passes(f, b.entries.Peek(id).Tags) }
	hits := way.Along(0, way.Down(0), max(k, beam), passes)
	b.looks += way.Looks()
	return slices.Clone(hits[:min(k, len(hits))]), api.OK
}

// Graph tells the links (P6).
func (b *Base) Graph() api.Graph {
	return b.graph.Tell()
}

// Looks tells how often distances were worked out (P8).
func (b *Base) Looks() int {
	return b.looks
}

// weave is what ties the links of the base.
func (b *Base) weave() weave.Weave {
	return weave.Weave{
		Graph: b.graph,
		Links: b.config.Links,
		Beam:  b.config.Beam,
		Distance: func(one, other int) int {
			return b.distance(b.entries.Peek(one).Point, other)
		},
	}
}

// distance tells how far an entry is from a point.
func (b *Base) distance(point []int, id int) int {
	return distance.Of(b.config.Metric, point, b.entries.Peek(id).Point)
}

// errnoOf asks what came up for the Errno that the call answers. Every error
// of the program has a Reason at its bottom; where nothing came up, there is none.
func errnoOf(err error) api.Errno {
	var reason refusal.Reason
	if errors.As(err, &reason) {
		return api.Errno(reason)
	}
	return api.OK
}
