// Package graph: on which layers entries stand, the links between them, and
// the chain through all of them.
package graph

import "slices"

// place is where an entry stands on a layer.
type place struct {
	id, layer int
}

// Graph holds entries by their numbers. It keeps links whole (each there and
// back, none twice); how many an entry may have is up to who ties them.
type Graph struct {
	levels map[int]int
	links  map[place][]int
	chain  []int
}

// New makes an empty graph.
func New() *Graph {
	return &Graph{levels: map[int]int{}, links: map[place][]int{}}
}

// Enter puts an entry in that is not there: on its layers without a link, in
// the chain at the end.
func (g *Graph) Enter(id, level int) {
	g.levels[id] = level
	g.chain = append(g.chain, id)
}

// Leave takes an entry out, with its links and its place in the chain.
func (g *Graph) Leave(id int) {
	for layer := range g.Level(id) + 1 {
		for _, other := range g.Linked(id, layer) {
			g.Cut(layer, id, other)
		}
	}
	delete(g.levels, id)
	g.chain = slices.DeleteFunc(g.chain, func(other int) bool { return other == id })
}

// Level tells up to which layer an entry stands: of one that is not there -1.
func (g *Graph) Level(id int) int {
	level, there := g.levels[id]
	if !there {
		return -1
	}
	return level
}

// Entrance tells the entry with the greatest level, of these the one with the
// least number, and whether there is one.
func (g *Graph) Entrance() (int, bool) {
	entrance, top := 0, -1
	for id, level := range g.levels {
		if level > top || level == top && id < entrance {
			entrance, top = id, level
		}
	}
	return entrance, top >= 0
}

// Tie links two entries on a layer, there and back.
func (g *Graph) Tie(layer, a, b int) {
	g.add(place{a, layer}, b)
	g.add(place{b, layer}, a)
}

// Cut takes the link of two entries on a layer out, there and back.
func (g *Graph) Cut(layer, a, b int) {
	g.drop(place{a, layer}, b)
	g.drop(place{b, layer}, a)
}

// Linked tells the links of an entry on a layer, in the order of the numbers.
// It is a copy, so links may be tied and cut while it is gone through.
func (g *Graph) Linked(id, layer int) []int {
	return slices.Clone(g.links[place{id, layer}])
}

// Reached tells where a step from an entry may lead on a layer: along its
// links, and on layer 0 along the chain too. Some may be told twice.
func (g *Graph) Reached(id, layer int) []int {
	reached := g.Linked(id, layer)
	if layer == 0 {
		reached = append(reached, g.beside(id)...)
	}
	return reached
}

// beside tells the entries that stand beside one in the chain.
func (g *Graph) beside(id int) []int {
	at := slices.Index(g.chain, id)
	var beside []int
	if at > 0 {
		beside = append(beside, g.chain[at-1])
	}
	if at >= 0 && at+1 < len(g.chain) {
		beside = append(beside, g.chain[at+1])
	}
	return beside
}

func (g *Graph) add(from place, to int) {
	at, there := slices.BinarySearch(g.links[from], to)
	if !there {
		g.links[from] = slices.Insert(g.links[from], at, to)
	}
}

func (g *Graph) drop(from place, to int) {
	at, there := slices.BinarySearch(g.links[from], to)
	if there {
		g.links[from] = slices.Delete(g.links[from], at, at+1)
	}
	if len(g.links[from]) == 0 {
		delete(g.links, from)
	}
}
