package graph

import (
	"maps"
	"slices"

	"nearby/api"
)

// Tell tells the whole graph in lists of their own: who is told may write in
// them. A list without anything in it is nil, whatever stood there ahead.
func (g *Graph) Tell() api.Graph {
	entrance, there := g.Entrance()
	told := api.Graph{Has: there, Entrance: entrance, Chain: append([]int(nil), g.chain...)}
	for _, id := range slices.Sorted(maps.Keys(g.levels)) {
		told.Nodes = append(told.Nodes, g.node(id))
	}
	return told
}

// node tells an entry with its links, layer by layer.
func (g *Graph) node(id int) api.Node {
	links := make([][]int, g.Level(id)+1)
	for layer := range links {
		links[layer] = g.Linked(id, layer)
	}
	return api.Node{Id: id, Level: g.Level(id), Links: links}
}
