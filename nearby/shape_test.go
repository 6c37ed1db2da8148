package nearby_test

import (
	"slices"
	"testing"

	"nearby/api"
)

// nodeOf tells an entry of a graph.
func nodeOf(t *testing.T, g api.Graph, id int) api.Node {
	t.Helper()
	for _, n := range g.Nodes {
		if n.Id == id {
			return n
		}
	}
	t.Fatalf("P6: entry %d is not among %v", id, g.Nodes)
	return api.Node{}
}

// graph holds what Graph tells against what P6 asks always.
func (m *model) graph(t *testing.T) {
	t.Helper()
	g := m.base.Graph()
	var want []int
	for id := range m.there {
		want = append(want, id)
	}
	slices.Sort(want)
	var ids []int
	told := map[int]api.Node{}
	for _, n := range g.Nodes {
		ids = append(ids, n.Id)
		told[n.Id] = n
	}
	if !slices.Equal(ids, want) {
		t.Fatalf("P6: the entries are told as %v, want %v", ids, want)
	}
	for _, n := range g.Nodes {
		m.node(t, told, n)
	}
	if chain := slices.Sorted(slices.Values(g.Chain)); !slices.Equal(chain, want) {
		t.Fatalf("P6: the chain is %v, of the entries %v", g.Chain, want)
	}
	if entrance, has := m.entrance(); g.Has != has || g.Entrance != entrance {
		t.Fatalf("P6: the entrance is %d, %t, want %d, %t", g.Entrance, g.Has, entrance, has)
	}
	for _, id := range m.came {
		if len(want) > 1 && len(told[id].Links[0]) == 0 {
			t.Fatalf("P6: entry %d came in without a link", id)
		}
	}
}

func (m *model) node(t *testing.T, told map[int]api.Node, n api.Node) {
	t.Helper()
	if n.Level != m.levels[n.Id] || len(n.Links) != n.Level+1 {
		t.Fatalf("P6: entry %d is told as %v, want the level %d", n.Id, n, m.levels[n.Id])
	}
	for layer, links := range n.Links {
		most := m.config.Links
		if layer == 0 {
			most *= 2
		}
		if len(links) > most {
			t.Fatalf("P6: entry %d has the links %v on layer %d, more than %d", n.Id, links, layer, most)
		}
		for at, id := range links {
			if at > 0 && links[at-1] >= id {
				t.Fatalf("P6: entry %d has the links %v on layer %d, out of order or twice", n.Id, links, layer)
			}
			if id == n.Id {
				t.Fatalf("P6: entry %d is linked to itself on layer %d", id, layer)
			}
			if other, there := told[id]; !there || other.Level < layer || len(other.Links) <= layer || !slices.Contains(other.Links[layer], n.Id) {
				t.Fatalf("P6: the link from %d to %d on layer %d is not there back: %v", n.Id, id, layer, other)
			}
		}
	}
}

func (m *model) entrance() (int, bool) {
	entrance, top := 0, -1
	for id, level := range m.levels {
		if level > top || level == top && id < entrance {
			entrance, top = id, level
		}
	}
	return entrance, top >= 0
}
