package nearby_test

import (
	"math/rand"
	"reflect"
	"testing"

	"nearby/api"
	"nearby/nearby"
)

// full is a base of sixty entries on all layers.
func full(t *testing.T) *nearby.Base {
	t.Helper()
	draws := rand.New(rand.NewSource(4))
	b := newBase(t, api.Config{Dim: 2, Cap: 60, Links: 3, Beam: 10, Top: 5})
	for id := range 60 {
		point := []int{draws.Intn(100), draws.Intn(100)}
		if e := b.Put(id, point, [2]int{}, draws.Uint64()>>draws.Intn(8)); e != api.OK {
			t.Fatalf("P3: Put(%d) = %d", id, e)
		}
	}
	return b
}

// numbers tells the lists of numbers in a graph: the chain, and all links.
func numbers(g api.Graph) [][]int {
	lists := [][]int{g.Chain}
	for _, n := range g.Nodes {
		lists = append(lists, n.Links...)
	}
	return lists
}

// blot writes over all of a graph, spare room too.
func blot(g api.Graph) {
	for _, list := range numbers(g) {
		fill(list[:cap(list)], 999)
	}
	for _, n := range g.Nodes {
		layers := n.Links[:cap(n.Links)]
		for i := range layers {
			layers[i] = []int{999}
		}
	}
	nodes := g.Nodes[:cap(g.Nodes)]
	for i := range nodes {
		nodes[i] = api.Node{Id: 999, Level: 999}
	}
}

func TestAGraphIsNewMemory(t *testing.T) {
	b := full(t)
	one, two, want := b.Graph(), b.Graph(), b.Graph()
	blot(one)
	if !reflect.DeepEqual(two, want) {
		t.Errorf("P1: two answers share memory: %+v, want %+v", two, want)
	}
	wantGraph(t, b, want)
	for _, list := range numbers(two) {
		for _, id := range list[:cap(list)] {
			if id == 999 {
				t.Fatalf("P1: spare room is shared: %v", list[:cap(list)])
			}
		}
	}
	// What was written must not come out with later changes either.
	other := full(t)
	for id := 0; id < 60; id += 3 {
		for _, base := range []*nearby.Base{b, other} {
			wantDelete(t, base, api.OK, id)
			wantPut(t, base, api.OK, id, [2]int{}, id, id)
		}
	}
	wantGraph(t, b, other.Graph())
}

func TestNoTwoListsOfAGraphShareMemory(t *testing.T) {
	b := full(t)
	want := b.Graph()
	for written := range numbers(want) {
		g := b.Graph()
		lists := numbers(g)
		room := lists[written][:cap(lists[written])]
		fill(room, 999)
		for at, list := range lists {
			if at != written && !reflect.DeepEqual(list, numbers(want)[at]) {
				t.Fatalf("P1: list %d shares memory with list %d: %v", at, written, list)
			}
		}
	}
	for written := range want.Nodes {
		g := b.Graph()
		layers := g.Nodes[written].Links
		layers = layers[:cap(layers)]
		for i := range layers {
			layers[i] = nil
		}
		for at, n := range g.Nodes {
			if at != written && !reflect.DeepEqual(n, want.Nodes[at]) {
				t.Fatalf("P1: entry %d shares memory with entry %d: %v", at, written, n)
			}
		}
	}
}

func TestAGraphThatCameOutStaysAsItWas(t *testing.T) {
	b, same := full(t), full(t)
	g, want := b.Graph(), same.Graph()
	for id := range 60 {
		wantPut(t, b, api.OK, id, [2]int{}, -id, id)
	}
	for id := range 60 {
		wantDelete(t, b, api.OK, id)
	}
	if !reflect.DeepEqual(g, want) {
		t.Errorf("P1: the graph has become %+v, want %+v", g, want)
	}
}

func TestGraphsOfTwoBasesAreTheirOwn(t *testing.T) {
	one, two := full(t), newBase(t, config(2, 60))
	want := one.Graph()
	wantGraph(t, two, api.Graph{})
	for id := range 30 {
		wantPut(t, two, api.OK, id, [2]int{}, id, 0)
	}
	wantDelete(t, two, api.OK, 3)
	wantGraph(t, one, want)
	ofTwo := two.Graph()
	wantDelete(t, one, api.OK, 4)
	wantPut(t, one, api.OK, 5, [2]int{}, 0, 0)
	wantGraph(t, two, ofTwo)
}

func TestARefusalLeavesTheGraph(t *testing.T) {
	b := full(t)
	want := b.Graph()
	wantPut(t, b, api.ErrDim, 3, [2]int{}, 1)
	wantPut(t, b, api.ErrCoord, 3, [2]int{}, 1<<21, 0)
	wantPut(t, b, api.ErrFull, 60, [2]int{}, 1, 1)
	wantDelete(t, b, api.ErrNone, 60)
	wantRefused(t, b, api.ErrCount, []int{0, 0}, 61, 1, api.Filter{})
	wantGraph(t, b, want)
}
