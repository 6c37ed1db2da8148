package graph_test

import (
	"reflect"
	"testing"

	"nearby/api"
	"nearby/graph"
)

func wantTold(t *testing.T, g *graph.Graph, want api.Graph) {
	t.Helper()
	if got := g.Tell(); !reflect.DeepEqual(got, want) {
		t.Errorf("P6: the graph is told as %+v, want %+v", got, want)
	}
}

func TestNothingIsToldOfAnEmptyGraph(t *testing.T) {
	g := graph.New()
	wantTold(t, g, api.Graph{})
	g.Enter(0, 5)
	g.Enter(4, 0)
	g.Tie(0, 0, 4)
	g.Leave(0)
	g.Leave(4)
	wantTold(t, g, api.Graph{})
}

func TestWhatIsToldIsInOrder(t *testing.T) {
	g := graph.New()
	g.Enter(5, 1)
	wantTold(t, g, api.Graph{Has: true, Entrance: 5, Chain: []int{5}, Nodes: []api.Node{
		{Id: 5, Level: 1, Links: [][]int{nil, nil}},
	}})
	g.Enter(-3, 0)
	g.Enter(9, 2)
	g.Enter(0, 2)
	g.Tie(0, 5, 9)
	g.Tie(0, 5, 0)
	g.Tie(0, -3, 5)
	g.Tie(1, 9, 5)
	g.Tie(2, 9, 0)
	wantTold(t, g, api.Graph{Has: true, Entrance: 0, Chain: []int{5, -3, 9, 0}, Nodes: []api.Node{
		{Id: -3, Level: 0, Links: [][]int{{5}}},
		{Id: 0, Level: 2, Links: [][]int{{5}, nil, {9}}},
		{Id: 5, Level: 1, Links: [][]int{{-3, 0, 9}, {9}}},
		{Id: 9, Level: 2, Links: [][]int{{5}, {5}, {0}}},
	}})
	g.Leave(5)
	wantTold(t, g, api.Graph{Has: true, Entrance: 0, Chain: []int{-3, 9, 0}, Nodes: []api.Node{
		{Id: -3, Level: 0, Links: [][]int{nil}},
		{Id: 0, Level: 2, Links: [][]int{nil, nil, {9}}},
		{Id: 9, Level: 2, Links: [][]int{nil, nil, {0}}},
	}})
}
