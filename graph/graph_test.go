package graph_test

import (
	"slices"
	"testing"

	"nearby/graph"
)

func wantLinked(t *testing.T, g *graph.Graph, id, layer int, want ...int) {
	t.Helper()
	if got := g.Linked(id, layer); !slices.Equal(got, want) {
		t.Errorf("P6: entry %d has the links %v on layer %d, want %v", id, got, layer, want)
	}
}

func wantReached(t *testing.T, g *graph.Graph, id, layer int, want ...int) {
	t.Helper()
	got := g.Reached(id, layer)
	slices.Sort(got)
	if got = slices.Compact(got); !slices.Equal(got, want) {
		t.Errorf("P6: from entry %d %v are reached on layer %d, want %v", id, got, layer, want)
	}
}

func wantEntrance(t *testing.T, g *graph.Graph, want int) {
	t.Helper()
	if id, there := g.Entrance(); !there || id != want {
		t.Errorf("P6: the entrance is %d, %t, want %d", id, there, want)
	}
}

func TestALinkIsThereBothWaysAndOnce(t *testing.T) {
	g := graph.New()
	for _, id := range []int{5, -3, 9, 0} {
		g.Enter(id, 1)
	}
	g.Tie(1, 0, 9)
	g.Tie(1, 0, -3)
	g.Tie(1, 5, 0)
	g.Tie(1, 0, 5)
	wantLinked(t, g, 0, 1, -3, 5, 9)
	for _, id := range []int{5, -3, 9} {
		wantLinked(t, g, id, 1, 0)
		wantLinked(t, g, id, 0)
	}
	g.Cut(1, 9, 0)
	g.Cut(1, 9, 5)
	wantLinked(t, g, 0, 1, -3, 5)
	wantLinked(t, g, 9, 1)
	wantLinked(t, g, 5, 1, 0)
}

func TestWhatIsToldOfLinksIsACopy(t *testing.T) {
	g := graph.New()
	for id := range 3 {
		g.Enter(id, 0)
	}
	g.Tie(0, 0, 1)
	g.Tie(0, 0, 2)
	for _, told := range [][]int{g.Linked(0, 0), g.Reached(0, 0)} {
		told = told[:cap(told)]
		for i := range told {
			told[i] = 99
		}
	}
	wantLinked(t, g, 0, 0, 1, 2)
	g.Tie(0, 1, 2)
	wantLinked(t, g, 0, 0, 1, 2)
	wantLinked(t, g, 1, 0, 0, 2)
}

func TestTheChainIsReachedOnLayerNoughtOnly(t *testing.T) {
	g := graph.New()
	g.Enter(4, 2)
	wantReached(t, g, 4, 0)
	for _, id := range []int{2, 8, 6} {
		g.Enter(id, 2)
	}
	wantReached(t, g, 4, 0, 2)
	wantReached(t, g, 2, 0, 4, 8)
	wantReached(t, g, 8, 0, 2, 6)
	wantReached(t, g, 6, 0, 8)
	wantReached(t, g, 2, 1)
	g.Tie(1, 2, 6)
	g.Tie(0, 4, 6)
	wantReached(t, g, 2, 1, 6)
	wantReached(t, g, 4, 0, 2, 6)
}

func TestLeavingClosesTheChain(t *testing.T) {
	g := graph.New()
	for _, id := range []int{1, 2, 3, 4} {
		g.Enter(id, 0)
	}
	g.Leave(2)
	wantReached(t, g, 1, 0, 3)
	wantReached(t, g, 3, 0, 1, 4)
	g.Leave(1)
	wantReached(t, g, 3, 0, 4)
	g.Leave(4)
	wantReached(t, g, 3, 0)
	g.Enter(1, 0)
	wantReached(t, g, 3, 0, 1)
}

func TestLeavingForgetsLevelAndLinks(t *testing.T) {
	g := graph.New()
	for id := range 3 {
		g.Enter(id, 2)
	}
	for layer := range 3 {
		g.Tie(layer, 0, 1)
		g.Tie(layer, 1, 2)
	}
	g.Leave(1)
	if level := g.Level(1); level != -1 {
		t.Errorf("P3: the level of one that left is %d", level)
	}
	for layer := range 3 {
		for id := range 3 {
			wantLinked(t, g, id, layer)
		}
	}
	g.Enter(1, 0)
	if level := g.Level(1); level != 0 {
		t.Errorf("P3: the level is %d, want 0", level)
	}
	wantLinked(t, g, 1, 0)
}

func TestTheEntranceHasTheGreatestLevelAndTheLeastNumber(t *testing.T) {
	g := graph.New()
	if id, there := g.Entrance(); there || id != 0 {
		t.Errorf("P6: an empty graph has the entrance %d, %t", id, there)
	}
	g.Enter(7, 0)
	wantEntrance(t, g, 7)
	g.Enter(9, 0)
	wantEntrance(t, g, 7)
	g.Enter(-1<<63, 0)
	wantEntrance(t, g, -1<<63)
	g.Enter(1<<63-1, 3)
	wantEntrance(t, g, 1<<63-1)
	g.Enter(5, 3)
	g.Enter(4, 2)
	g.Enter(6, 3)
	wantEntrance(t, g, 5)
	g.Leave(5)
	wantEntrance(t, g, 6)
	g.Leave(6)
	wantEntrance(t, g, 1<<63-1)
	g.Leave(1<<63 - 1)
	wantEntrance(t, g, 4)
}
