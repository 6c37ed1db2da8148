package nearby_test

import (
	"math/rand"
	"reflect"
	"slices"
	"testing"

	"nearby/api"
	"nearby/nearby"
)

func wantGraph(t *testing.T, b *nearby.Base, want api.Graph) {
	t.Helper()
	if got := b.Graph(); !reflect.DeepEqual(got, want) {
		t.Errorf("P6: Graph() = %+v, want %+v", got, want)
	}
}

func wantEntrance(t *testing.T, b *nearby.Base, want int) {
	t.Helper()
	if g := b.Graph(); !g.Has || g.Entrance != want {
		t.Errorf("P6: the entrance is %d, %t, want %d", g.Entrance, g.Has, want)
	}
}

// draw tells a draw of which the level is the one wished, by Links 2.
func draw(level int) uint64 {
	return 1<<(64-level) - 1
}

func TestGraphOfAnEmptyBase(t *testing.T) {
	b := newBase(t, config(1, 3))
	wantGraph(t, b, api.Graph{})
	wantPut(t, b, api.ErrDim, 1, [2]int{})
	wantPut(t, b, api.ErrCoord, 1, [2]int{}, greatest)
	wantDelete(t, b, api.ErrNone, 0)
	wantGraph(t, b, api.Graph{})
	for id := range 3 {
		wantPut(t, b, api.OK, id, [2]int{}, id)
	}
	for id := range 3 {
		wantDelete(t, b, api.OK, id)
	}
	wantGraph(t, b, api.Graph{})
}

func TestTheDrawGivesTheLevel(t *testing.T) {
	for _, c := range []struct {
		draw       uint64
		links, top int
		want       int
	}{
		{0, 2, 5, 5},
		{0, 2, 3, 3},
		{0, 8, 0, 0},
		{1<<63 - 1, 2, 5, 1},
		{1 << 63, 2, 5, 0},
		{1<<64 - 1, 2, 5, 0},
		{1<<64 - 1, 2, 0, 0},
		{1<<61 - 1, 8, 5, 1},
		{1<<61 - 1, 2, 5, 3},
		{1<<61 - 1, 2, 2, 2},
		{(1<<64 - 1) / 7, 7, 5, 1},
		{(1<<64-1)/7 + 1, 7, 5, 0},
	} {
		b := newBase(t, api.Config{Dim: 1, Cap: 1, Links: c.links, Beam: 1, Top: c.top})
		for _, d := range []uint64{1 << 63, 0, c.draw} {
			b.Put(7, []int{0}, [2]int{}, d)
		}
		wantGraph(t, b, api.Graph{Has: true, Entrance: 7, Chain: []int{7}, Nodes: []api.Node{
			{Id: 7, Level: c.want, Links: make([][]int, c.want+1)},
		}})
	}
}

// Of two entries there is only one graph, but for the ends of the chain.
func TestGraphOfTwo(t *testing.T) {
	b := newBase(t, config(1, 2))
	b.Put(greatest, []int{0}, [2]int{}, draw(2))
	b.Put(least, []int{5}, [2]int{}, draw(0))
	g := b.Graph()
	slices.Sort(g.Chain)
	want := api.Graph{Has: true, Entrance: greatest, Chain: []int{least, greatest}, Nodes: []api.Node{
		{Id: least, Level: 0, Links: [][]int{{greatest}}},
		{Id: greatest, Level: 2, Links: [][]int{{least}, nil, nil}},
	}}
	if !reflect.DeepEqual(g, want) {
		t.Errorf("P6: Graph() = %+v, want %+v", g, want)
	}
	wantPut(t, b, api.ErrFull, 1, [2]int{}, 0)
	wantDelete(t, b, api.OK, greatest)
	wantGraph(t, b, api.Graph{Has: true, Entrance: least, Chain: []int{least}, Nodes: []api.Node{
		{Id: least, Level: 0, Links: [][]int{nil}},
	}})
}

func TestTheEntrance(t *testing.T) {
	b := newBase(t, config(1, 10))
	put := func(id, level int) {
		t.Helper()
		if e := b.Put(id, []int{id % 7}, [2]int{}, draw(level)); e != api.OK {
			t.Fatalf("P3: Put(%d) = %d", id, e)
		}
	}
	put(7, 0)
	wantEntrance(t, b, 7)
	put(9, 0)
	wantEntrance(t, b, 7)
	put(least, 0)
	wantEntrance(t, b, least)
	put(greatest, 1)
	wantEntrance(t, b, greatest)
	put(0, 3)
	put(5, 3)
	put(-4, 3)
	wantEntrance(t, b, -4)
	put(-4, 2)
	wantEntrance(t, b, 0)
	wantDelete(t, b, api.OK, 0)
	wantEntrance(t, b, 5)
	wantDelete(t, b, api.ErrNone, 0)
	wantDelete(t, b, api.OK, 5)
	wantEntrance(t, b, -4)
	put(9, 5)
	wantEntrance(t, b, 9)
}

func TestPutInPlaceForgetsLevelLinksAndPlace(t *testing.T) {
	b := newBase(t, config(1, 10))
	for id := range 5 {
		b.Put(id, []int{10 * id}, [2]int{}, draw(4))
	}
	b.Put(2, []int{1000}, [2]int{}, draw(1))
	g := b.Graph()
	if n := nodeOf(t, g, 2); n.Level != 1 || len(n.Links) != 2 || len(n.Links[0]) == 0 {
		t.Errorf("P6: entry 2 is told as %v", n)
	}
	for _, n := range g.Nodes {
		for layer, links := range n.Links {
			if layer > 1 && slices.Contains(links, 2) {
				t.Errorf("P3: entry %d has the links %v on layer %d, where 2 stands no longer", n.Id, links, layer)
			}
		}
	}
	// The chain takes in at its end what comes; 2 has come last.
	if !slices.Equal(g.Chain, []int{0, 1, 3, 4, 2}) {
		t.Errorf("P3: the chain is %v", g.Chain)
	}
	b.Put(0, []int{0}, [2]int{}, draw(4))
	if g := b.Graph(); !slices.Equal(g.Chain, []int{1, 3, 4, 2, 0}) {
		t.Errorf("P3: the chain is %v", g.Chain)
	}
}

// Put finds as many as the config's beam is wide, and links the new entry to
// as many of these as Links says.
func TestTheConfigGivesTheLinks(t *testing.T) {
	for _, c := range []struct{ links, beam, want int }{{2, 1, 1}, {2, 2, 2}, {2, 9, 2}, {8, 3, 3}, {8, 100, 8}} {
		b := newBase(t, api.Config{Dim: 1, Cap: 60, Links: c.links, Beam: c.beam})
		for id := range 12 {
			b.Put(id, []int{10 * id}, [2]int{}, 0)
		}
		b.Put(99, []int{55}, [2]int{}, 0)
		if links := nodeOf(t, b.Graph(), 99).Links[0]; len(links) != c.want {
			t.Errorf("links %d, beam %d: the new entry has the links %v, want %d", c.links, c.beam, links, c.want)
		}
	}
}

// Where all are near to one, all want to be linked to it: more than may be.
func TestOneThatAllAreNearTo(t *testing.T) {
	for links := api.MinLinks; links <= api.MaxLinks; links++ {
		m := modelOf(t, api.Config{Dim: 1, Cap: 60, Links: links, Metric: api.Products, Beam: 20, Top: 5})
		m.put(t, 0, []int{api.MaxCoord}, [2]int{}, 0)
		for id := 1; id < 60; id++ {
			m.put(t, id, []int{id}, [2]int{}, 0)
			m.graph(t)
		}
		if n := nodeOf(t, m.base.Graph(), 0); len(n.Links[0]) != 2*links || len(n.Links[5]) != links {
			t.Errorf("links %d: the one that all are near to has the links %v", links, n.Links)
		}
		for id := range 60 {
			m.delete(t, id)
			m.graph(t)
		}
	}
}

func TestGraphAlwaysHolds(t *testing.T) {
	for seed := range int64(40) {
		draws := rand.New(rand.NewSource(1000 + seed))
		m := newModel(t, draws)
		m.config.Cap, m.config.Top = api.MaxCap, api.MaxTop
		m = modelOf(t, m.config)
		for range 200 {
			m.change(t, draws)
			m.graph(t)
		}
		for id := -10; id < 60; id++ {
			m.delete(t, id)
			m.graph(t)
		}
	}
}

// The same calls give the same graph: nothing hangs on the order of a map.
func TestTheSameCallsGiveTheSameGraph(t *testing.T) {
	run := func() api.Graph {
		draws := rand.New(rand.NewSource(11))
		m := newModel(t, draws)
		for range 200 {
			m.change(t, draws)
		}
		return m.base.Graph()
	}
	want := run()
	for range 20 {
		if got := run(); !reflect.DeepEqual(got, want) {
			t.Fatalf("P6: Graph() = %+v, and of the same calls %+v", got, want)
		}
	}
}
