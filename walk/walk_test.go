package walk_test

import (
	"slices"
	"testing"

	"nearby/api"
	"nearby/graph"
	"nearby/walk"
)

// road is a graph of entries 0 to n-1, linked in a row on layer 0; their
// chain goes the same way. An entry's point is its number.
func road(n int, level func(id int) int) *graph.Graph {
	g := graph.New()
	for id := range n {
		g.Enter(id, level(id))
		if id > 0 {
			g.Tie(0, id-1, id)
		}
	}
	return g
}

func flat(int) int { return 0 }

// towards tells how far entries of a road are from a point of it, and counts
// how often it was asked of each.
func towards(point int, asked map[int]int) func(id int) int {
	return func(id int) int {
		asked[id]++
		return max(point-id, id-point)
	}
}

func wantHits(t *testing.T, got []api.Hit, want ...api.Hit) {
	t.Helper()
	if !slices.Equal(got, want) {
		t.Errorf("P4: %v, want %v", got, want)
	}
}

func TestAnEmptyGraph(t *testing.T) {
	w := walk.New(graph.New(), func(int) int { panic("there is nothing to look at") })
	wantHits(t, w.Along(0, w.Down(0), 3, walk.Anyone))
	if w.Looks() != 0 {
		t.Errorf("P8: %d looks at nothing", w.Looks())
	}
}

func TestADistanceIsWorkedOutOnce(t *testing.T) {
	g := road(30, func(id int) int { return 5 - min(id, 5) })
	for layer := 1; layer < 5; layer++ {
		for id := 1; id <= 5-layer; id++ {
			g.Tie(layer, id-1, id)
		}
	}
	asked := map[int]int{}
	w := walk.New(g, towards(20, asked))
	w.Along(0, w.Down(0), 60, walk.Anyone)
	for id := range 30 {
		if asked[id] != 1 {
			t.Errorf("P8: the distance of %d was worked out %d times", id, asked[id])
		}
	}
	if w.Looks() != 30 {
		t.Errorf("P8: %d looks, want 30", w.Looks())
	}
}

func TestItEndsWhereEveryWayLeadsFartherOff(t *testing.T) {
	asked := map[int]int{}
	w := walk.New(road(60, flat), towards(10, asked))
	wantHits(t, w.Along(0, w.Down(0), 2, walk.Anyone), api.Hit{Id: 10}, api.Hit{Id: 9, Distance: 1})
	if w.Looks() > 13 {
		t.Errorf("P8: %d looks on the way from 0 to 10", w.Looks())
	}
}

func TestUpperLayersShortenTheWay(t *testing.T) {
	g := graph.New()
	for id := range 60 {
		level := 0
		if id%10 == 0 {
			level = 1
		}
		g.Enter(id, level)
	}
	for id := 1; id < 60; id++ {
		g.Tie(0, id-1, id)
	}
	for id := 10; id < 60; id += 10 {
		g.Tie(1, id-10, id)
	}
	w := walk.New(g, towards(50, map[int]int{}))
	starts := w.Down(0)
	wantHits(t, starts, api.Hit{Id: 50})
	if w.Looks() != 6 {
		t.Errorf("P8: %d looks on layer 1, want 6", w.Looks())
	}
	wantHits(t, w.Along(0, starts, 1, walk.Anyone), api.Hit{Id: 50})
	if w.Looks() != 8 {
		t.Errorf("P8: %d looks, want 8", w.Looks())
	}
}

func TestTheChainLeadsOverGaps(t *testing.T) {
	g := graph.New()
	for id := range 9 {
		g.Enter(id, 0)
	}
	w := walk.New(g, towards(8, map[int]int{}))
	wantHits(t, w.Along(0, w.Down(0), 2, walk.Anyone), api.Hit{Id: 8}, api.Hit{Id: 7, Distance: 1})
}

// What is wanted stands behind what leads away from the point: the walk goes
// on as long as it has not found enough.
func TestItGoesOnUntilItHasEnough(t *testing.T) {
	for width := 1; width <= 4; width++ {
		w := walk.New(road(60, flat), towards(0, map[int]int{}))
		got := w.Along(0, w.Down(0), width, func(id int) bool { return id >= 57 })
		want := []api.Hit{{Id: 57, Distance: 57}, {Id: 58, Distance: 58}, {Id: 59, Distance: 59}}
		wantHits(t, got, want[:min(width, 3)]...)
	}
}

func TestOnlyThoseWantedAreTold(t *testing.T) {
	w := walk.New(road(9, flat), towards(4, map[int]int{}))
	even := func(id int) bool { return id%2 == 0 }
	wantHits(t, w.Along(0, w.Down(0), 3, even), api.Hit{Id: 4}, api.Hit{Id: 2, Distance: 2}, api.Hit{Id: 6, Distance: 2})
	wantHits(t, w.Along(0, w.Down(0), 3, func(int) bool { return false }))
}
