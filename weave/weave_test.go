package weave_test

import (
	"math/rand"
	"slices"
	"testing"

	"nearby/api"
	"nearby/graph"
	"nearby/weave"
)

// world is a graph of entries that have points on a line, and a weave of it.
type world struct {
	weave.Weave
	points map[int]int
}

func newWorld(links, beam int) world {
	points := map[int]int{}
	between := func(a, b int) int { return max(points[a]-points[b], points[b]-points[a]) }
	return world{weave.Weave{Graph: graph.New(), Links: links, Beam: beam, Distance: between}, points}
}

func (w world) put(id, point, level int) {
	w.points[id] = point
	w.Delete(id)
	w.Put(id, level)
}

func (w world) delete(id int) {
	w.Delete(id)
	delete(w.points, id)
}

// check holds the graph against what P6 asks of it always.
func (w world) check(t *testing.T) {
	t.Helper()
	for id := range w.points {
		for layer := range api.MaxTop + 1 {
			w.checkLinks(t, id, layer)
		}
	}
	w.checkReached(t)
}

func (w world) checkLinks(t *testing.T, id, layer int) {
	t.Helper()
	linked, most := w.Graph.Linked(id, layer), w.Links
	if layer == 0 {
		most *= 2
	}
	if len(linked) > most || !slices.IsSorted(linked) || len(slices.Compact(slices.Clone(linked))) != len(linked) {
		t.Fatalf("P6: entry %d has the links %v on layer %d", id, linked, layer)
	}
	if len(linked) > 0 && layer > w.Graph.Level(id) {
		t.Fatalf("P6: entry %d has links on layer %d, where it does not stand", id, layer)
	}
	for _, other := range linked {
		if other == id || w.Graph.Level(other) < layer {
			t.Fatalf("P6: entry %d is linked to %d on layer %d", id, other, layer)
		}
		if !slices.Contains(w.Graph.Linked(other, layer), id) {
			t.Fatalf("P6: the link from %d to %d on layer %d is not there back", id, other, layer)
		}
	}
}

func (w world) checkReached(t *testing.T) {
	t.Helper()
	entrance, there := w.Graph.Entrance()
	if there != (len(w.points) > 0) {
		t.Fatalf("P6: an entrance: %t, of %d entries", there, len(w.points))
	}
	if !there {
		return
	}
	met, work := map[int]struct{}{entrance: {}}, []int{entrance}
	for len(work) > 0 {
		for _, id := range w.Graph.Reached(work[0], 0) {
			if _, again := met[id]; !again {
				met[id] = struct{}{}
				work = append(work, id)
			}
		}
		work = work[1:]
	}
	if len(met) != len(w.points) {
		t.Fatalf("P6: %d of %d entries are reached", len(met), len(w.points))
	}
}

func TestLongRuns(t *testing.T) {
	for seed := range int64(30) {
		draws := rand.New(rand.NewSource(seed))
		w := newWorld(api.MinLinks+draws.Intn(7), 1+draws.Intn(12))
		wide := 1 + draws.Intn(200)
		for range 300 {
			id := draws.Intn(40)
			if draws.Intn(3) == 0 {
				w.delete(id)
				if w.Graph.Level(id) != -1 {
					t.Fatalf("P3: entry %d is still there", id)
				}
			} else {
				level := draws.Intn(api.MaxTop + 1)
				w.put(id, draws.Intn(wide), level)
				if w.Graph.Level(id) != level {
					t.Fatalf("P6: entry %d has the level %d, want %d", id, w.Graph.Level(id), level)
				}
				if len(w.points) > 1 && len(w.Graph.Linked(id, 0)) == 0 {
					t.Fatalf("P6: entry %d came in without a link", id)
				}
			}
			w.check(t)
		}
	}
}

func wantLinked(t *testing.T, w world, id, layer int, want ...int) {
	t.Helper()
	if got := w.Graph.Linked(id, layer); !slices.Equal(got, want) {
		t.Errorf("P6: entry %d has the links %v on layer %d, want %v", id, got, layer, want)
	}
}

func TestTheNearestAreLinked(t *testing.T) {
	w := newWorld(2, 10)
	for id, point := range []int{0, 100, 200, 300} {
		w.put(id, point, 0)
	}
	w.put(9, 210, 0)
	wantLinked(t, w, 9, 0, 2, 3)
}

func TestLinksOnTheLayersThatAreShared(t *testing.T) {
	w := newWorld(2, 10)
	w.put(1, 0, 1)
	w.put(2, 10, 5)
	w.put(3, 20, 3)
	for layer, want := range [][]int{{1, 2}, {1, 2}, {2}, {2}, nil, nil} {
		wantLinked(t, w, 3, layer, want...)
	}
	w.check(t)
}

// On layer 1 an entry has room for two links here; the third is taken at the
// cost of the farthest.
func TestTheFarthestMakesWay(t *testing.T) {
	w := newWorld(2, 1)
	for id, point := range []int{0, -10, 12} {
		w.put(id, point, 1)
	}
	wantLinked(t, w, 0, 1, 1, 2)
	w.put(3, 5, 1)
	wantLinked(t, w, 0, 1, 1, 3)
	wantLinked(t, w, 2, 1)
	wantLinked(t, w, 3, 1, 0)
	wantLinked(t, w, 0, 0, 1, 2, 3)
	w.check(t)
}

func TestOnlyTheNearestGivesUpANearerLink(t *testing.T) {
	w := newWorld(2, 2)
	for id, point := range []int{0, 1, -1} {
		w.put(id, point, 1)
	}
	wantLinked(t, w, 0, 1, 1, 2)
	wantLinked(t, w, 1, 1, 0, 2)
	w.put(3, 40, 1)
	wantLinked(t, w, 3, 1, 1)
	wantLinked(t, w, 0, 1, 1, 2)
	wantLinked(t, w, 1, 1, 0, 3)
	wantLinked(t, w, 2, 1, 0)
	w.check(t)
}

func TestAFarOneStillGetsALink(t *testing.T) {
	for links := api.MinLinks; links <= api.MaxLinks; links++ {
		w := newWorld(links, 100)
		for id := range 40 {
			w.put(id, id%3, api.MaxTop)
		}
		w.put(99, 1000, 0)
		if len(w.Graph.Linked(99, 0)) == 0 {
			t.Errorf("P6: links %d: entry 99 came in without a link", links)
		}
		w.check(t)
	}
}

func TestThoseLeftAreTiedToOneAnother(t *testing.T) {
	w := newWorld(2, 1)
	w.put(1, 0, 1)
	w.put(2, 10, 1)
	w.put(3, 20, 1)
	wantLinked(t, w, 2, 1, 1, 3)
	wantLinked(t, w, 1, 1, 2)
	w.delete(2)
	for layer := range 2 {
		wantLinked(t, w, 1, layer, 3)
		wantLinked(t, w, 3, layer, 1)
	}
	w.delete(8)
	w.check(t)
}

func TestTheNearestOfThoseLeftIsTied(t *testing.T) {
	w := newWorld(2, 1)
	for id, point := range []int{0, -10, 11, 22, 40} {
		w.points[id] = point
		w.Graph.Enter(id, 0)
	}
	for id := 1; id <= 4; id++ {
		w.Graph.Tie(0, 0, id)
	}
	w.delete(0)
	wantLinked(t, w, 1, 0, 2)
	wantLinked(t, w, 2, 0, 1, 3, 4)
	wantLinked(t, w, 3, 0, 2, 4)
	wantLinked(t, w, 4, 0, 2, 3)
}

func TestPutInPlaceForgetsTheLevel(t *testing.T) {
	w := newWorld(2, 5)
	w.put(1, 0, 5)
	w.put(2, 10, 5)
	w.put(1, 20, 0)
	wantLinked(t, w, 1, 0, 2)
	for layer := 1; layer <= 5; layer++ {
		wantLinked(t, w, 1, layer)
		wantLinked(t, w, 2, layer)
	}
	w.check(t)
}
