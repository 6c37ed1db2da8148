package queue_test

import (
	"math/rand"
	"slices"
	"testing"

	"nearby/api"
	"nearby/distance"
	"nearby/queue"
)

// Pushes and pops in any order are held against a sorted list.
func TestTheTopGoesAheadOfAll(t *testing.T) {
	for seed := range int64(50) {
		draws := rand.New(rand.NewSource(seed))
		q := queue.New(distance.Nearer)
		var want []api.Hit
		for id := range 200 {
			if len(want) > 0 && draws.Intn(3) == 0 {
				if top, popped := q.Top(), q.Pop(); top != want[0] || popped != want[0] {
					t.Fatalf("top %v, popped %v, want %v", top, popped, want[0])
				}
				want = want[1:]
				continue
			}
			h := api.Hit{Id: id, Distance: draws.Intn(20) - 10}
			q.Push(h)
			want = append(want, h)
			slices.SortFunc(want, distance.Compare)
			if q.Len() != len(want) {
				t.Fatalf("%d hits, want %d", q.Len(), len(want))
			}
		}
		for _, h := range want {
			if got := q.Pop(); got != h {
				t.Fatalf("popped %v, want %v", got, h)
			}
		}
		if q.Len() != 0 {
			t.Fatalf("%d hits are left", q.Len())
		}
	}
}

func TestTheOrderIsWhoMakesIts(t *testing.T) {
	q := queue.New(distance.Farther)
	for id, d := range []int{3, 1, 4, 1, 5} {
		q.Push(api.Hit{Id: id, Distance: d})
	}
	for _, want := range []api.Hit{{Id: 4, Distance: 5}, {Id: 2, Distance: 4}, {Id: 0, Distance: 3}, {Id: 3, Distance: 1}, {Id: 1, Distance: 1}} {
		if got := q.Pop(); got != want {
			t.Errorf("popped %v, want %v", got, want)
		}
	}
}
