package nearby_test

import (
	"math/rand"
	"testing"

	"nearby/api"
)

func TestLooksOfSearchesOnly(t *testing.T) {
	b := three(t, api.Squares)
	if n := b.Looks(); n != 0 {
		t.Errorf("P8: %d looks ahead of the first Search", n)
	}
	wantFound(t, b, []int{0, 0}, 1, 100, api.Filter{}, api.Hit{Id: 1})
	looks := b.Looks()
	if looks < 1 || looks > 18 {
		t.Errorf("P8: %d looks at three entries on six layers", looks)
	}
	wantPut(t, b, api.OK, 4, [2]int{}, 1, 1)
	wantPut(t, b, api.OK, 1, [2]int{}, 2, 2)
	wantPut(t, b, api.ErrCoord, 1, [2]int{}, 1<<21, 0)
	wantDelete(t, b, api.OK, 2)
	wantDelete(t, b, api.ErrNone, 2)
	wantEntry(t, b, 3, [2]int{1, 5}, 0, 6)
	wantCount(t, b, 3)
	b.Graph()
	if n := b.Looks(); n != looks {
		t.Errorf("P8: %d looks in calls other than Search", n-looks)
	}
}

func TestLooksAddUp(t *testing.T) {
	b := newBase(t, config(1, 60))
	for id := range 60 {
		if e := b.Put(id, []int{id}, [2]int{}, 1<<63); e != api.OK {
			t.Fatalf("P3: Put(%d) = %d", id, e)
		}
	}
	for n := 1; n <= 5; n++ {
		if _, e := b.Search([]int{n}, 60, 1, api.Filter{}); e != api.OK {
			t.Fatalf("P4: Search = %d", e)
		}
		// At least one for each hit, at most one for each place: all on layer 0.
		if b.Looks() != 60*n {
			t.Errorf("P8: %d looks in %d Searches of 60 of 60, want %d", b.Looks(), n, 60*n)
		}
	}
}

func TestLooksOfABaseAreItsOwn(t *testing.T) {
	one, two := three(t, api.Squares), three(t, api.Squares)
	wantFound(t, one, []int{0, 0}, 1, 1, api.Filter{}, api.Hit{Id: 1})
	if n := two.Looks(); n != 0 {
		t.Errorf("P1: %d looks of another base", n)
	}
}

// The links are there to save looks: with a narrow beam a search sees fewer
// than all.
func TestANarrowBeamSavesLooks(t *testing.T) {
	draws := rand.New(rand.NewSource(3))
	b := newBase(t, api.Config{Dim: 2, Cap: 60, Links: 4, Beam: 10, Top: 5})
	for id := range 60 {
		if e := b.Put(id, []int{draws.Intn(1000), draws.Intn(1000)}, [2]int{}, draws.Uint64()); e != api.OK {
			t.Fatalf("P3: Put(%d) = %d", id, e)
		}
	}
	for range 100 {
		if _, e := b.Search([]int{draws.Intn(1000), draws.Intn(1000)}, 1, 1, api.Filter{}); e != api.OK {
			t.Fatalf("P4: Search = %d", e)
		}
	}
	if n := b.Looks(); n > 100*30 {
		t.Errorf("P8: %d looks in 100 searches of one of 60", n)
	}
}
