package nearby_test

import (
	"math/rand"
	"slices"
	"testing"

	"nearby/api"
)

func config(dim, places int) api.Config {
	return api.Config{Dim: dim, Cap: places, Links: 2, Beam: 5, Top: 5}
}

func TestPutWantsDimCoordinates(t *testing.T) {
	for dim := 1; dim <= api.MaxDim; dim++ {
		b := newBase(t, config(dim, 2))
		for n := range api.MaxDim + 3 {
			point := make([]int, n)
			if n == dim {
				wantPut(t, b, api.OK, 1, [2]int{}, point...)
				wantEntry(t, b, 1, [2]int{}, point...)
				wantDelete(t, b, api.OK, 1)
			} else {
				wantPut(t, b, api.ErrDim, 1, [2]int{}, point...)
			}
			wantCount(t, b, 0)
		}
		if e := b.Put(1, nil, [2]int{}, 0); e != api.ErrDim {
			t.Errorf("P3: Put of nil = %d, want %d", e, api.ErrDim)
		}
	}
}

func TestPutWantsCoordinatesInTheirRange(t *testing.T) {
	const dim = 3
	for place := range dim {
		b := newBase(t, config(dim, 2))
		for _, coord := range []int{-1 << 20, -1<<20 + 1, -1, 0, 1, 1<<20 - 1, 1 << 20} {
			point := make([]int, dim)
			point[place] = coord
			wantPut(t, b, api.OK, 1, [2]int{}, point...)
			wantEntry(t, b, 1, [2]int{}, point...)
		}
		kept := make([]int, dim)
		kept[place] = 1 << 20
		for _, coord := range []int{-1<<20 - 1, 1<<20 + 1, -1 << 32, 1 << 32, least, greatest} {
			point := make([]int, dim)
			point[place] = coord
			wantPut(t, b, api.ErrCoord, 1, [2]int{}, point...)
			wantPut(t, b, api.ErrCoord, 2, [2]int{}, point...)
			wantEntry(t, b, 1, [2]int{}, kept...)
			wantNone(t, b, 2)
			wantCount(t, b, 1)
		}
	}
}

func TestPutWantsAPlace(t *testing.T) {
	for _, places := range []int{1, 2, 59, api.MaxCap} {
		b := newBase(t, config(1, places))
		for id := range places {
			wantPut(t, b, api.OK, id, [2]int{id, 0}, id)
			wantCount(t, b, id+1)
		}
		wantPut(t, b, api.ErrFull, places, [2]int{}, 5)
		wantPut(t, b, api.ErrFull, -1, [2]int{}, 5)
		wantNone(t, b, places)
		wantNone(t, b, -1)
		wantCount(t, b, places)

		wantPut(t, b, api.OK, places-1, [2]int{7, 8}, 99)
		wantEntry(t, b, places-1, [2]int{7, 8}, 99)
		wantCount(t, b, places)
		wantPut(t, b, api.ErrFull, places, [2]int{}, 5)

		wantDelete(t, b, api.OK, 0)
		wantPut(t, b, api.OK, places, [2]int{1, 2}, 5)
		wantEntry(t, b, places, [2]int{1, 2}, 5)
		wantCount(t, b, places)
		wantPut(t, b, api.ErrFull, 0, [2]int{}, 5)
	}
}

func TestPutNamesTheFirstError(t *testing.T) {
	b := newBase(t, config(2, 1))
	wantPut(t, b, api.ErrDim, 1, [2]int{}, 1<<20+1)
	wantPut(t, b, api.ErrDim, 1, [2]int{}, 0, 0, least)
	wantPut(t, b, api.OK, 1, [2]int{3, 4}, 1, 2)
	wantPut(t, b, api.ErrDim, 2, [2]int{}, 0)
	wantPut(t, b, api.ErrDim, 2, [2]int{}, greatest)
	wantPut(t, b, api.ErrDim, 2, [2]int{})
	wantPut(t, b, api.ErrCoord, 2, [2]int{}, 0, 1<<20+1)
	wantPut(t, b, api.ErrFull, 2, [2]int{}, 0, 1<<20)
	wantPut(t, b, api.ErrDim, 1, [2]int{}, 0)
	wantPut(t, b, api.ErrCoord, 1, [2]int{}, least, 0)
	wantEntry(t, b, 1, [2]int{3, 4}, 1, 2)
	wantNone(t, b, 2)
	wantCount(t, b, 1)
}

func TestPutInPlaceOfOneOfTheSameNumber(t *testing.T) {
	b := newBase(t, config(2, 3))
	wantPut(t, b, api.OK, 1, [2]int{1, 2}, 3, 4)
	wantPut(t, b, api.OK, 2, [2]int{5, 6}, 7, 8)
	wantPut(t, b, api.OK, 1, [2]int{-1, -2}, -3, -4)
	wantCount(t, b, 2)
	wantEntry(t, b, 1, [2]int{-1, -2}, -3, -4)
	wantEntry(t, b, 2, [2]int{5, 6}, 7, 8)
	wantDelete(t, b, api.OK, 1)
	wantNone(t, b, 1)
	wantEntry(t, b, 2, [2]int{5, 6}, 7, 8)
	wantCount(t, b, 1)
}

func TestGetAndDelete(t *testing.T) {
	b := newBase(t, config(1, 4))
	wantPut(t, b, api.OK, 0, [2]int{}, 0)
	wantPut(t, b, api.OK, least, [2]int{greatest, least}, 1)
	wantPut(t, b, api.OK, greatest, [2]int{least, greatest}, 2)
	wantNone(t, b, 1)
	wantDelete(t, b, api.ErrNone, 1)
	wantCount(t, b, 3)
	wantEntry(t, b, 0, [2]int{}, 0)
	wantEntry(t, b, least, [2]int{greatest, least}, 1)
	wantEntry(t, b, greatest, [2]int{least, greatest}, 2)
	for i, id := range []int{least, 0, greatest} {
		wantDelete(t, b, api.OK, id)
		wantNone(t, b, id)
		wantCount(t, b, 2-i)
		wantDelete(t, b, api.ErrNone, id)
		wantCount(t, b, 2-i)
	}
	wantPut(t, b, api.OK, 0, [2]int{1, 1}, 9)
	wantEntry(t, b, 0, [2]int{1, 1}, 9)
	wantCount(t, b, 1)
}

func TestPutTakesAnyDraw(t *testing.T) {
	b := newBase(t, config(1, 5))
	for id, draw := range []uint64{0, 1, 1<<63 - 1, 1 << 63, 1<<64 - 1} {
		if e := b.Put(id, []int{id}, [2]int{id, -id}, draw); e != api.OK {
			t.Errorf("P3: Put(%d) with the draw %d = %d", id, draw, e)
		}
		wantEntry(t, b, id, [2]int{id, -id}, id)
	}
	wantCount(t, b, 5)
}

// A long run of calls is held against a plain map of what must be there.
func TestLongRuns(t *testing.T) {
	for seed := range int64(20) {
		draws := rand.New(rand.NewSource(seed))
		places := 1 + draws.Intn(12)
		b := newBase(t, config(2, places))
		there := map[int]api.Entry{}
		for range 500 {
			id := draws.Intn(16) - 8
			_, known := there[id]
			switch draws.Intn(3) {
			case 0:
				want := api.ErrNone
				if known {
					want = api.OK
				}
				wantDelete(t, b, want, id)
				delete(there, id)
			default:
				x := api.Entry{Id: id, Point: []int{draws.Intn(9), -draws.Intn(9)}, Tags: [2]int{draws.Intn(3), draws.Intn(3)}}
				want := api.OK
				if len(there) == places && !known {
					want = api.ErrFull
				} else {
					there[id] = api.Entry{Id: id, Point: slices.Clone(x.Point), Tags: x.Tags}
				}
				if e := b.Put(id, x.Point, x.Tags, draws.Uint64()); e != want {
					t.Fatalf("P3: Put(%+v) = %d, want %d", x, e, want)
				}
			}
			wantCount(t, b, len(there))
			for id := -8; id < 8; id++ {
				if x, known := there[id]; known {
					wantEntry(t, b, id, x.Tags, x.Point...)
				} else {
					wantNone(t, b, id)
				}
			}
		}
	}
}
