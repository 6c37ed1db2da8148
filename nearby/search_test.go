package nearby_test

import (
	"math/rand"
	"slices"
	"testing"

	"nearby/api"
	"nearby/nearby"
)

func wantFound(t *testing.T, b *nearby.Base, point []int, k, beam int, f api.Filter, want ...api.Hit) {
	t.Helper()
	if hits, e := b.Search(point, k, beam, f); e != api.OK || !slices.Equal(hits, want) {
		t.Errorf("P4: Search(%v, %d, %d, %v) = %v, %d, want %v", point, k, beam, f, hits, e, want)
	}
}

func wantRefused(t *testing.T, b *nearby.Base, want api.Errno, point []int, k, beam int, f api.Filter) {
	t.Helper()
	looks := b.Looks()
	if hits, e := b.Search(point, k, beam, f); e != want || len(hits) != 0 {
		t.Errorf("P4: Search(%v, %d, %d, %v) = %v, %d, want nothing and %d", point, k, beam, f, hits, e, want)
	}
	if b.Looks() != looks {
		t.Errorf("P8: a refused Search(%v, %d, %d, %v) adds %d looks", point, k, beam, f, b.Looks()-looks)
	}
}

func oneOf(clauses ...[]api.Cond) api.Filter {
	return api.Filter{Clauses: clauses}
}

func all(conds ...api.Cond) []api.Cond {
	return conds
}

// three is the base of the document's examples.
func three(t *testing.T, metric int) *nearby.Base {
	t.Helper()
	b := newBase(t, api.Config{Dim: 2, Cap: 10, Links: 2, Metric: metric, Beam: 5, Top: 5})
	wantPut(t, b, api.OK, 1, [2]int{0, 0}, 0, 0)
	wantPut(t, b, api.OK, 2, [2]int{1, 0}, 3, 4)
	wantPut(t, b, api.OK, 3, [2]int{1, 5}, 0, 6)
	return b
}

func TestSearchOfTheExamples(t *testing.T) {
	b, origin := three(t, api.Squares), []int{0, 0}
	one, two, third := api.Hit{Id: 1}, api.Hit{Id: 2, Distance: 25}, api.Hit{Id: 3, Distance: 36}
	first := api.Cond{Tag: 0, Op: api.Equal, Value: 1}
	five, nought := api.Cond{Tag: 1, Op: api.NotBelow, Value: 5}, api.Cond{Tag: 0, Op: api.Equal}
	wantFound(t, b, origin, 2, 10, api.Filter{}, one, two)
	wantFound(t, b, origin, 2, 10, oneOf(all(first)), two, third)
	wantFound(t, b, origin, 2, 10, oneOf(all(five), all(nought)), one, third)
	wantFound(t, b, origin, 2, 10, oneOf(all(five, nought)))
	wantFound(t, b, origin, 2, 10, oneOf(all(five, nought), nil), one, two)
	wantFound(t, b, origin, 1, 1, oneOf(all(five)), third)
	wantFound(t, three(t, api.Sums), origin, 3, 1, api.Filter{}, one, api.Hit{Id: 3, Distance: 6}, api.Hit{Id: 2, Distance: 7})
	wantFound(t, three(t, api.Products), []int{1, 1}, 3, 1, api.Filter{}, api.Hit{Id: 2, Distance: -7}, api.Hit{Id: 3, Distance: -6}, one)
}

func TestSearchOfAnEmptyBase(t *testing.T) {
	b := newBase(t, config(1, 3))
	wantFound(t, b, []int{0}, 60, 100, api.Filter{})
	wantPut(t, b, api.OK, 1, [2]int{}, 5)
	wantDelete(t, b, api.OK, 1)
	wantFound(t, b, []int{0}, 1, 1, api.Filter{})
	if n := b.Looks(); n != 0 {
		t.Errorf("P8: %d looks at nothing", n)
	}
}

func TestTheSameDistanceInTheOrderOfNumbers(t *testing.T) {
	b := newBase(t, config(2, 60))
	for _, id := range []int{5, greatest, -1, 9, least, 0} {
		wantPut(t, b, api.OK, id, [2]int{}, 1, 1)
	}
	at := func(id int) api.Hit { return api.Hit{Id: id, Distance: 2} }
	wantFound(t, b, []int{0, 0}, 60, 1, api.Filter{}, at(least), at(-1), at(0), at(5), at(9), at(greatest))
	wantFound(t, b, []int{2, 2}, 2, 6, api.Filter{}, at(least), at(-1))
	wantFound(t, b, []int{0, 2}, 4, 100, api.Filter{}, at(least), at(-1), at(0), at(5))
}

func TestDistancesAtTheFarEnds(t *testing.T) {
	low, high := make([]int, api.MaxDim), make([]int, api.MaxDim)
	fill(low, -api.MaxCoord)
	fill(high, api.MaxCoord)
	for metric, want := range [][2]int{{0, 1 << 45}, {0, 1 << 24}, {-1 << 43, 1 << 43}} {
		b := newBase(t, api.Config{Dim: api.MaxDim, Cap: 2, Links: 8, Metric: metric, Beam: 1, Top: 0})
		wantPut(t, b, api.OK, 1, [2]int{}, low...)
		wantPut(t, b, api.OK, 2, [2]int{}, high...)
		wantFound(t, b, high, 2, 1, api.Filter{}, api.Hit{Id: 2, Distance: want[0]}, api.Hit{Id: 1, Distance: want[1]})
		wantFound(t, b, low, 1, 2, api.Filter{}, api.Hit{Id: 1, Distance: want[0]})
	}
}

func TestSearchWantsAPoint(t *testing.T) {
	for dim := 1; dim <= api.MaxDim; dim++ {
		b := newBase(t, config(dim, 2))
		wantPut(t, b, api.OK, 1, [2]int{}, make([]int, dim)...)
		wantRefused(t, b, api.ErrDim, nil, 1, 1, api.Filter{})
		for n := range api.MaxDim + 3 {
			if n != dim {
				wantRefused(t, b, api.ErrDim, make([]int, n), 1, 1, api.Filter{})
			}
		}
		for place := range dim {
			point := make([]int, dim)
			for _, coord := range []int{-1<<20 - 1, 1<<20 + 1, least, greatest} {
				point[place] = coord
				wantRefused(t, b, api.ErrCoord, point, 1, 1, api.Filter{})
			}
			for _, coord := range []int{-1 << 20, 1 << 20} {
				point[place] = coord
				wantFound(t, b, point, 1, 1, api.Filter{}, api.Hit{Id: 1, Distance: 1 << 40})
			}
		}
	}
}

func TestSearchWantsCounts(t *testing.T) {
	b, point := three(t, api.Squares), []int{0, 0}
	for _, k := range []int{0, -1, 61, 100, least, greatest, 1 << 32, 1<<32 + 1} {
		wantRefused(t, b, api.ErrCount, point, k, 1, api.Filter{})
	}
	for _, beam := range []int{0, -1, 101, least, greatest, 1 << 32, 1<<32 + 1} {
		wantRefused(t, b, api.ErrCount, point, 1, beam, api.Filter{})
	}
	for k := 1; k <= 60; k++ {
		if hits, e := b.Search(point, k, 1, api.Filter{}); e != api.OK || len(hits) != min(k, 3) {
			t.Errorf("P4: Search of %d hits = %v, %d", k, hits, e)
		}
	}
	for beam := 1; beam <= 100; beam++ {
		if hits, e := b.Search(point, 2, beam, api.Filter{}); e != api.OK || len(hits) != 2 {
			t.Errorf("P4: Search with a beam of %d = %v, %d", beam, hits, e)
		}
	}
}

func TestSearchWantsAFilterThatIsNotWrong(t *testing.T) {
	b, point := three(t, api.Squares), []int{0, 0}
	for _, wrong := range []api.Filter{
		oneOf(make([][]api.Cond, 7)...),
		oneOf(make([][]api.Cond, 1000)...),
		oneOf(make([]api.Cond, 7)),
		oneOf(nil, nil, nil, nil, nil, make([]api.Cond, 7)),
		oneOf(all(api.Cond{Tag: 2})),
		oneOf(all(api.Cond{Tag: -1})),
		oneOf(all(api.Cond{Tag: greatest})),
		oneOf(all(api.Cond{Tag: least})),
		oneOf(all(api.Cond{Op: 4})),
		oneOf(all(api.Cond{Op: -1})),
		oneOf(all(api.Cond{Op: greatest})),
		oneOf(all(api.Cond{Op: least})),
		// Wrong behind what passes already, and behind what holds no longer.
		oneOf(nil, all(api.Cond{Tag: 2})),
		oneOf(all(api.Cond{Value: 77}, api.Cond{Op: 4})),
	} {
		wantRefused(t, b, api.ErrFilter, point, 1, 1, wrong)
		wantRefused(t, newBase(t, config(2, 1)), api.ErrFilter, point, 1, 1, wrong)
	}
	for _, right := range []api.Filter{
		{},
		{Clauses: [][]api.Cond{}},
		oneOf(make([][]api.Cond, 6)...),
		oneOf(nil, nil, nil, nil, nil, make([]api.Cond, 6)),
		oneOf(all(api.Cond{Tag: 1, Op: api.NotBelow, Value: least})),
		oneOf(all(api.Cond{Tag: 1, Op: api.Below, Value: greatest})),
	} {
		wantFound(t, b, point, 1, 1, right, api.Hit{Id: 1})
	}
}

func TestSearchNamesTheFirstError(t *testing.T) {
	b, wrong := three(t, api.Squares), oneOf(all(api.Cond{Tag: 2}))
	wantRefused(t, b, api.ErrDim, []int{1 << 21}, 0, 0, wrong)
	wantRefused(t, b, api.ErrDim, []int{0, 0, 0}, 0, 1, wrong)
	wantRefused(t, b, api.ErrDim, nil, 1, 1, wrong)
	wantRefused(t, b, api.ErrCoord, []int{1 << 21, 0}, 0, 0, wrong)
	wantRefused(t, b, api.ErrCoord, []int{0, 1 << 21}, 1, 1, wrong)
	wantRefused(t, b, api.ErrCount, []int{0, 0}, 0, 1, wrong)
	wantRefused(t, b, api.ErrCount, []int{0, 0}, 1, 0, wrong)
	wantRefused(t, b, api.ErrFilter, []int{0, 0}, 1, 1, wrong)
}

func TestSearchSeesWhatWasPutInPlaceAndTakenOut(t *testing.T) {
	b := three(t, api.Squares)
	wantPut(t, b, api.OK, 1, [2]int{1, 1}, 10, 0)
	wantFound(t, b, []int{0, 0}, 3, 1, api.Filter{}, api.Hit{Id: 2, Distance: 25}, api.Hit{Id: 3, Distance: 36}, api.Hit{Id: 1, Distance: 100})
	wantFound(t, b, []int{0, 0}, 3, 1, oneOf(all(api.Cond{Tag: 0, Op: api.Equal, Value: 0})))
	wantDelete(t, b, api.OK, 2)
	wantFound(t, b, []int{0, 0}, 3, 1, api.Filter{}, api.Hit{Id: 3, Distance: 36}, api.Hit{Id: 1, Distance: 100})
	wantPut(t, b, api.ErrCoord, 1, [2]int{}, 1<<21, 0)
	wantDelete(t, b, api.ErrNone, 2)
	wantFound(t, b, []int{0, 0}, 1, 3, api.Filter{}, api.Hit{Id: 3, Distance: 36})
}

// Long runs of calls are held against a plain list of what is there.
func TestSearchIsNeverShortAndExactWhereItMustBe(t *testing.T) {
	for seed := range int64(80) {
		draws := rand.New(rand.NewSource(seed))
		m := newModel(t, draws)
		for range 150 {
			m.change(t, draws)
			m.graph(t)
			m.search(t, draws)
		}
	}
}

// Far apart, nearly all at one point, in order: what links find hard.
func TestSearchOfOddPlaces(t *testing.T) {
	draws := rand.New(rand.NewSource(7))
	for name, place := range map[string]func(id int) int{
		"in order":       func(id int) int { return id },
		"backwards":      func(id int) int { return -id },
		"at one point":   func(id int) int { return 3 },
		"two far groups": func(id int) int { return id%2*2*api.MaxCoord - api.MaxCoord + id },
		"doubling":       func(id int) int { return 1 << (id % 20) },
	} {
		t.Run(name, func(t *testing.T) {
			for metric := range 3 {
				m := modelOf(t, api.Config{Dim: 1, Cap: 60, Links: 2, Metric: metric, Beam: 1, Top: 5})
				for id := range 60 {
					m.put(t, id, []int{min(place(id), api.MaxCoord)}, [2]int{id % 4, id % 7}, draws.Uint64())
					m.graph(t)
				}
				for range 60 {
					m.search(t, draws)
				}
				for id := 0; id < 60; id += 2 {
					m.delete(t, id)
					m.graph(t)
					m.search(t, draws)
				}
			}
		})
	}
}
