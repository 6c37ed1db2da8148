package nearby_test

import (
	"math/rand"
	"reflect"
	"testing"

	"nearby/api"
)

// picture is what Get, Count, Search and Graph tell of a base.
type picture struct {
	entries []api.Entry
	errnos  []api.Errno
	count   int
	hits    [][]api.Hit
	graph   api.Graph
}

func (m *model) picture() picture {
	draws := rand.New(rand.NewSource(9))
	p := picture{graph: m.base.Graph(), count: m.base.Count()}
	for id := -10; id < 60; id++ {
		x, e := m.base.Get(id)
		p.entries, p.errnos = append(p.entries, x), append(p.errnos, e)
	}
	for range 10 {
		hits, e := m.base.Search(m.point(draws), 1+draws.Intn(5), 1+draws.Intn(5), anyFilter(draws))
		p.hits, p.errnos = append(p.hits, hits), append(p.errnos, e)
	}
	return p
}

// asks are the calls of P7, with answers and with refusals.
func asks() map[string]func(m *model, draws *rand.Rand) {
	return map[string]func(m *model, draws *rand.Rand){
		"Get":   func(m *model, draws *rand.Rand) { m.base.Get(draws.Intn(70) - 10) },
		"Count": func(m *model, draws *rand.Rand) { m.base.Count() },
		"Search": func(m *model, draws *rand.Rand) {
			m.base.Search(m.point(draws), 1+draws.Intn(60), 1+draws.Intn(100), anyFilter(draws))
		},
		"refused Search": func(m *model, draws *rand.Rand) {
			m.base.Search(nil, 1, 1, api.Filter{})
			m.base.Search(m.point(draws), 0, 1, api.Filter{})
			m.base.Search(m.point(draws), 1, 1, oneOf(all(api.Cond{Op: 9})))
		},
		"Graph": func(m *model, draws *rand.Rand) { m.base.Graph() },
		"Looks": func(m *model, draws *rand.Rand) { m.base.Looks() },
	}
}

func TestAskingChangesNothing(t *testing.T) {
	for name, ask := range asks() {
		t.Run(name, func(t *testing.T) {
			draws := rand.New(rand.NewSource(2))
			m := newModel(t, draws)
			for range 100 {
				m.change(t, draws)
				want := m.picture()
				for range 3 {
					ask(m, draws)
					if got := m.picture(); !reflect.DeepEqual(got, want) {
						t.Fatalf("P7: what is told was %+v, and is %+v", want, got)
					}
				}
			}
		})
	}
}

// Of two bases that get the same changes only one is asked in between: so that
// what asking changes for good, or only for changes that come, is seen too.
func TestOneThatIsAskedGoesOnAsOneThatIsNot(t *testing.T) {
	for name, ask := range asks() {
		t.Run(name, func(t *testing.T) {
			draws := rand.New(rand.NewSource(5))
			for seed := range int64(5) {
				quiet, asked := newModel(t, rand.New(rand.NewSource(seed))), newModel(t, rand.New(rand.NewSource(seed)))
				for step := range int64(100) {
					quiet.change(t, rand.New(rand.NewSource(step)))
					asked.change(t, rand.New(rand.NewSource(step)))
					ask(asked, draws)
				}
				want := quiet.picture()
				if got := asked.picture(); !reflect.DeepEqual(got, want) {
					t.Fatalf("P7: one that was asked tells %+v, one that was not %+v", got, want)
				}
			}
		})
	}
}
