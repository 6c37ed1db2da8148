package nearby_test

import (
	"cmp"
	"math/big"
	"math/rand"
	"slices"
	"testing"

	"nearby/api"
	"nearby/nearby"
)

// model is a base, and beside it a plain list of what must be there.
type model struct {
	config api.Config
	base   *nearby.Base
	there  map[int]api.Entry
	levels map[int]int
	came   []int // what the last change has put in
}

func newModel(t *testing.T, draws *rand.Rand) *model {
	t.Helper()
	return modelOf(t, api.Config{
		Dim:    1 + draws.Intn(api.MaxDim),
		Cap:    1 + draws.Intn(api.MaxCap),
		Links:  api.MinLinks + draws.Intn(api.MaxLinks-api.MinLinks+1),
		Metric: draws.Intn(3),
		Beam:   1 + draws.Intn(12),
		Top:    draws.Intn(api.MaxTop + 1),
	})
}

func modelOf(t *testing.T, c api.Config) *model {
	t.Helper()
	return &model{config: c, base: newBase(t, c), there: map[int]api.Entry{}, levels: map[int]int{}}
}

func (m *model) put(t *testing.T, id int, point []int, tags [2]int, draw uint64) {
	t.Helper()
	_, known := m.there[id]
	want := api.OK
	if !known && len(m.there) == m.config.Cap {
		want = api.ErrFull
	} else {
		m.there[id] = api.Entry{Id: id, Point: slices.Clone(point), Tags: tags}
		m.levels[id] = levelOf(draw, m.config.Links, m.config.Top)
	}
	if e := m.base.Put(id, point, tags, draw); e != want {
		t.Fatalf("P3: Put(%d, %v) = %d, want %d", id, point, e, want)
	}
	m.came = []int{id}
	if want != api.OK {
		m.came = nil
	}
}

func (m *model) delete(t *testing.T, id int) {
	t.Helper()
	want := api.ErrNone
	if _, known := m.there[id]; known {
		want = api.OK
	}
	delete(m.there, id)
	delete(m.levels, id)
	m.came = nil
	if e := m.base.Delete(id); e != want {
		t.Fatalf("P3: Delete(%d) = %d, want %d", id, e, want)
	}
}

// change puts an entry in or takes one out.
func (m *model) change(t *testing.T, draws *rand.Rand) {
	t.Helper()
	id := draws.Intn(70) - 10
	if draws.Intn(4) == 0 {
		m.delete(t, id)
		return
	}
	m.put(t, id, m.point(draws), [2]int{draws.Intn(4), draws.Intn(4)}, draws.Uint64()>>draws.Intn(20))
}

func (m *model) point(draws *rand.Rand) []int {
	point := make([]int, m.config.Dim)
	for i := range point {
		point[i] = draws.Intn(25) - 12
	}
	return point
}

// search asks for something, and holds the answer against P4, P5 and P8.
func (m *model) search(t *testing.T, draws *rand.Rand) {
	t.Helper()
	point, k, beam, f := m.point(draws), 1+draws.Intn(10), 1+draws.Intn(40), anyFilter(draws)
	if draws.Intn(5) == 0 {
		k, beam = 1+draws.Intn(api.MaxCap), 1+draws.Intn(3)
	}
	passing := m.passing(point, f)
	looks := m.base.Looks()
	hits, e := m.base.Search(point, k, beam, f)
	looks = m.base.Looks() - looks
	if e != api.OK || len(hits) != min(k, len(passing)) {
		t.Fatalf("P4: Search(%v, %d, %d, %v) = %v, %d, of %v", point, k, beam, f, hits, e, passing)
	}
	if looks < len(hits) || looks > m.places() {
		t.Fatalf("P8: %d looks for %d hits, at %d places", looks, len(hits), m.places())
	}
	if len(passing) <= max(k, beam) && !slices.Equal(hits, passing[:len(hits)]) {
		t.Fatalf("P5: Search(%v, %d, %d, %v) = %v, of %v", point, k, beam, f, hits, passing)
	}
	for i, h := range hits {
		if !slices.Contains(passing, h) || i > 0 && compareHits(hits[i-1], h) >= 0 {
			t.Fatalf("P4: Search(%v, %d, %d, %v) = %v, of %v", point, k, beam, f, hits, passing)
		}
	}
}

// passing tells all the entries that pass, the nearer ahead.
func (m *model) passing(point []int, f api.Filter) []api.Hit {
	var hits []api.Hit
	for id, entry := range m.there {
		if passes(f, entry.Tags) {
			hits = append(hits, api.Hit{Id: id, Distance: distanceOf(m.config.Metric, point, entry.Point)})
		}
	}
	slices.SortFunc(hits, compareHits)
	return hits
}

// places tells how many places of entries on layers there are.
func (m *model) places() int {
	n := 0
	for _, level := range m.levels {
		n += level + 1
	}
	return n
}

func compareHits(a, b api.Hit) int {
	return cmp.Or(cmp.Compare(a.Distance, b.Distance), cmp.Compare(a.Id, b.Id))
}

func distanceOf(metric int, a, b []int) int {
	d := 0
	for i := range a {
		x := a[i] - b[i]
		d += [...]int{x * x, max(x, -x), -a[i] * b[i]}[metric]
	}
	return d
}

func passes(f api.Filter, tags [2]int) bool {
	one := len(f.Clauses) == 0
	for _, clause := range f.Clauses {
		all := true
		for _, c := range clause {
			tag := tags[c.Tag]
			all = all && [...]bool{tag == c.Value, tag != c.Value, tag < c.Value, tag >= c.Value}[c.Op]
		}
		one = one || all
	}
	return one
}

func anyFilter(draws *rand.Rand) api.Filter {
	var f api.Filter
	for range draws.Intn(4) {
		var clause []api.Cond
		for range draws.Intn(4) {
			clause = append(clause, api.Cond{Tag: draws.Intn(2), Op: draws.Intn(4), Value: draws.Intn(5)})
		}
		f.Clauses = append(f.Clauses, clause)
	}
	return f
}

func levelOf(draw uint64, links, top int) int {
	end := new(big.Int).Lsh(big.NewInt(1), 64)
	level, product := 0, new(big.Int).SetUint64(draw)
	for l := 1; l <= top; l++ {
		if product.Mul(product, big.NewInt(int64(links))).Cmp(end) < 0 {
			level = l
		}
	}
	return level
}
