package nearby_test

import (
	"testing"

	"nearby/api"
	"nearby/nearby"
)

func TestNewTakesEachNumberInItsRangeOnly(t *testing.T) {
	for _, number := range []struct {
		name      string
		of        func(c *api.Config) *int
		low, high int
	}{
		{"Dim", func(c *api.Config) *int { return &c.Dim }, 1, 8},
		{"Cap", func(c *api.Config) *int { return &c.Cap }, 1, 60},
		{"Links", func(c *api.Config) *int { return &c.Links }, 2, 8},
		{"Metric", func(c *api.Config) *int { return &c.Metric }, 0, 2},
		{"Beam", func(c *api.Config) *int { return &c.Beam }, 1, 100},
		{"Top", func(c *api.Config) *int { return &c.Top }, 0, 5},
	} {
		t.Run(number.name, func(t *testing.T) {
			for n := number.low; n <= number.high; n++ {
				c := api.Config{Dim: 3, Cap: 7, Links: 4, Metric: 1, Beam: 9, Top: 2}
				*number.of(&c) = n
				wantEmpty(t, newBase(t, c))
			}
			for _, n := range []int{number.low - 1, number.high + 1, -number.high, least, greatest, 1 << 32} {
				c := api.Config{Dim: 3, Cap: 7, Links: 4, Metric: 1, Beam: 9, Top: 2}
				*number.of(&c) = n
				wantNoBase(t, c)
			}
		})
	}
}

func TestNewAtAllLowAndAllHighEnds(t *testing.T) {
	wantEmpty(t, newBase(t, api.Config{Dim: 1, Cap: 1, Links: 2, Metric: 0, Beam: 1, Top: 0}))
	wantEmpty(t, newBase(t, api.Config{Dim: 8, Cap: 60, Links: 8, Metric: 2, Beam: 100, Top: 5}))
	wantNoBase(t, api.Config{})
	wantNoBase(t, api.Config{Dim: 9, Cap: 61, Links: 9, Metric: 3, Beam: 101, Top: 6})
}

func wantEmpty(t *testing.T, b *nearby.Base) {
	t.Helper()
	wantCount(t, b, 0)
	for _, id := range []int{0, 1, -1, least, greatest} {
		wantNone(t, b, id)
		wantDelete(t, b, api.ErrNone, id)
	}
	wantCount(t, b, 0)
}

func wantNoBase(t *testing.T, c api.Config) {
	t.Helper()
	if b, e := nearby.New(c); b != nil || e != api.ErrConfig {
		t.Errorf("P2: New(%+v) = %v, %d, want nil and %d", c, b, e, api.ErrConfig)
	}
}
