// Package check: whether what is handed in may be.
package check

import (
	"nearby/api"
	"nearby/refusal"
)

// Config tells the first number of a config that a base cannot have.
func Config(c api.Config) error {
	for _, n := range []struct {
		name             string
		value, low, high int
	}{
		{"Dim", c.Dim, 1, api.MaxDim},
		{"Cap", c.Cap, 1, api.MaxCap},
		{"Links", c.Links, api.MinLinks, api.MaxLinks},
		{"Metric", c.Metric, api.Squares, api.Products},
		{"Beam", c.Beam, 1, api.MaxBeam},
		{"Top", c.Top, 0, api.MaxTop},
	} {
		if !within(n.value, n.low, n.high) {
			return refusal.Finding{Thing: n.name, Number: n.value, Err: refusal.Config}
		}
	}
	return nil
}

// Point tells whether a list is a point of dim coordinates. The length goes
// first: a list of another length is no point, whatever its numbers are.
func Point(point []int, dim int) error {
	if len(point) != dim {
		return refusal.Finding{Thing: "length", Number: len(point), Err: refusal.Dim}
	}
	for place, coord := range point {
		if !within(coord, -api.MaxCoord, api.MaxCoord) {
			value := refusal.Finding{Thing: "value", Number: coord, Err: refusal.Coord}
			return refusal.Finding{Thing: "coordinate", Number: place, Err: value}
		}
	}
	return nil
}

// Search tells the first of the things a search is asked with that may not
// be: the point, the counts, the filter, in the order of the document.
func Search(point []int, dim, k, beam int, f api.Filter) error {
	if err := Point(point, dim); err != nil {
		return err
	}
	if !within(k, 1, api.MaxCap) {
		return refusal.Finding{Thing: "k", Number: k, Err: refusal.Count}
	}
	if !within(beam, 1, api.MaxBeam) {
		return refusal.Finding{Thing: "beam", Number: beam, Err: refusal.Count}
	}
	return filter(f)
}

func filter(f api.Filter) error {
	if len(f.Clauses) > api.MaxClauses {
		return refusal.Finding{Thing: "clauses", Number: len(f.Clauses), Err: refusal.Filter}
	}
	for place, conds := range f.Clauses {
		if err := clause(conds); err != nil {
			return refusal.Finding{Thing: "clause", Number: place, Err: err}
		}
	}
	return nil
}

func clause(conds []api.Cond) error {
	if len(conds) > api.MaxConds {
		return refusal.Finding{Thing: "conditions", Number: len(conds), Err: refusal.Filter}
	}
	for place, c := range conds {
		if err := condition(c); err != nil {
			return refusal.Finding{Thing: "condition", Number: place, Err: err}
		}
	}
	return nil
}

func condition(c api.Cond) error {
	if !within(c.Tag, 0, api.Tags-1) {
		return refusal.Finding{Thing: "tag", Number: c.Tag, Err: refusal.Filter}
	}
	if !within(c.Op, api.Equal, api.NotBelow) {
		return refusal.Finding{Thing: "op", Number: c.Op, Err: refusal.Filter}
	}
	return nil
}

func within(n, low, high int) bool {
	return low <= n && n <= high
}
