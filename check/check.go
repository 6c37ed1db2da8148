// Package check: whether what is handed in may be.
package check

import (
	"nearby/api"
	"nearby/refusal"
)

// Config tells the first number of a config that a base cannot have.
func Config(c api.Config) error {
	for _, n := range []struct {
		name             string
		value, low, high int
	}{
		{"Dim", c.Dim, 1, api.MaxDim},
		{"Cap", c.Cap, 1, api.MaxCap},
		{"Links", c.Links, api.MinLinks, api.MaxLinks},
		{"Metric", c.Metric, api.Squares, api.Products},
		{"Beam", c.Beam, 1, api.MaxBeam},
		{"Top", c.Top, 0, api.MaxTop},
	} {
		if !within(n.value, n.low, n.high) {
			return refusal.Finding{Thing: n.name, Number: n.value, Err: refusal.Config}
		}
	}
	return nil
}

// Point tells whether a list is a point of dim coordinates. The length goes
// first: a list of another length is no point, whatever its numbers are.
func Point(point []int, dim int) error {
	if len(point) != dim {
		return refusal.Finding{Thing: "length", Number: len(point), Err: refusal.Dim}
	}
	for place, coord := range point {
		if !within(coord, -api.MaxCoord, api.MaxCoord) {
			value := refusal.Finding{Thing: "value", Number: coord, Err: refusal.Coord}
			return refusal.Finding{Thing: "coordinate", Number: place, Err: value}
		}
	}
	return nil
}

func within(n, low, high int) bool {
	return low <= n && n <= high
}
