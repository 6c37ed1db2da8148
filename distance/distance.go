// Package distance: how far points are from one another, and which entry is nearer.
package distance

import (
	"cmp"

	"nearby/api"
)

// Of tells the distance of two points of the same length, by a metric.
func Of(metric int, a, b []int) int {
	sum := 0
	for i := range a {
		sum += part(metric, a[i], b[i])
	}
	return sum
}

// part is what one coordinate adds to a distance.
func part(metric, a, b int) int {
	switch metric {
	case api.Squares:
		return (a - b) * (a - b)
	case api.Sums:
		return max(a-b, b-a)
	default:
		return -a * b
	}
}

// Nearer tells whether a is nearer than b.
func Nearer(a, b api.Hit) bool {
	return Compare(a, b) < 0
}

// Farther tells whether b is nearer than a.
func Farther(a, b api.Hit) bool {
	return Compare(a, b) > 0
}

// Compare puts the nearer ahead. No two entries are equally near: where the
// distances are the same, the numbers decide.
func Compare(a, b api.Hit) int {
	return cmp.Or(cmp.Compare(a.Distance, b.Distance), cmp.Compare(a.Id, b.Id))
}
