package graph

import "math/bits"

// LevelOf tells the level that comes of a draw: the greatest up to top of
// which the power of links, times the draw, is below 2^64.
func LevelOf(draw uint64, links, top int) int {
	for level := range top {
		beyond, product := bits.Mul64(draw, uint64(links))
		if beyond > 0 {
			return level
		}
		draw = product
	}
	return top
}
