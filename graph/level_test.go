package graph_test

import (
	"math/big"
	"math/rand"
	"testing"

	"nearby/api"
	"nearby/graph"
)

func TestLevelsOfTheExamples(t *testing.T) {
	for draw, want := range map[uint64]int{0: 5, 1<<63 - 1: 1, 1 << 63: 0, 1<<64 - 1: 0} {
		if level := graph.LevelOf(draw, 2, 5); level != want {
			t.Errorf("the level of %d is %d, want %d", draw, level, want)
		}
	}
}

func TestLevelsAtEachBound(t *testing.T) {
	draws := rand.New(rand.NewSource(1))
	end := new(big.Int).Lsh(big.NewInt(1), 64)
	for links := api.MinLinks; links <= api.MaxLinks; links++ {
		power := big.NewInt(1)
		for range api.MaxTop + 2 {
			// bound is the least draw of which the product with the power is not below 2^64.
			bound := new(big.Int).Add(end, new(big.Int).Sub(power, big.NewInt(1)))
			bound.Div(bound, power)
			for _, draw := range []uint64{bound.Uint64() - 1, bound.Uint64(), bound.Uint64() + 1, draws.Uint64()} {
				for top := range api.MaxTop + 1 {
					if level, want := graph.LevelOf(draw, links, top), levelByBig(draw, links, top); level != want {
						t.Errorf("links %d, top %d: the level of %d is %d, want %d", links, top, draw, level, want)
					}
				}
			}
			power.Mul(power, big.NewInt(int64(links)))
		}
	}
}

func levelByBig(draw uint64, links, top int) int {
	end := new(big.Int).Lsh(big.NewInt(1), 64)
	level := 0
	for l := range top + 1 {
		power := new(big.Int).Exp(big.NewInt(int64(links)), big.NewInt(int64(l)), nil)
		if power.Mul(power, new(big.Int).SetUint64(draw)).Cmp(end) < 0 {
			level = l
		}
	}
	return level
}
