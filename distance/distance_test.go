package distance_test

import (
	"testing"

	"nearby/api"
	"nearby/distance"
)

func TestOfEachMetric(t *testing.T) {
	const far = api.MaxCoord
	for _, c := range []struct {
		a, b []int
		want [3]int
	}{
		{[]int{0, 0}, []int{3, 4}, [3]int{25, 7, 0}},
		{[]int{1, 1}, []int{3, 4}, [3]int{13, 5, -7}},
		{[]int{1, 1}, []int{0, 6}, [3]int{26, 6, -6}},
		{[]int{-2, 5}, []int{3, -4}, [3]int{106, 14, 26}},
		{[]int{7}, []int{7}, [3]int{0, 0, -49}},
		{[]int{-far}, []int{far}, [3]int{1 << 42, 1 << 21, 1 << 40}},
		{
			[]int{far, far, far, far, far, far, far, far},
			[]int{-far, -far, -far, -far, -far, -far, -far, -far},
			[3]int{1 << 45, 1 << 24, 1 << 43},
		},
	} {
		for metric, want := range c.want {
			if d := distance.Of(metric, c.a, c.b); d != want {
				t.Errorf("metric %d of %v and %v: %d, want %d", metric, c.a, c.b, d, want)
			}
			if d := distance.Of(metric, c.b, c.a); d != want {
				t.Errorf("metric %d of %v and %v: %d, want %d", metric, c.b, c.a, d, want)
			}
		}
	}
}

func TestTheNearerGoesAhead(t *testing.T) {
	inOrder := []api.Hit{{Id: 9, Distance: -1 << 43}, {Id: -1 << 63, Distance: 0}, {Id: -1, Distance: 0}, {Id: 3, Distance: 0}, {Id: 1<<63 - 1, Distance: 0}, {Id: 0, Distance: 1}}
	for i, a := range inOrder {
		for j, b := range inOrder {
			if distance.Nearer(a, b) != (i < j) || distance.Farther(a, b) != (i > j) || distance.Compare(a, b) == 0 != (i == j) {
				t.Errorf("%v and %v stand in the wrong order", a, b)
			}
		}
	}
}
