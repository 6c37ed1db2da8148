package nearby_test

import (
	"slices"
	"testing"

	"nearby/api"
)

func fill(list []int, n int) {
	for i := range list {
		list[i] = n
	}
}

func TestWhatIsHandedInIsNotKept(t *testing.T) {
	b := newBase(t, config(3, 2))
	for round := range 2 {
		point := []int{round, 2, 3}
		wantPut(t, b, api.OK, 1, [2]int{4, 5}, point...)
		wantPut(t, b, api.OK, 2, [2]int{6, 7}, point...)
		fill(point, 99)
		wantEntry(t, b, 1, [2]int{4, 5}, round, 2, 3)
		wantEntry(t, b, 2, [2]int{6, 7}, round, 2, 3)
	}
}

func TestWhatIsHandedInIsNotChanged(t *testing.T) {
	b := newBase(t, config(2, 1))
	whole := []int{7, 1, 2, 8, 9}
	want := slices.Clone(whole)
	for id, point := range [][]int{whole[1:3], whole[1:3:3], whole[1:2], whole[:0], whole} {
		b.Put(id, point, [2]int{}, 0)
		if !slices.Equal(whole, want) {
			t.Fatalf("P1: behind Put(%d) what was handed in is %v, want %v", id, whole, want)
		}
	}
	b.Get(0)
	b.Put(0, whole[2:4], [2]int{}, 0)
	b.Delete(0)
	if !slices.Equal(whole, want) {
		t.Errorf("P1: what was handed in is %v, want %v", whole, want)
	}
}

func TestWhatComesOutIsNewMemory(t *testing.T) {
	for dim := 1; dim <= api.MaxDim; dim++ {
		b := newBase(t, config(dim, 2))
		point := make([]int, dim, dim+5)
		fill(point, 3)
		if e := b.Put(1, point, [2]int{1, 1}, 0); e != api.OK {
			t.Fatalf("P3: Put = %d", e)
		}
		first, _ := b.Get(1)
		second, _ := b.Get(1)
		fill(first.Point[:cap(first.Point)], 99)
		first.Tags[0] = 99
		wantEntry(t, b, 1, [2]int{1, 1}, point...)
		if !slices.Equal(second.Point, point) {
			t.Errorf("P1: two answers share memory: %v, want %v", second.Point, point)
		}
		spare := second.Point[:cap(second.Point)]
		if slices.Contains(spare, 99) || slices.Contains(point[:cap(point)], 99) {
			t.Errorf("P1: spare room is shared: %v, %v", spare, point[:cap(point)])
		}
	}
}

func TestWhatCameOutStaysAsItWas(t *testing.T) {
	b := newBase(t, config(2, 2))
	wantPut(t, b, api.OK, 1, [2]int{1, 2}, 3, 4)
	x, _ := b.Get(1)
	wantPut(t, b, api.OK, 1, [2]int{5, 6}, 7, 8)
	y, _ := b.Get(1)
	wantDelete(t, b, api.OK, 1)
	wantPut(t, b, api.OK, 2, [2]int{}, 0, 0)
	if !slices.Equal(x.Point, []int{3, 4}) || x.Tags != [2]int{1, 2} {
		t.Errorf("P1: the first answer has become %+v", x)
	}
	if !slices.Equal(y.Point, []int{7, 8}) || y.Tags != [2]int{5, 6} {
		t.Errorf("P1: the second answer has become %+v", y)
	}
}

func TestBasesKnowNothingOfOneAnother(t *testing.T) {
	one, two := newBase(t, config(1, 1)), newBase(t, config(2, 2))
	point := []int{1, 2}
	wantPut(t, one, api.OK, 1, [2]int{1, 1}, point[:1]...)
	wantCount(t, two, 0)
	wantNone(t, two, 1)
	wantPut(t, two, api.OK, 1, [2]int{2, 2}, point...)
	wantPut(t, two, api.OK, 2, [2]int{3, 3}, 5, 6)
	wantPut(t, one, api.ErrFull, 2, [2]int{}, 0)
	wantPut(t, one, api.ErrDim, 1, [2]int{}, 0, 0)
	wantEntry(t, one, 1, [2]int{1, 1}, 1)
	wantEntry(t, two, 1, [2]int{2, 2}, 1, 2)
	wantDelete(t, two, api.OK, 1)
	wantEntry(t, one, 1, [2]int{1, 1}, 1)
	wantCount(t, one, 1)
	wantDelete(t, one, api.OK, 1)
	wantCount(t, one, 0)
	wantEntry(t, two, 2, [2]int{3, 3}, 5, 6)
	wantCount(t, two, 1)

	same := newBase(t, config(2, 2))
	wantCount(t, same, 0)
	wantNone(t, same, 2)
}

func TestARefusalChangesNothing(t *testing.T) {
	b := newBase(t, config(1, 2))
	wantPut(t, b, api.OK, 1, [2]int{1, 2}, 3)
	wantPut(t, b, api.OK, 2, [2]int{4, 5}, 6)
	for range 3 {
		wantPut(t, b, api.ErrDim, 1, [2]int{9, 9})
		wantPut(t, b, api.ErrCoord, 1, [2]int{9, 9}, greatest)
		wantPut(t, b, api.ErrFull, 3, [2]int{9, 9}, 9)
		wantDelete(t, b, api.ErrNone, 3)
		wantNone(t, b, 3)
		wantCount(t, b, 2)
		wantEntry(t, b, 1, [2]int{1, 2}, 3)
		wantEntry(t, b, 2, [2]int{4, 5}, 6)
	}
}

func TestWhatASearchIsHandedIsNotChanged(t *testing.T) {
	b := three(t, api.Squares)
	point := []int{7, 1, 2, 8, 9}
	conds := []api.Cond{{Value: 9}, {Tag: 0, Op: api.Equal, Value: 1}, {Tag: 1, Op: api.Below, Value: 9}, {Value: 8}}
	clauses := [][]api.Cond{nil, conds[1:2], conds[1:3], nil}
	wantPoint, wantConds := slices.Clone(point), slices.Clone(conds)
	for _, k := range []int{1, 60, 0} {
		b.Search(point[1:3], k, 5, api.Filter{Clauses: clauses[1:3]})
		if !slices.Equal(point, wantPoint) || !slices.Equal(conds, wantConds) {
			t.Fatalf("P1: what was handed in is %v, %v", point, conds)
		}
		if clauses[0] != nil || len(clauses[1]) != 1 || len(clauses[2]) != 2 || clauses[3] != nil {
			t.Fatalf("P1: what was handed in is %v", clauses)
		}
	}
}

func TestWhatASearchIsHandedIsNotKept(t *testing.T) {
	b := three(t, api.Squares)
	point, clause := []int{0, 0}, []api.Cond{{Tag: 0, Op: api.Equal, Value: 1}}
	hits, _ := b.Search(point, 1, 1, api.Filter{Clauses: [][]api.Cond{clause}})
	fill(point, 5)
	clause[0] = api.Cond{Tag: 99}
	if !slices.Equal(hits, []api.Hit{{Id: 2, Distance: 25}}) {
		t.Errorf("P1: the hits have become %v", hits)
	}
	wantFound(t, b, []int{0, 0}, 3, 1, api.Filter{}, api.Hit{Id: 1}, api.Hit{Id: 2, Distance: 25}, api.Hit{Id: 3, Distance: 36})
}

func TestHitsAreNewMemory(t *testing.T) {
	b := three(t, api.Squares)
	want := []api.Hit{{Id: 1}, {Id: 2, Distance: 25}, {Id: 3, Distance: 36}}
	for k := 1; k <= 3; k++ {
		one, _ := b.Search([]int{0, 0}, k, 10, api.Filter{})
		two, _ := b.Search([]int{0, 0}, k, 10, api.Filter{})
		spare := one[:cap(one)]
		for i := range spare {
			spare[i] = api.Hit{Id: 99, Distance: 99}
		}
		if !slices.Equal(two, want[:k]) || slices.Contains(two[:cap(two)], api.Hit{Id: 99, Distance: 99}) {
			t.Errorf("P1: two answers share memory: %v", two[:cap(two)])
		}
		wantFound(t, b, []int{0, 0}, 3, 1, api.Filter{}, want...)
	}
}
