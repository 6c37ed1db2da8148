package filter_test

import (
	"testing"

	"nearby/api"
	"nearby/filter"
)

func TestEachOp(t *testing.T) {
	const least, greatest = -1 << 63, 1<<63 - 1
	for _, c := range []struct {
		tag, value int
		want       [4]bool
	}{
		{4, 5, [4]bool{false, true, true, false}},
		{5, 5, [4]bool{true, false, false, true}},
		{6, 5, [4]bool{false, true, false, true}},
		{least, greatest, [4]bool{false, true, true, false}},
		{greatest, least, [4]bool{false, true, false, true}},
		{least, least, [4]bool{true, false, false, true}},
	} {
		for op, want := range c.want {
			for tag := range api.Tags {
				tags := [api.Tags]int{77, 77}
				tags[tag] = c.tag
				f := api.Filter{Clauses: [][]api.Cond{{{Tag: tag, Op: op, Value: c.value}}}}
				if filter.Passes(f, tags) != want {
					t.Errorf("tag %d is %d, op %d, value %d: passes is not %t", tag, c.tag, op, c.value, want)
				}
			}
		}
	}
}

func TestOneClauseOfWhichAllConditionsHold(t *testing.T) {
	yes, no := api.Cond{Tag: 0, Op: api.Equal, Value: 1}, api.Cond{Tag: 1, Op: api.Below, Value: 2}
	for _, c := range []struct {
		clauses [][]api.Cond
		want    bool
	}{
		{nil, true},
		{[][]api.Cond{}, true},
		{[][]api.Cond{nil}, true},
		{[][]api.Cond{{}}, true},
		{[][]api.Cond{{yes}}, true},
		{[][]api.Cond{{no}}, false},
		{[][]api.Cond{{yes, no}}, false},
		{[][]api.Cond{{no, yes}}, false},
		{[][]api.Cond{{yes, yes}}, true},
		{[][]api.Cond{{no}, {yes}}, true},
		{[][]api.Cond{{yes}, {no}}, true},
		{[][]api.Cond{{no}, {no, yes}}, false},
		{[][]api.Cond{{no}, nil}, true},
	} {
		if filter.Passes(api.Filter{Clauses: c.clauses}, [api.Tags]int{1, 2}) != c.want {
			t.Errorf("%v: passes is not %t", c.clauses, c.want)
		}
	}
}
