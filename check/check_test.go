package check_test

import (
	"errors"
	"testing"

	"nearby/api"
	"nearby/check"
	"nearby/refusal"
)

func TestConfigTellsTheFirstWrongNumber(t *testing.T) {
	good := api.Config{Dim: 1, Cap: 1, Links: 2, Beam: 1}
	if err := check.Config(good); err != nil {
		t.Errorf("P2: %v", err)
	}
	good.Cap, good.Top = 61, -1
	err := check.Config(good)
	var found refusal.Finding
	if !errors.Is(err, refusal.Config) || !errors.As(err, &found) || found.Thing != "Cap" || found.Number != 61 {
		t.Errorf("P2: %v, want Cap 61", err)
	}
}

func TestPointTellsWhatWasLookedAt(t *testing.T) {
	for _, c := range []struct {
		point []int
		want  string
	}{
		{nil, "length 0: refused with 2"},
		{[]int{1, 2, 1 << 21}, "length 3: refused with 2"},
		{[]int{1 << 20, 1<<20 + 1}, "coordinate 1: value 1048577: refused with 3"},
		{[]int{-1<<20 - 1, 1 << 30}, "coordinate 0: value -1048577: refused with 3"},
	} {
		if err := check.Point(c.point, 2); err == nil || err.Error() != c.want {
			t.Errorf("P3: Point(%v) = %v, want %s", c.point, err, c.want)
		}
	}
	if err := check.Point([]int{1 << 20, -1 << 20}, 2); err != nil {
		t.Errorf("P3: %v", err)
	}
}

func TestSearchTellsWhatWasLookedAt(t *testing.T) {
	good, bad := []int{0, 0}, []api.Cond{{}, {Tag: 2}}
	for _, c := range []struct {
		point   []int
		k, beam int
		clauses [][]api.Cond
		want    string
	}{
		{[]int{1 << 21}, 0, 0, [][]api.Cond{bad}, "length 1: refused with 2"},
		{[]int{0, 1 << 21}, 0, 0, [][]api.Cond{bad}, "coordinate 1: value 2097152: refused with 3"},
		{good, 0, 0, [][]api.Cond{bad}, "k 0: refused with 6"},
		{good, 61, 0, nil, "k 61: refused with 6"},
		{good, 60, 0, [][]api.Cond{bad}, "beam 0: refused with 6"},
		{good, 1, 101, nil, "beam 101: refused with 6"},
		{good, 1, 1, make([][]api.Cond, 7), "clauses 7: refused with 7"},
		{good, 1, 1, [][]api.Cond{nil, make([]api.Cond, 7)}, "clause 1: conditions 7: refused with 7"},
		{good, 1, 1, [][]api.Cond{nil, nil, bad}, "clause 2: condition 1: tag 2: refused with 7"},
		{good, 1, 1, [][]api.Cond{{{Tag: -1, Op: 4}}}, "clause 0: condition 0: tag -1: refused with 7"},
		{good, 1, 1, [][]api.Cond{{{Tag: 1, Op: 4}}}, "clause 0: condition 0: op 4: refused with 7"},
		{good, 1, 1, [][]api.Cond{{{Op: -1}}}, "clause 0: condition 0: op -1: refused with 7"},
	} {
		if err := check.Search(c.point, 2, c.k, c.beam, api.Filter{Clauses: c.clauses}); err == nil || err.Error() != c.want {
			t.Errorf("P4: Search(%v, %d, %d, %v) = %v, want %s", c.point, c.k, c.beam, c.clauses, err, c.want)
		}
	}
	for _, clauses := range [][][]api.Cond{nil, make([][]api.Cond, 6), {make([]api.Cond, 6)}, {{{Tag: 1, Op: 3, Value: -1 << 63}}}} {
		if err := check.Search(good, 2, 60, 100, api.Filter{Clauses: clauses}); err != nil {
			t.Errorf("P4: %v", err)
		}
	}
}
