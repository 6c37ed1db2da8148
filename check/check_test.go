package check_test

import (
	"errors"
	"testing"

	"nearby/api"
	"nearby/check"
	"nearby/refusal"
)

func TestConfigTellsTheFirstWrongNumber(t *testing.T) {
	good := api.Config{Dim: 1, Cap: 1, Links: 2, Beam: 1}
	if err := check.Config(good); err != nil {
		t.Errorf("P2: %v", err)
	}
	good.Cap, good.Top = 61, -1
	err := check.Config(good)
	var found refusal.Finding
	if !errors.Is(err, refusal.Config) || !errors.As(err, &found) || found.Thing != "Cap" || found.Number != 61 {
		t.Errorf("P2: %v, want Cap 61", err)
	}
}

func TestPointTellsWhatWasLookedAt(t *testing.T) {
	for _, c := range []struct {
		point []int
		want  string
	}{
		{nil, "length 0: refused with 2"},
		{[]int{1, 2, 1 << 21}, "length 3: refused with 2"},
		{[]int{1 << 20, 1<<20 + 1}, "coordinate 1: value 1048577: refused with 3"},
		{[]int{-1<<20 - 1, 1 << 30}, "coordinate 0: value -1048577: refused with 3"},
	} {
		if err := check.Point(c.point, 2); err == nil || err.Error() != c.want {
			t.Errorf("P3: Point(%v) = %v, want %s", c.point, err, c.want)
		}
	}
	if err := check.Point([]int{1 << 20, -1 << 20}, 2); err != nil {
		t.Errorf("P3: %v", err)
	}
}
