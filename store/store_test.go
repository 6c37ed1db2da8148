package store_test

import (
	"errors"
	"testing"

	"nearby/api"
	"nearby/refusal"
	"nearby/store"
)

func TestErrorsAreWrappedByTheEntrysNumber(t *testing.T) {
	s := store.New(1)
	if err := s.Put(api.Entry{Id: 1, Point: []int{2}}); err != nil {
		t.Fatalf("P3: %v", err)
	}
	_, got := s.Get(8)
	for _, c := range []struct {
		err  error
		want refusal.Reason
	}{
		{s.Put(api.Entry{Id: 8, Point: []int{2}}), refusal.Full},
		{got, refusal.None},
		{s.Delete(8), refusal.None},
	} {
		var found refusal.Finding
		if !errors.Is(c.err, c.want) || !errors.As(c.err, &found) || found.Thing != "entry" || found.Number != 8 {
			t.Errorf("P3: %v, want entry 8: %v", c.err, c.want)
		}
	}
	if err := s.Put(api.Entry{Id: 1, Point: []int{3}}); err != nil || s.Count() != 1 {
		t.Errorf("P3: Put of one that is there: %v, of %d", err, s.Count())
	}
}

func TestPeekTellsWhatIsKept(t *testing.T) {
	s := store.New(1)
	point := []int{2, 3}
	if err := s.Put(api.Entry{Id: 1, Point: point, Tags: [api.Tags]int{4, 5}}); err != nil {
		t.Fatalf("P3: %v", err)
	}
	point[0] = 99
	if e := s.Peek(1); e.Id != 1 || e.Point[0] != 2 || e.Point[1] != 3 || e.Tags != [api.Tags]int{4, 5} {
		t.Errorf("P3: %v is kept", e)
	}
}
