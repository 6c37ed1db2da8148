package refusal_test

import (
	"errors"
	"testing"

	"nearby/api"
	"nearby/refusal"
)

func TestReasonsAreTheErrnos(t *testing.T) {
	for reason, errno := range map[refusal.Reason]api.Errno{
		refusal.Config: api.ErrConfig,
		refusal.Dim:    api.ErrDim,
		refusal.Coord:  api.ErrCoord,
		refusal.Full:   api.ErrFull,
		refusal.None:   api.ErrNone,
		refusal.Count:  api.ErrCount,
		refusal.Filter: api.ErrFilter,
	} {
		if api.Errno(reason) != errno {
			t.Errorf("reason %d, want %d", reason, errno)
		}
	}
}

func TestAReasonIsFoundBehindWhatWasLookedAt(t *testing.T) {
	inner := refusal.Finding{Thing: "value", Number: -7, Err: refusal.Coord}
	err := error(refusal.Finding{Thing: "coordinate", Number: 2, Err: inner})
	var reason refusal.Reason
	if !errors.As(err, &reason) || reason != refusal.Coord {
		t.Errorf("errors.As finds %d, want %d", reason, refusal.Coord)
	}
	if !errors.Is(err, refusal.Coord) || errors.Is(err, refusal.Dim) {
		t.Error("errors.Is does not tell the reason")
	}
	if got, want := err.Error(), "coordinate 2: value -7: refused with 3"; got != want {
		t.Errorf("%q, want %q", got, want)
	}
}
