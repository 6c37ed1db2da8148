// Package refusal: what may not be, as values of error that go up to the face.
package refusal

import (
	"strconv"

	"nearby/api"
)

// Reason is why a call is refused: the Errno that the call answers, as an error.
type Reason api.Errno

const (
	Config = Reason(api.ErrConfig)
	Dim    = Reason(api.ErrDim)
	Coord  = Reason(api.ErrCoord)
	Full   = Reason(api.ErrFull)
	None   = Reason(api.ErrNone)
	Count  = Reason(api.ErrCount)
	Filter = Reason(api.ErrFilter)
)

func (r Reason) Error() string {
	return "refused with " + strconv.Itoa(int(r))
}

// Finding wraps an error by what was looked at: a thing and its number.
type Finding struct {
	Thing  string
	Number int
	Err    error
}

func (f Finding) Error() string {
	return f.Thing + " " + strconv.Itoa(f.Number) + ": " + f.Err.Error()
}

// Unwrap lets errors.Is and errors.As see the reason behind what was looked at.
func (f Finding) Unwrap() error {
	return f.Err
}
