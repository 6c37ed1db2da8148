// Package nearby: what is nearest to a point, found along links: see DOC.md.
package nearby

import (
	"errors"

	"nearby/api"
	"nearby/check"
	"nearby/refusal"
	"nearby/store"
)

// Base is a base of entries.
type Base struct {
	config  api.Config
	entries *store.Store
}

// New makes an empty base (P2).
func New(c api.Config) (*Base, api.Errno) {
	if err := check.Config(c); err != nil {
		return nil, errnoOf(err)
	}
	return &Base{config: c, entries: store.New(c.Cap)}, api.OK
}

// Put puts an entry in (P3).
func (b *Base) Put(id int, point []int, tags [api.Tags]int, draw uint64) api.Errno {
	if err := check.Point(point, b.config.Dim); err != nil {
		return errnoOf(err)
	}
	return errnoOf(b.entries.Put(api.Entry{Id: id, Point: point, Tags: tags}))
}

// Get tells an entry (P3).
func (b *Base) Get(id int) (api.Entry, api.Errno) {
	e, err := b.entries.Get(id)
	return e, errnoOf(err)
}

// Delete takes an entry out (P3).
func (b *Base) Delete(id int) api.Errno {
	return errnoOf(b.entries.Delete(id))
}

// Count tells how many entries there are (P3).
func (b *Base) Count() int {
	return b.entries.Count()
}

// Search tells the nearest entries (P4, P5).
func (b *Base) Search(point []int, k int, beam int, f api.Filter) ([]api.Hit, api.Errno) {
	return nil, api.OK
}

// Graph tells the links (P6).
func (b *Base) Graph() api.Graph { return api.Graph{} }

// Looks tells how often distances were worked out (P8).
func (b *Base) Looks() int { return 0 }

// errnoOf asks what came up for the Errno that the call answers. Every error
// of the program has a Reason at its bottom; where nothing came up, there is none.
func errnoOf(err error) api.Errno {
	var reason refusal.Reason
	if errors.As(err, &reason) {
		return api.Errno(reason)
	}
	return api.OK
}
