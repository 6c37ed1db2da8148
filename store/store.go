// Package store: the entries of a base, by their numbers.
package store

import (
	"errors"
	"slices"

	"nearby/api"
	"nearby/refusal"
)

// Store holds entries, at most as many as it has places.
type Store struct {
	places  int
	entries map[int]api.Entry
}

// New makes an empty store.
func New(places int) *Store {
	return &Store{places: places, entries: map[int]api.Entry{}}
}

// Put puts an entry in, in place of one of its number.
func (s *Store) Put(e api.Entry) error {
	if err := s.room(e.Id); err != nil {
		return err
	}
	s.entries[e.Id] = copied(e)
	return nil
}

// Get tells the entry of a number.
func (s *Store) Get(id int) (api.Entry, error) {
	e, err := s.find(id)
	if err != nil {
		return api.Entry{}, err
	}
	return copied(e), nil
}

// Peek tells the entry of a number as it is kept, not a copy: to be read while
// the call that asks goes on, and neither changed nor handed out.
func (s *Store) Peek(id int) api.Entry {
	return s.entries[id]
}

// Delete takes the entry of a number out.
func (s *Store) Delete(id int) error {
	if _, err := s.find(id); err != nil {
		return err
	}
	delete(s.entries, id)
	return nil
}

// Count tells how many entries there are.
func (s *Store) Count() int {
	return len(s.entries)
}

// room tells whether an entry of this number may come in. One that is there
// makes way for it, so only a number that is not there needs a free place.
func (s *Store) room(id int) error {
	_, err := s.find(id)
	if errors.Is(err, refusal.None) && s.Count() >= s.places {
		return refusal.Finding{Thing: "entry", Number: id, Err: refusal.Full}
	}
	return nil
}

func (s *Store) find(id int) (api.Entry, error) {
	e, there := s.entries[id]
	if !there {
		return api.Entry{}, refusal.Finding{Thing: "entry", Number: id, Err: refusal.None}
	}
	return e, nil
}

// copied gives an entry memory of its own: neither who hands one in nor who
// is told one may reach what is kept.
func copied(e api.Entry) api.Entry {
	e.Point = slices.Clone(e.Point)
	return e
}
