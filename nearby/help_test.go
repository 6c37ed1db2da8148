package nearby_test

import (
	"slices"
	"testing"

	"nearby/api"
	"nearby/nearby"
)

const (
	least    = -1 << 63
	greatest = 1<<63 - 1
)

func newBase(t *testing.T, c api.Config) *nearby.Base {
	t.Helper()
	b, e := nearby.New(c)
	if b == nil || e != api.OK {
		t.Fatalf("P2: New(%+v) = %v, %d, want a base", c, b, e)
	}
	return b
}

func wantPut(t *testing.T, b *nearby.Base, want api.Errno, id int, tags [api.Tags]int, point ...int) {
	t.Helper()
	if e := b.Put(id, point, tags, 0); e != want {
		t.Errorf("P3: Put(%d, %v) = %d, want %d", id, point, e, want)
	}
}

func wantEntry(t *testing.T, b *nearby.Base, id int, tags [api.Tags]int, point ...int) {
	t.Helper()
	x, e := b.Get(id)
	if e != api.OK || x.Id != id || x.Tags != tags || !slices.Equal(x.Point, point) {
		t.Errorf("P3: Get(%d) = %+v, %d, want the tags %v at %v", id, x, e, tags, point)
	}
}

func wantNone(t *testing.T, b *nearby.Base, id int) {
	t.Helper()
	x, e := b.Get(id)
	if e != api.ErrNone || x.Id != 0 || x.Point != nil || x.Tags != [api.Tags]int{} {
		t.Errorf("P3: Get(%d) = %+v, %d, want nothing and %d", id, x, e, api.ErrNone)
	}
}

func wantDelete(t *testing.T, b *nearby.Base, want api.Errno, id int) {
	t.Helper()
	if e := b.Delete(id); e != want {
		t.Errorf("P3: Delete(%d) = %d, want %d", id, e, want)
	}
}

func wantCount(t *testing.T, b *nearby.Base, want int) {
	t.Helper()
	if n := b.Count(); n != want {
		t.Errorf("P3: Count() = %d, want %d", n, want)
	}
}
