package nearby

import (
	"testing"

	"nearby/api"
)

func TestTheDrawGivesTheLevel(t *testing.T) {
	for _, c := range []struct {
		draw       uint64
		links, top int
		want       int
	}{
		{0, 2, 5, 5},
		{0, 2, 3, 3},
		{0, 8, 0, 0},
		{1<<63 - 1, 2, 5, 1},
		{1 << 63, 2, 5, 0},
		{1<<64 - 1, 2, 5, 0},
		{1<<61 - 1, 8, 5, 1},
		{1<<61 - 1, 2, 5, 3},
		{1<<61 - 1, 2, 2, 2},
	} {
		b, _ := New(api.Config{Dim: 1, Cap: 3, Links: c.links, Beam: 1, Top: c.top})
		b.Put(7, []int{0}, [api.Tags]int{}, 1<<63)
		b.Put(7, []int{0}, [api.Tags]int{}, c.draw)
		if level := b.graph.Level(7); level != c.want {
			t.Errorf("links %d, top %d: the level of %d is %d, want %d", c.links, c.top, c.draw, level, c.want)
		}
	}
}

// Put finds as many as the config's beam is wide, and links the new entry to
// as many of these as Links says.
func TestTheConfigGivesTheLinks(t *testing.T) {
	for _, c := range []struct{ links, beam, want int }{{2, 1, 1}, {2, 2, 2}, {2, 9, 2}, {8, 3, 3}, {8, 100, 8}} {
		b, _ := New(api.Config{Dim: 1, Cap: 60, Links: c.links, Beam: c.beam})
		for id := range 12 {
			b.Put(id, []int{10 * id}, [api.Tags]int{}, 0)
		}
		b.Put(99, []int{55}, [api.Tags]int{}, 0)
		if linked := b.graph.Linked(99, 0); len(linked) != c.want {
			t.Errorf("links %d, beam %d: the new entry has the links %v, want %d", c.links, c.beam, linked, c.want)
		}
	}
}

func TestWhatIsGoneIsNotInTheGraph(t *testing.T) {
	b, _ := New(api.Config{Dim: 1, Cap: 60, Links: 2, Beam: 5, Top: 5})
	for id := range 20 {
		b.Put(id, []int{id}, [api.Tags]int{}, 1<<60)
	}
	for id := range 20 {
		b.Delete(id)
		if level := b.graph.Level(id); level != -1 {
			t.Errorf("P3: entry %d still stands up to layer %d", id, level)
		}
	}
	if entrance, there := b.graph.Entrance(); there {
		t.Errorf("P6: an empty base has the entrance %d", entrance)
	}
}
