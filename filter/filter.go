// Package filter: whether an entry's tags are as wished.
package filter

import "nearby/api"

// Passes tells whether tags pass a filter that is not wrong.
func Passes(f api.Filter, tags [api.Tags]int) bool {
	for _, clause := range f.Clauses {
		if allHold(clause, tags) {
			return true
		}
	}
	return len(f.Clauses) == 0
}

func allHold(clause []api.Cond, tags [api.Tags]int) bool {
	for _, c := range clause {
		if !holds(c, tags[c.Tag]) {
			return false
		}
	}
	return true
}

func holds(c api.Cond, tag int) bool {
	switch c.Op {
	case api.Equal:
		return tag == c.Value
	case api.Unequal:
		return tag != c.Value
	case api.Below:
		return tag < c.Value
	default:
		return tag >= c.Value
	}
}
