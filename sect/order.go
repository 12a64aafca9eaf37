package sect

import "slices"

const custom = 0 // the number of sections that stand anywhere

// order is how far a module's sections have come.
type order struct {
	last int // the place of the last section that isn't custom, 0 ahead of the first
}

// take goes on by one section, or tells that it may not stand there.
func (o *order) take(id int) bool {
	if id == custom {
		return true
	}
	p := place(id)
	if p <= o.last {
		return false
	}
	o.last = p
	return true
}

// place of a section's number among the others, from 1 on; 0: there is no such number.
func place(id int) int {
	return slices.Index([]int{1, 2, 3, 4, 5, 6, 7, 8, 9, 12, 10, 11}, id) + 1
}
