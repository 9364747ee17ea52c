package overlay

import (
	"cmp"
	"slices"
)

// row holds the arcs on one side of a node, by their other ends rising. An arc whose other end has gone may stay in it, not to be seen by anyone: to take each out at once would move a long row for every single neighbour that goes.
type row struct {
	halves []Half
	gone   int // how many of them have an end that has gone
}

// add takes an arc whose other end lies behind those of all others.
func (r *row) add(half Half) {
	r.halves = append(r.halves, half)
}

// find: the place of the arc with this other end, or the place where it would have to stand.
func (r *row) find(node int) (int, bool) {
	return slices.BinarySearchFunc(r.halves, node, func(half Half, node int) int {
		return cmp.Compare(half.Node, node)
	})
}

// set puts an arc in its place, in place of one that is there.
func (r *row) set(half Half) {
	place, there := r.find(half.Node)
	if !there {
		r.halves = slices.Insert(r.halves, place, half)
		return
	}
	r.halves[place] = half
}

// living: the arcs whose other ends are alive, in a list of its own.
func (r *row) living(alive []bool) []Half {
	list := make([]Half, 0, len(r.halves)-r.gone)
	for _, half := range r.halves {
		if alive[half.Node] {
			list = append(list, half)
		}
	}
	return list
}

// lose is told that the other end of one of its arcs has gone. Once most arcs are such ones they are thrown out, so that a row is never longer than twice what is seen of it.
func (r *row) lose(alive []bool) {
	r.gone++
	if 2*r.gone > len(r.halves) {
		r.halves = r.living(alive)
		r.gone = 0
	}
}
