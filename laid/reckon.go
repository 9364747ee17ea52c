package laid

import (
	"slices"

	"viaduct/api"
)

// Bounds are those of a bounded search.
type Bounds struct {
	Most          uint64
	Hops, Settles int
}

// finding is the bounded search as the document's words have it, all nodes gone through at each step.
type finding struct {
	dist    []uint64 // of the labels, Unreached where there is none
	hops    []int
	settled []bool
}

// Seen: for each node the distance of its label at the end of the bounded search from u without skip; Unreached, where it has none.
func (t Told) Seen(u, skip int, b Bounds) []uint64 {
	n := len(t.Alive)
	f := finding{dist: slices.Repeat([]uint64{api.Unreached}, n), hops: make([]int, n), settled: make([]bool, n)}
	f.dist[u] = 0
	for count := 0; count < max(0, b.Settles); count++ {
		least := f.leastOpen()
		if least < 0 || f.dist[least] > b.Most {
			break
		}
		f.settled[least] = true
		if f.hops[least] >= max(0, b.Hops) {
			continue
		}
		for _, half := range t.Out[least] {
			x, d := half.Node, f.dist[least]+half.Weight
			if x != skip && !f.settled[x] && f.dist[x] > d {
				f.dist[x], f.hops[x] = d, f.hops[least]+1
			}
		}
	}
	return f.dist
}

// leastOpen: of the nodes with a label that aren't settled the one to take next; -1, if there is none.
func (f finding) leastOpen() int {
	least := -1
	for v, d := range f.dist {
		if d != api.Unreached && !f.settled[v] && (least < 0 || d < f.dist[least]) {
			least = v
		}
	}
	return least
}

// Distances: those between the alive nodes without skip, the row's node to the column's; Unreached where there is no walk, and wherever a node isn't alive or is skip.
func (t Told) Distances(skip int) [][]uint64 {
	far := make([][]uint64, len(t.Alive))
	for u := range far {
		far[u] = slices.Repeat([]uint64{api.Unreached}, len(far))
		if !t.Alive[u] || u == skip {
			continue
		}
		for _, half := range t.Out[u] {
			if half.Node != skip {
				far[u][half.Node] = half.Weight
			}
		}
		far[u][u] = 0
	}
	for v := range far {
		for u := range far {
			for w := range far {
				if far[u][v] != api.Unreached && far[v][w] != api.Unreached {
					far[u][w] = min(far[u][w], far[u][v]+far[v][w])
				}
			}
		}
	}
	return far
}

// Paths: for each node the lengths of all paths to it from u without skip.
func (t Told) Paths(u, skip int) [][]uint64 {
	lengths := make([][]uint64, len(t.Alive))
	on := make([]bool, len(t.Alive))
	var follow func(v int, length uint64)
	follow = func(v int, length uint64) {
		lengths[v] = append(lengths[v], length)
		on[v] = true
		for _, half := range t.Out[v] {
			if half.Node != skip && !on[half.Node] {
				follow(half.Node, length+half.Weight)
			}
		}
		on[v] = false
	}
	follow(u, 0)
	return lengths
}
