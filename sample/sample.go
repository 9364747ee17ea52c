// Package sample holds what the tests of several packages are made of: graphs, their distances told in the plainest way, lists with spare room, errors held against each other. No layer calls it.
package sample

import (
	"iter"
	"slices"

	"viaduct/api"
	"viaduct/fault"
)

// spareRoom is how many arcs lie behind a list that Roomy makes.
const spareRoom = 3

// SameError: are both nil, or have both the same number and the same places?
func SameError(a, b error) bool {
	return (a == nil) == (b == nil) && fault.Same(a, b)
}

// SameGraph: are the graphs alike?
func SameGraph(a, b api.Graph) bool {
	return a.N == b.N && slices.Equal(a.Arcs, b.Arcs)
}

// Graph: n nodes, and arcs told by their numbers: from, to, weight.
func Graph(n int, arcs ...[3]int) api.Graph {
	g := api.Graph{N: n}
	for _, a := range arcs {
		g.Arcs = append(g.Arcs, api.Arc{From: a[0], To: a[1], Weight: a[2]})
	}
	return g
}

// Roomy: the graph with arcs that no graph may have in the spare room of its list. Room: a copy of that list, spare room too.
func Roomy(g api.Graph) api.Graph {
	arcs := make([]api.Arc, len(g.Arcs), len(g.Arcs)+spareRoom)
	copy(arcs, g.Arcs)
	Spoil(arcs[len(arcs):])
	return api.Graph{N: g.N, Arcs: arcs}
}

func Room(g api.Graph) []api.Arc {
	return slices.Clone(g.Arcs[:cap(g.Arcs)])
}

// Spoil: writes arcs that no graph may have over a list and its spare room.
func Spoil(arcs []api.Arc) {
	arcs = arcs[:cap(arcs)]
	for i := range arcs {
		arcs[i] = api.Arc{From: -7, To: -7, Weight: -7}
	}
}

// All: every graph of n nodes with at most that many arcs, each of one of these weights.
func All(n, most int, weights ...int) iter.Seq[api.Graph] {
	var choice []api.Arc
	for ends := range n * n {
		for _, weight := range weights {
			choice = append(choice, api.Arc{From: ends / n, To: ends % n, Weight: weight})
		}
	}
	return func(yield func(api.Graph) bool) {
		extend(api.Graph{N: n}, choice, most, yield)
	}
}

func extend(g api.Graph, choice []api.Arc, left int, yield func(api.Graph) bool) bool {
	if !yield(api.Graph{N: g.N, Arcs: slices.Clone(g.Arcs)}) {
		return false
	}
	if left == 0 {
		return true
	}
	for _, arc := range choice {
		longer := api.Graph{N: g.N, Arcs: append(slices.Clone(g.Arcs), arc)}
		if !extend(longer, choice, left-1, yield) {
			return false
		}
	}
	return true
}

// Dice tell numbers without a plain rule, the same ones at each run for the same seed.
type Dice struct {
	Seed uint64
}

// Below: a number from 0 to n-1.
func (d *Dice) Below(n int) int {
	d.Seed += 0x9e3779b97f4a7c15
	z := d.Seed
	z = (z ^ z>>30) * 0xbf58476d1ce4e5b9
	z = (z ^ z>>27) * 0x94d049bb133111eb
	return int((z ^ z>>31) % uint64(n))
}

// Graph: a graph of n nodes and m arcs, their weights at most most.
func (d *Dice) Graph(n, m, most int) api.Graph {
	g := api.Graph{N: n}
	for range m {
		g.Arcs = append(g.Arcs, api.Arc{From: d.Below(n), To: d.Below(n), Weight: d.Below(most + 1)})
	}
	return g
}

// Distances: those of a graph, the row's node to the column's, Unreached where there is no walk.
func Distances(g api.Graph) [][]uint64 {
	far := make([][]uint64, g.N)
	for u := range far {
		far[u] = slices.Repeat([]uint64{api.Unreached}, g.N)
		far[u][u] = 0
	}
	for _, arc := range g.Arcs {
		far[arc.From][arc.To] = min(far[arc.From][arc.To], uint64(arc.Weight))
	}
	for v := range far {
		for u := range far {
			for w := range far {
				if far[u][v] != api.Unreached && far[v][w] != api.Unreached {
					far[u][w] = min(far[u][w], far[u][v]+far[v][w])
				}
			}
		}
	}
	return far
}
