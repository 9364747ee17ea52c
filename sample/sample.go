// Package sample holds what the tests of several packages are made of: graphs, their distances told in the plainest way, lists with spare room, errors held against each other. No layer calls it.
package sample

import (
	"iter"
	"math"
	"slices"

	"viaduct/api"
	"viaduct/fault"
)

// spareRoom is how many elements lie behind a list that is made roomy: more than a call puts behind a list that it should have copied.
const spareRoom = 9

// SameError: are both nil, or have both the same number and the same places?
func SameError(a, b error) bool {
	return (a == nil) == (b == nil) && fault.Same(a, b)
}

// SameGraph: are the graphs alike?
func SameGraph(a, b api.Graph) bool {
	return a.N == b.N && slices.Equal(a.Arcs, b.Arcs)
}

// Graph: n nodes, and arcs told by their numbers: from, to, weight.
func Graph(n int, arcs ...[3]int) api.Graph {
	g := api.Graph{N: n}
	for _, a := range arcs {
		g.Arcs = append(g.Arcs, api.Arc{From: a[0], To: a[1], Weight: a[2]})
	}
	return g
}

// Roomy: the graph with arcs that no graph may have in the spare room of its list. Room: a copy of that list, spare room too.
func Roomy(g api.Graph) api.Graph {
	return api.Graph{N: g.N, Arcs: RoomyList(g.Arcs, oddArc())}
}

func Room(g api.Graph) []api.Arc {
	return RoomOf(g.Arcs)
}

// Spoil: writes arcs that no graph may have over a list and its spare room.
func Spoil(arcs []api.Arc) {
	SpoilList(arcs, oddArc())
}

// RoomyList, RoomOf, SpoilList: the same for lists of any kind.
func RoomyList[T any](list []T, odd T) []T {
	roomy := make([]T, len(list), len(list)+spareRoom)
	copy(roomy, list)
	SpoilList(roomy[len(roomy):], odd)
	return roomy
}

func RoomOf[T any](list []T) []T {
	return slices.Clone(list[:cap(list)])
}

func SpoilList[T any](list []T, odd T) {
	list = list[:cap(list)]
	for i := range list {
		list[i] = odd
	}
}

func oddArc() api.Arc {
	return api.Arc{From: -7, To: -7, Weight: -7}
}

// All: every graph of n nodes with at most that many arcs, each of one of these weights.
func All(n, most int, weights ...int) iter.Seq[api.Graph] {
	var choice []api.Arc
	for ends := range n * n {
		for _, weight := range weights {
			choice = append(choice, api.Arc{From: ends / n, To: ends % n, Weight: weight})
		}
	}
	return func(yield func(api.Graph) bool) {
		extend(api.Graph{N: n}, choice, most, yield)
	}
}

func extend(g api.Graph, choice []api.Arc, left int, yield func(api.Graph) bool) bool {
	if !yield(api.Graph{N: g.N, Arcs: slices.Clone(g.Arcs)}) {
		return false
	}
	if left == 0 {
		return true
	}
	for _, arc := range choice {
		longer := api.Graph{N: g.N, Arcs: append(slices.Clone(g.Arcs), arc)}
		if !extend(longer, choice, left-1, yield) {
			return false
		}
	}
	return true
}

// Dice tell numbers without a plain rule, the same ones at each run for the same seed.
type Dice struct {
	Seed uint64
}

// Below: a number from 0 to n-1.
func (d *Dice) Below(n int) int {
	d.Seed += 0x9e3779b97f4a7c15
	z := d.Seed
	z = (z ^ z>>30) * 0xbf58476d1ce4e5b9
	z = (z ^ z>>27) * 0x94d049bb133111eb
	return int((z ^ z>>31) % uint64(n))
}

// Graph: a graph of n nodes and m arcs, their weights at most most.
func (d *Dice) Graph(n, m, most int) api.Graph {
	g := api.Graph{N: n}
	for range m {
		g.Arcs = append(g.Arcs, api.Arc{From: d.Below(n), To: d.Below(n), Weight: d.Below(most + 1)})
	}
	return g
}

// Bytes: n bytes.
func (d *Dice) Bytes(n int) []byte {
	list := make([]byte, n)
	for i := range list {
		list[i] = byte(d.Below(1 << 8))
	}
	return list
}

// Turned: a copy with some of 32 neighbouring bits turned over, from the bit i on (of each byte the lowest first): those that are 1 in bits. What lies beyond the end is left out.
func Turned(p []byte, i int, bits uint32) []byte {
	q := slices.Clone(p)
	for k := range 32 {
		if at := i + k; bits>>k&1 == 1 && at < 8*len(q) {
			q[at/8] ^= 1 << (at % 8)
		}
	}
	return q
}

// Distances: those of a graph, the row's node to the column's, Unreached where there is no walk.
func Distances(g api.Graph) [][]uint64 {
	far := make([][]uint64, g.N)
	for u := range far {
		far[u] = slices.Repeat([]uint64{api.Unreached}, g.N)
		far[u][u] = 0
	}
	for _, arc := range g.Arcs {
		far[arc.From][arc.To] = min(far[arc.From][arc.To], uint64(arc.Weight))
	}
	for v := range far {
		for u := range far {
			for w := range far {
				if far[u][v] != api.Unreached && far[v][w] != api.Unreached {
					far[u][w] = min(far[u][w], far[u][v]+far[v][w])
				}
			}
		}
	}
	return far
}

// Normal: the normal graph, told pair by pair.
func Normal(g api.Graph) api.Graph {
	made := api.Graph{N: g.N}
	for from := range g.N {
		for to := range g.N {
			cheapest := math.MaxInt
			for _, arc := range g.Arcs {
				if arc.From == from && arc.To == to {
					cheapest = min(cheapest, arc.Weight)
				}
			}
			if from != to && cheapest < math.MaxInt {
				made.Arcs = append(made.Arcs, api.Arc{From: from, To: to, Weight: cheapest})
			}
		}
	}
	return made
}

// Some: all small graphs, and some greater ones with many parallel arcs.
func Some() iter.Seq[api.Graph] {
	return func(yield func(api.Graph) bool) {
		for n := range 4 {
			for g := range All(n, 5-n, 0, 1, 7) {
				if !yield(g) {
					return
				}
			}
		}
		dice := Dice{Seed: 4}
		for range 100 {
			for _, most := range []int{20, api.MaxWeight} {
				if !yield(dice.Graph(1+dice.Below(12), dice.Below(200), most)) {
					return
				}
			}
		}
	}
}

// WrongGraph is a graph that is not right, with gtext.Check's error of it.
type WrongGraph struct {
	Name  string
	Graph api.Graph
	Err   error
}

// Wrong: graphs that are not right.
func Wrong() []WrongGraph {
	type row = [3]int
	atArc := func(i int, e api.Errno) error { return fault.At(api.AtArc, i, e) }
	return []WrongGraph{
		{"N below 0", Graph(-1), api.ErrLimit},
		{"N least", Graph(math.MinInt), api.ErrLimit},
		{"N above MaxNodes", Graph(api.MaxNodes + 1), api.ErrLimit},
		{"N greatest", Graph(math.MaxInt), api.ErrLimit},
		{"too many arcs", Graph(1, make([]row, api.MaxArcs+1)...), api.ErrLimit},
		{"no such node", Graph(1, row{0, 1, 0}), atArc(0, api.ErrNode)},
		{"From below 0", Graph(2, row{0, 1, 5}, row{-1, 1, 5}), atArc(1, api.ErrNode)},
		{"To below 0", Graph(2, row{1, 0, 5}, row{1, 1, 5}, row{1, -1, 5}), atArc(2, api.ErrNode)},
		{"a loop too dear", Graph(2, row{1, 1, api.MaxWeight + 1}), atArc(0, api.ErrWeight)},
		{"weight below 0", Graph(2, row{0, 1, -1}, row{0, 1, 3}), atArc(0, api.ErrWeight)},
		{"a parallel arc", Graph(2, row{0, 1, 3}, row{0, 1, api.MaxWeight + 1}), atArc(1, api.ErrWeight)},
		{"an unknown arc", Graph(0, row{0, 0, 0}), atArc(0, api.ErrNode)},
	}
}
