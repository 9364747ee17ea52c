package sample

import (
	"math"

	"viaduct/api"
)

// Options: of all kinds, some beyond their ranges. The second are those of everyday use.
func Options() []api.Options {
	return []api.Options{
		{},
		{Hops: 5, Settles: 50, Edge: 2, Deleted: 1, Depth: 1},
		{Hops: 1, Settles: 1, Edge: 1},
		{Hops: 99, Settles: 999, Depth: 1},
		{Hops: 3, Settles: 4, Edge: -1, Deleted: -2, Depth: -3},
		{Hops: -5, Settles: -5, Edge: 1000, Deleted: -1000},
		{Hops: math.MaxInt, Settles: math.MaxInt, Edge: math.MinInt, Deleted: math.MaxInt, Depth: math.MinInt},
	}
}

// Streets: a net of so many streets each way, some of which lead one way alone.
func (d *Dice) Streets(wide int) api.Graph {
	g := api.Graph{N: wide * wide}
	for v := range g.N {
		for _, to := range []int{v + 1, v + wide} {
			if to < g.N && (to != v+1 || to%wide != 0) {
				g.Arcs = append(g.Arcs, api.Arc{From: v, To: to, Weight: 1 + d.Below(20)})
				if d.Below(4) > 0 {
					g.Arcs = append(g.Arcs, api.Arc{From: to, To: v, Weight: 1 + d.Below(20)})
				}
			}
		}
	}
	return g
}
