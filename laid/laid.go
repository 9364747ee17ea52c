// Package laid holds what the tests of the layers above overlay are made of: overlays that were changed in many ways, all that an overlay tells, and plain reckonings in it. No layer calls it.
package laid

import (
	"iter"
	"slices"

	"viaduct/api"
	"viaduct/overlay"
	"viaduct/sample"
)

// Plan is a graph and what is done to its overlay: nodes go, then arcs come in.
type Plan struct {
	Graph api.Graph
	Gone  []int
	Puts  []Arc
}

// Arc is one that comes in, by way of no node.
type Arc struct {
	From, To int
	Weight   uint64
}

// Overlay: a new one made by the plan; nil, if a part of it can't be.
func (p Plan) Overlay() *overlay.Overlay {
	o, err := overlay.New(p.Graph)
	if err != nil {
		return nil
	}
	for _, v := range p.Gone {
		if o.Remove(v) != nil {
			return nil
		}
	}
	for _, arc := range p.Puts {
		if _, err := o.Put(arc.From, arc.To, arc.Weight, -1); err != nil {
			return nil
		}
	}
	return o
}

// Some: plans of all small graphs, of greater ones, and of some from which nodes go and into which arcs of all weights come.
func Some() iter.Seq[Plan] {
	return func(yield func(Plan) bool) {
		for g := range sample.Some() {
			if !yield(Plan{Graph: g}) {
				return
			}
		}
		dice := sample.Dice{Seed: 12}
		for range 200 {
			if !yield(anyPlan(&dice)) {
				return
			}
		}
	}
}

// anyPlan: a plan by which at least one node stays.
func anyPlan(dice *sample.Dice) Plan {
	n := 1 + dice.Below(11)
	order := dice.Shuffled(n)
	gone := dice.Below(1 + n/2)
	plan := Plan{Graph: dice.Graph(n, dice.Below(4*n), 10), Gone: order[:gone]}
	alive := order[gone:]
	for range dice.Below(2 * n) {
		weights := []uint64{0, uint64(dice.Below(20)), uint64(dice.Below(20)), api.MaxTotal / 2, api.MaxTotal - uint64(dice.Below(20)), api.MaxTotal}
		arc := Arc{From: alive[dice.Below(len(alive))], To: alive[dice.Below(len(alive))], Weight: weights[dice.Below(len(weights))]}
		if arc.From != arc.To {
			plan.Puts = append(plan.Puts, arc)
		}
	}
	return plan
}

// Told is all that an overlay tells of its nodes.
type Told struct {
	Nodes, Arcs int
	Alive       []bool
	Out, In     [][]overlay.Half
}

// Tell: what an overlay of n nodes tells.
func Tell(o *overlay.Overlay, n int) Told {
	told := Told{Nodes: o.Len(), Arcs: o.Arcs()}
	for v := range n {
		told.Alive = append(told.Alive, o.Alive(v))
		told.Out = append(told.Out, o.Out(v))
		told.In = append(told.In, o.In(v))
	}
	return told
}

// Same: do both overlays tell the same?
func Same(a, b Told) bool {
	return a.Nodes == b.Nodes && a.Arcs == b.Arcs && slices.Equal(a.Alive, b.Alive) &&
		slices.EqualFunc(a.Out, b.Out, slices.Equal) && slices.EqualFunc(a.In, b.In, slices.Equal)
}

// Weight: that of the arc from u to w; Unreached, if there is none.
func (t Told) Weight(u, w int) uint64 {
	for _, half := range t.Out[u] {
		if half.Node == w {
			return half.Weight
		}
	}
	return api.Unreached
}
