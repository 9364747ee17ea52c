package witness

import (
	"container/heap"
	"slices"

	"viaduct/api"
	"viaduct/overlay"
)

// search is a bounded search in an overlay, as if one of its nodes weren't there.
type search struct {
	graph  *overlay.Overlay
	skip   int
	goals  []int // rising, each once
	left   int   // how many of them aren't settled
	labels map[int]label
	open   queue
}

// label is what the search knows of a node.
type label struct {
	dist uint64
	hops int
}

func newSearch(o *overlay.Overlay, skip int, goals []int) *search {
	once := slices.Clone(goals)
	slices.Sort(once)
	once = slices.Compact(once)
	return &search{graph: o, skip: skip, goals: once, left: len(once), labels: map[int]label{}}
}

// run searches from u till a bound stops it, or till all goals are settled: their labels change no more, and no others are asked for.
func (s *search) run(u int, most uint64, hops, settles int) {
	s.set(u, label{})
	for settled := 0; settled < settles && s.left > 0; settled++ {
		next, some := s.nearest()
		if !some || next.dist > most {
			return
		}
		s.settle(next.node, hops)
	}
}

// nearest takes the node that is settled next out of the queue. One whose label was lowered stands there with the earlier distances too, which count no more.
func (s *search) nearest() (entry, bool) {
	for s.open.Len() > 0 {
		next := heap.Pop(&s.open).(entry)
		if next.dist == s.labels[next.node].dist {
			return next, true
		}
	}
	return entry{}, false
}

// settle looks at the arcs from a node, unless it has all its hops. What was settled before lies no further off than it, so no label of these is ever changed.
func (s *search) settle(v, hops int) {
	if _, is := slices.BinarySearch(s.goals, v); is {
		s.left--
	}
	from := s.labels[v]
	if from.hops >= hops {
		return
	}
	for _, arc := range s.graph.Out(v) {
		dist := from.dist + arc.Weight
		if known, has := s.labels[arc.Node]; arc.Node != s.skip && (!has || known.dist > dist) {
			s.set(arc.Node, label{dist: dist, hops: from.hops + 1})
		}
	}
}

func (s *search) set(v int, l label) {
	s.labels[v] = l
	heap.Push(&s.open, entry{dist: l.dist, node: v})
}

// distances: for each goal that of its label, Unreached where it has none.
func (s *search) distances(goals []int) []uint64 {
	all := make([]uint64, len(goals))
	for i, goal := range goals {
		all[i] = api.Unreached
		if known, has := s.labels[goal]; has {
			all[i] = known.dist
		}
	}
	return all
}
