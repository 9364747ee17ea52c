package order

import (
	"slices"

	"viaduct/heap"
	"viaduct/overlay"
	"viaduct/rank"
	"viaduct/shorts"
)

// line is the nodes that wait to be contracted, by keys: priorities that may have changed since they were reckoned.
type line struct {
	*contraction
	waiting  *heap.Heap
	counts   []int // of each node how many of its neighbours were contracted
	depths   []int
	priority func(v int) (int, error) // that of an alive node, as it is now
}

func newLine(c *contraction, n int) (*line, error) {
	waiting, err := heap.New(n)
	if err != nil {
		return nil, err
	}
	l := &line{contraction: c, waiting: waiting, counts: make([]int, n), depths: make([]int, n)}
	l.priority = func(v int) (int, error) {
		diff, err := shorts.Diff(c.graph, v, c.opts)
		return rank.Priority(c.opts, diff, l.counts[v], l.depths[v]), err
	}
	for v := range n {
		if err := l.wait(v); err != nil {
			return nil, err
		}
	}
	return l, nil
}

// wait puts v in line by its priority.
func (l *line) wait(v int) error {
	now, err := l.priority(v)
	if err != nil {
		return err
	}
	return l.waiting.Set(uint32(v), rank.Key(now))
}

// next takes out the node that is next. With a key that was reckoned anew the least node may be the least no more: then another one is looked at. None is looked at more than twice, as one with a true key is next.
func (l *line) next() (int, error) {
	for {
		first, _, _ := l.waiting.Top()
		if err := l.wait(int(first)); err != nil {
			return 0, err
		}
		if again, _, _ := l.waiting.Top(); again == first {
			l.waiting.Pop()
			return int(first), nil
		}
	}
}

// contract: v goes, and its neighbours are told.
func (l *line) contract(v int) error {
	near := neighbours(l.graph, v)
	if err := l.contraction.contract(v); err != nil {
		return err
	}
	for _, u := range near {
		l.counts[u]++
		l.depths[u] = max(l.depths[u], l.depths[v]+1)
	}
	return nil
}

// neighbours: the nodes that have an arc to v or from it, each once.
func neighbours(o *overlay.Overlay, v int) []int {
	var near []int
	for _, half := range slices.Concat(o.In(v), o.Out(v)) {
		near = append(near, half.Node)
	}
	slices.Sort(near)
	return slices.Compact(near)
}
