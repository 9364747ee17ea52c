package sound

import (
	"cmp"
	"iter"
	"slices"

	"viaduct/api"
	"viaduct/heap"
)

// finder makes plain searches over the links of a hierarchy, one after the other in the same arrays.
type finder struct {
	net
	dist    []uint64 // by ranks: the least length that is known, or Unreached
	reached []uint32 // the ranks that have one
	open    *heap.Heap
}

func newFinder(links net) *finder {
	n := links.ranks()
	// In form there are at most MaxNodes ranks, which a heap holds.
	open, _ := heap.New(n)
	return &finder{net: links, dist: slices.Repeat([]uint64{api.Unreached}, n), open: open}
}

// settled goes through the ranks that can be reached from u over links whose both ends lie above floor, the nearest first, each with the least length of a way there.
func (f *finder) settled(u, floor int) iter.Seq2[int, uint64] {
	return func(yield func(int, uint64) bool) {
		f.forget()
		f.reach(uint32(u), 0)
		for {
			x, dist, some := f.open.Pop()
			if !some || !yield(int(x), dist) {
				return
			}
			f.lookFrom(x, dist, floor)
		}
	}
}

func (f *finder) forget() {
	for _, x := range f.reached {
		f.dist[x] = api.Unreached
	}
	f.reached = f.reached[:0]
	f.open.Clear()
}

func (f *finder) lookFrom(x uint32, dist uint64, floor int) {
	for _, link := range f.ups(x) {
		f.reach(link.To, dist+link.Weight)
	}
	falls := f.fallsFrom(x)
	for i := len(falls) - 1; i >= 0 && int(falls[i].to) > floor; i-- {
		f.reach(falls[i].to, dist+falls[i].weight)
	}
}

func (f *finder) reach(x uint32, dist uint64) {
	known := f.dist[x]
	if known <= dist {
		return
	}
	if known == api.Unreached {
		f.reached = append(f.reached, x)
	}
	f.dist[x] = dist
	f.open.Set(x, dist)
}

// distances: those from a rank to all nodes, by the nodes' numbers.
func (f *finder) distances(rank int) []uint64 {
	row := slices.Repeat([]uint64{api.Unreached}, f.ranks())
	for x, dist := range f.settled(rank, -1) {
		row[f.hier.Node[x]] = dist
	}
	return row
}

// dispels: is there, for each way over the doubtful link and up again, a walk above its rank that is no longer?
func (f *finder) dispels(d doubt) bool {
	goals := f.ups(d.rank)
	most, left := d.weight+dearest(goals), len(goals)
	for x, dist := range f.settled(int(d.tail), int(d.rank)) {
		i, isGoal := slices.BinarySearchFunc(goals, uint32(x), byTo)
		if dist > most || isGoal && dist > d.weight+goals[i].Weight {
			return false
		}
		if isGoal {
			left--
		}
		if left == 0 {
			return true
		}
	}
	return false
}

func byTo(link api.Link, rank uint32) int {
	return cmp.Compare(link.To, rank)
}
