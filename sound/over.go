package sound

import (
	"cmp"
	"slices"

	"viaduct/api"
	"viaduct/heap"
)

// doubt is a down link, from a tail to a rank, which together with some up link may be shorter than every walk above that rank.
type doubt struct {
	rank, tail uint32
	weight     uint64
}

// doubts: the down links, by ranks, for which ways over don't tell that the hierarchy is true there.
//
// A way over goes up first and then down. If both its ends lie above a rank, so does all of it, whichever rank that is: so what is found from a tail serves all ranks below it. In a true hierarchy no walk is shorter than all ways over, and so there is no doubt.
func doubts(links net) []doubt {
	o := newOver(links)
	var all []doubt
	for tail := range uint32(links.ranks()) {
		o.start(tail)
		for _, link := range links.fallsFrom(tail) {
			if !o.covers(link) {
				all = append(all, doubt{rank: link.to, tail: tail, weight: link.weight})
			}
		}
	}
	slices.SortFunc(all, func(a, b doubt) int {
		return cmp.Or(cmp.Compare(a.rank, b.rank), cmp.Compare(a.tail, b.tail))
	})
	return all
}

// over finds lengths of ways over, from one tail after the other in the same arrays.
type over struct {
	net
	dearestUp []uint64 // by ranks: the weight of the dearest up link there
	tail      uint32
	most      uint64     // longer ways over from the tail are of no use
	climbed   bool       // are the ways up from the tail known?
	near      []uint64   // by ranks: the least length known of a way over from the tail, or Unreached
	known     []uint32   // the ranks that have one
	settled   []uint32   // by ranks: one more than the tail for which nothing less is of use
	open      *heap.Heap // on the way up: the ranks from which it goes on, by their numbers
}

func newOver(links net) *over {
	n := links.ranks()
	dearestUp := make([]uint64, n)
	for rank := range dearestUp {
		dearestUp[rank] = dearest(links.ups(uint32(rank)))
	}
	open, _ := heap.New(n)
	return &over{net: links, dearestUp: dearestUp, near: slices.Repeat([]uint64{api.Unreached}, n), settled: make([]uint32, n), open: open}
}

// start begins with a tail: at first the links from it alone are known.
func (o *over) start(tail uint32) {
	for _, x := range o.known {
		o.near[x] = api.Unreached
	}
	o.known = o.known[:0]
	o.tail, o.most, o.climbed = tail, 0, false
	o.lower(tail, 0)
	o.settled[tail] = tail + 1
	for _, link := range o.ups(tail) {
		o.lower(link.To, link.Weight)
	}
	for _, link := range o.fallsFrom(tail) {
		o.lower(link.to, link.weight)
		o.most = max(o.most, link.weight+o.dearestUp[link.to])
	}
}

func (o *over) lower(x uint32, length uint64) {
	if o.near[x] == api.Unreached {
		o.known = append(o.known, x)
	}
	o.near[x] = min(o.near[x], length)
}

// covers: is there, for each way over a down link from the tail and then up again, a way over that is no longer?
func (o *over) covers(link fall) bool {
	for _, goal := range o.ups(link.to) {
		most := link.weight + goal.Weight
		// Where a link leads there as short, as it mostly does, nothing need be searched.
		if o.near[goal.To] > most && o.least(goal.To) > most {
			return false
		}
	}
	return true
}

// least: the least length of a way over from the tail to x, if that is of use.
func (o *over) least(x uint32) uint64 {
	if !o.climbed {
		o.climbed = true
		o.climb()
	}
	return o.descend(x)
}

// climb finds the ways up. When the lowest rank that waits is taken, all links that lead up to it have been looked at.
func (o *over) climb() {
	for _, link := range o.ups(o.tail) {
		if link.Weight <= o.most {
			o.wait(link.To)
		}
	}
	for x, _, some := o.open.Pop(); some; x, _, some = o.open.Pop() {
		for _, link := range o.ups(x) {
			length := o.near[x] + link.Weight
			if length > o.most {
				continue
			}
			// What was near enough before waits already.
			if o.near[link.To] > o.most {
				o.wait(link.To)
			}
			o.lower(link.To, length)
		}
	}
}

func (o *over) wait(x uint32) {
	o.open.Push(x, uint64(x))
}

// descend: the same as least, once the ways up are known. The links down to x come from higher ranks, so it ends.
func (o *over) descend(x uint32) uint64 {
	if o.settled[x] != o.tail+1 {
		o.settled[x] = o.tail + 1
		for _, link := range o.downs(x) {
			if link.Weight > o.most {
				continue
			}
			if from := o.descend(link.To); from != api.Unreached {
				o.lower(x, from+link.Weight)
			}
		}
	}
	return o.near[x]
}
