package climb

import (
	"viaduct/api"
	"viaduct/heap"
	"viaduct/stamp"
)

// rows are links by their lower ends, as a hierarchy in form keeps them.
type rows struct {
	first []uint32
	links []api.Link
}

func (r rows) at(rank uint32) []api.Link {
	return r.links[r.first[rank]:r.first[rank+1]]
}

// climber makes one search.
type climber struct {
	dist *stamp.Stamp // by ranks: the least length that is known, if there is one
	open *heap.Heap   // the ranks that have a length and from which the search hasn't gone on, by their numbers
}

func newClimber(ranks int) (*climber, error) {
	dist, err := stamp.New(ranks, 0)
	if err != nil {
		return nil, err
	}
	open, err := heap.New(ranks)
	if err != nil {
		return nil, err
	}
	return &climber{dist: dist, open: open}, nil
}

// reached: what can be reached from a rank over these links, rising. Links lead to higher ranks alone: when the lowest rank that waits is taken, nothing comes that could lower its length.
func (c *climber) reached(start uint32, ahead rows) []Seen {
	var all []Seen
	c.reach(start, 0)
	for rank, _, some := c.open.Pop(); some; rank, _, some = c.open.Pop() {
		dist, _ := c.dist.Get(int(rank))
		all = append(all, Seen{Rank: int(rank), Dist: dist})
		for _, link := range ahead.at(rank) {
			c.reach(link.To, dist+link.Weight)
		}
	}
	return all
}

// reach takes ranks alone, so neither the stamp nor the heap can refuse. A way has fewer links than MaxNodes, none of them above MaxTotal, so no length wraps round.
func (c *climber) reach(rank uint32, dist uint64) {
	if known, has := c.dist.Get(int(rank)); !has || dist < known {
		c.dist.Set(int(rank), dist)
		c.open.Push(rank, uint64(rank))
	}
}

// stall marks those to which one of the links back leads shorter, from above.
func (c *climber) stall(all []Seen, back rows) {
	for i, seen := range all {
		for _, link := range back.at(uint32(seen.Rank)) {
			above, has := c.dist.Get(int(link.To))
			if has && above+link.Weight < seen.Dist {
				all[i].Stalled = true
			}
		}
	}
}
