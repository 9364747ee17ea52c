package sound

import "viaduct/api"

// net is a hierarchy in form, whose down links can be found from their tails too.
type net struct {
	hier  api.Hier
	first []uint32 // falls[first[x]:first[x+1]] are those from the rank x
	falls []fall   // those from one rank by their heads, rising
}

// fall is a down link as it is seen from its tail.
type fall struct {
	to     uint32
	weight uint64
}

func newNet(h api.Hier) net {
	first := make([]uint32, len(h.Node)+1)
	for _, link := range h.Down {
		first[link.To]++
	}
	end := uint32(0)
	for x := range first {
		end += first[x]
		first[x] = end
	}
	// Each place is filled from its end on, so that in the end first tells where it begins.
	falls := make([]fall, len(h.Down))
	for rank := len(h.Node) - 1; rank >= 0; rank-- {
		for _, link := range h.Down[h.DownFirst[rank]:h.DownFirst[rank+1]] {
			first[link.To]--
			falls[first[link.To]] = fall{to: uint32(rank), weight: link.Weight}
		}
	}
	return net{hier: h, first: first, falls: falls}
}

func (n net) ranks() int {
	return len(n.hier.Node)
}

// ups: the up links from a rank. downs: the down links to it. fallsFrom: the down links from it.
func (n net) ups(rank uint32) []api.Link {
	return n.hier.Up[n.hier.UpFirst[rank]:n.hier.UpFirst[rank+1]]
}

func (n net) downs(rank uint32) []api.Link {
	return n.hier.Down[n.hier.DownFirst[rank]:n.hier.DownFirst[rank+1]]
}

func (n net) fallsFrom(rank uint32) []fall {
	return n.falls[n.first[rank]:n.first[rank+1]]
}

// dearest: the greatest weight of some links.
func dearest(list []api.Link) uint64 {
	most := uint64(0)
	for _, link := range list {
		most = max(most, link.Weight)
	}
	return most
}
