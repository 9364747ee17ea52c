package table

import (
	"slices"

	"viaduct/api"
)

// half is the links of one list of a hierarchy in form, by the ranks at which they stand.
type half struct {
	first []uint32
	links []api.Link
}

func ups(h api.Hier) half {
	return half{h.UpFirst, h.Up}
}

func downs(h api.Hier) half {
	return half{h.DownFirst, h.Down}
}

func (a half) at(rank int) []api.Link {
	return a.links[a.first[rank]:a.first[rank+1]]
}

// sweep: for each rank the least length of a way to it from start that goes up over links of this half, and then down over the other's; Unreached, where there is none. Of the ups and the downs that is query.Distance from start; of the downs and the ups, whose links are gone against their direction then, query.Distance to start.
//
// Each link is looked at once, without a heap: a link's ends lie in the order in which the ranks are gone through. A way has fewer than 2 * MaxNodes links, none of them above MaxTotal, so no length wraps round or comes to Unreached.
func (a half) sweep(back half, start int) []uint64 {
	n := len(a.first) - 1
	dist := slices.Repeat([]uint64{api.Unreached}, n)
	dist[start] = 0
	for low := start; low < n; low++ {
		if dist[low] == api.Unreached {
			continue
		}
		for _, link := range a.at(low) {
			dist[link.To] = min(dist[link.To], dist[low]+link.Weight)
		}
	}
	for low := n - 1; low >= 0; low-- {
		for _, link := range back.at(low) {
			if dist[link.To] != api.Unreached {
				dist[low] = min(dist[low], dist[link.To]+link.Weight)
			}
		}
	}
	return dist
}
