package climb

import "viaduct/api"

// span is a link of one list, with the rank at which it stands.
type span struct {
	low, high int
	weight    uint64
}

func spans(first []uint32, list []api.Link) []span {
	var all []span
	for low := range len(first) - 1 {
		for _, link := range list[first[low]:first[low+1]] {
			all = append(all, span{low, int(link.To), link.Weight})
		}
	}
	return all
}

// modelUp, modelDown: what the chapter says, for a rank of a hierarchy in form.
func modelUp(h api.Hier, s int) []Seen {
	return model(len(h.Node), s, spans(h.UpFirst, h.Up), spans(h.DownFirst, h.Down))
}

func modelDown(h api.Hier, t int) []Seen {
	return model(len(h.Node), t, spans(h.DownFirst, h.Down), spans(h.UpFirst, h.Up))
}

// model lowers lengths link by link, till none can be lowered any more.
func model(n, start int, ahead, back []span) []Seen {
	dist := map[int]uint64{start: 0}
	for lowered := true; lowered; {
		lowered = false
		for _, link := range ahead {
			low, has := dist[link.low]
			known, hasHigh := dist[link.high]
			if has && (!hasHigh || low+link.weight < known) {
				dist[link.high] = low + link.weight
				lowered = true
			}
		}
	}
	var all []Seen
	for rank := range n {
		length, has := dist[rank]
		if !has {
			continue
		}
		stalled := false
		for _, link := range back {
			high, has := dist[link.high]
			stalled = stalled || link.low == rank && has && high+link.weight < length
		}
		all = append(all, Seen{Rank: rank, Dist: length, Stalled: stalled})
	}
	return all
}
