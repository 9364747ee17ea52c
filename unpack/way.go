package unpack

import (
	"cmp"
	"slices"

	"viaduct/api"
	"viaduct/climb"
	"viaduct/walk"
)

// rows are the links of one list of a hierarchy, by the ranks at which they stand.
type rows struct {
	first []uint32
	links []api.Link
	from  int // the number of the first one
}

func ups(h api.Hier) rows {
	return rows{first: h.UpFirst, links: h.Up}
}

func downs(h api.Hier) rows {
	return rows{first: h.DownFirst, links: h.Down, from: len(h.Up)}
}

// over: the numbers of the links of a least way from one rank up to a second one and down to a third, which both searches have reached.
func over(h api.Hier, from, top, to int) ([]int, error) {
	up, err := climb.Up(h, from)
	if err != nil {
		return nil, err
	}
	down, err := climb.Down(h, to)
	if err != nil {
		return nil, err
	}
	return slices.Concat(walk.Back(ups(h).back(up, top)), downs(h).back(down, top)), nil
}

// back: the numbers of the links of a least way between the rank where a search began and one that it reached, from there back. What a search has seen rises, and each length but the first is that of one below and of a link beside: so the next rank back lies further ahead in the list.
func (r rows) back(seen []climb.Seen, reached int) []int {
	var way []int
	here := climb.Seen{}
	for _, next := range slices.Backward(seen) {
		if next.Rank >= reached {
			here = next // what lies above is passed over: the last one is it
			continue
		}
		place, joined := r.find(next.Rank, here.Rank)
		if joined && next.Dist+r.links[place].Weight == here.Dist {
			way = append(way, r.from+place)
			here = next
		}
	}
	return way
}

// find: the place of the link at a rank whose other end is a higher one, if there is such a link.
func (r rows) find(rank, high int) (int, bool) {
	begin, end := int(r.first[rank]), int(r.first[rank+1])
	place, joined := slices.BinarySearchFunc(r.links[begin:end], uint32(high), func(link api.Link, to uint32) int {
		return cmp.Compare(link.To, to)
	})
	return begin + place, joined
}
