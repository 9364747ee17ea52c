package order

import (
	"cmp"
	"slices"

	"viaduct/api"
	"viaduct/overlay"
)

// making is a hierarchy that gets its ranks one by one.
type making struct {
	ranks []int // of each node
	made  api.Hier
}

func newMaking(ranks []int) *making {
	return &making{ranks: ranks, made: api.Hier{UpFirst: []uint32{0}, DownFirst: []uint32{0}}}
}

// add: the next rank is v's, with its arcs to and from nodes of higher ranks.
func (m *making) add(v int, out, in []overlay.Half) {
	rank := m.ranks[v]
	up := m.linksOf(out, func(half overlay.Half) (int, int) { return rank, m.ranks[half.Node] })
	down := m.linksOf(in, func(half overlay.Half) (int, int) { return m.ranks[half.Node], rank })
	h := &m.made
	h.Node = append(h.Node, uint32(v))
	h.Up = append(h.Up, up...)
	h.UpFirst = append(h.UpFirst, uint32(len(h.Up)))
	h.Down = append(h.Down, down...)
	h.DownFirst = append(h.DownFirst, uint32(len(h.Down)))
}

// linksOf: arcs as links, given the ranks of an arc's tail and head.
func (m *making) linksOf(halves []overlay.Half, ends func(overlay.Half) (int, int)) []api.Link {
	links := make([]api.Link, 0, len(halves))
	for _, half := range halves {
		link := api.Link{To: uint32(m.ranks[half.Node]), Weight: half.Weight, Left: api.NoLink, Right: api.NoLink}
		if half.Via >= 0 {
			tail, head := ends(half)
			link.Left, link.Right = m.children(m.ranks[half.Via], tail, head)
		}
		links = append(links, link)
	}
	slices.SortFunc(links, func(a, b api.Link) int { return cmp.Compare(a.To, b.To) })
	return links
}

// children: the places, each in its own list, of the two links at the rank middle that lead from tail to head.
func (m *making) children(middle, tail, head int) (uint32, uint32) {
	return placeOf(m.made.Down, m.made.DownFirst, middle, tail), placeOf(m.made.Up, m.made.UpFirst, middle, head)
}

// placeOf: the place of the link that stands at the rank at and whose other end is to.
func placeOf(list []api.Link, first []uint32, at, to int) uint32 {
	row := list[first[at]:first[at+1]]
	place, _ := slices.BinarySearchFunc(row, uint32(to), func(link api.Link, to uint32) int { return cmp.Compare(link.To, to) })
	return first[at] + uint32(place)
}

// hier: the hierarchy, once all ranks are there. Only then is it known how many up links stand ahead of the down links' numbers.
func (m *making) hier() api.Hier {
	ups := uint32(len(m.made.Up))
	for _, list := range [][]api.Link{m.made.Up, m.made.Down} {
		for i := range list {
			if list[i].Left != api.NoLink {
				list[i].Left += ups
			}
		}
	}
	return m.made
}
