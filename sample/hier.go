package sample

import (
	"cmp"
	"iter"
	"math"
	"slices"

	"viaduct/api"
)

// SameHier: are both alike, list by list?
func SameHier(a, b api.Hier) bool {
	return slices.Equal(a.Node, b.Node) && slices.Equal(a.UpFirst, b.UpFirst) && slices.Equal(a.Up, b.Up) && slices.Equal(a.DownFirst, b.DownFirst) && slices.Equal(a.Down, b.Down)
}

// CopyHier: the same in new memory.
func CopyHier(h api.Hier) api.Hier {
	return eachList(h, slices.Clone, slices.Clone)
}

// RoomyHier, RoomOfHier, SpoilHier: as RoomyList, RoomOf and SpoilList, of all five lists.
func RoomyHier(h api.Hier) api.Hier {
	return eachList(h,
		func(list []uint32) []uint32 { return RoomyList(list, oddRank) },
		func(list []api.Link) []api.Link { return RoomyList(list, oddLink()) })
}

func RoomOfHier(h api.Hier) api.Hier {
	return eachList(h, RoomOf, RoomOf)
}

func SpoilHier(h api.Hier) {
	eachList(h,
		func(list []uint32) []uint32 { SpoilList(list, oddRank); return list },
		func(list []api.Link) []api.Link { SpoilList(list, oddLink()); return list })
}

// ListsApart: has each of the five lists memory of its own, spare room too? They are spoilt by it.
func ListsApart(h api.Hier) bool {
	numbers, links := [][]uint32{h.Node, h.UpFirst, h.DownFirst}, [][]api.Link{h.Up, h.Down}
	for i, list := range numbers {
		SpoilList(list, oddRank+uint32(i))
	}
	for i, list := range links {
		SpoilList(list, api.Link{To: oddRank + uint32(i)})
	}
	// What was written first is still there, if nothing was written over it.
	for i, list := range numbers {
		if slices.ContainsFunc(RoomOf(list), func(v uint32) bool { return v != oddRank+uint32(i) }) {
			return false
		}
	}
	for i, list := range links {
		if slices.ContainsFunc(RoomOf(list), func(l api.Link) bool { return l.To != oddRank+uint32(i) }) {
			return false
		}
	}
	return true
}

// oddRank may stand nowhere in a hierarchy, oddLink neither.
const oddRank = 7777777

func oddLink() api.Link {
	return api.Link{To: oddRank, Weight: math.MaxUint64, Left: oddRank, Right: oddRank}
}

func eachList(h api.Hier, numbers func([]uint32) []uint32, links func([]api.Link) []api.Link) api.Hier {
	return api.Hier{Node: numbers(h.Node), UpFirst: numbers(h.UpFirst), Up: links(h.Up), DownFirst: numbers(h.DownFirst), Down: links(h.Down)}
}

// Plain: a link that is no shortcut.
func Plain(to uint32, weight uint64) api.Link {
	return api.Link{To: to, Weight: weight, Left: api.NoLink, Right: api.NoLink}
}

// Three: the hierarchy of the document's examples: the arcs 0 to 1 (4) and 1 to 2 (1), and a shortcut.
func Three() api.Hier {
	return api.Hier{
		Node:      []uint32{1, 0, 2},
		UpFirst:   []uint32{0, 1, 2, 2},
		Up:        []api.Link{Plain(2, 1), {To: 2, Weight: 5, Left: 2, Right: 0}},
		DownFirst: []uint32{0, 1, 1, 1},
		Down:      []api.Link{Plain(1, 4)},
	}
}

// Flat: n nodes, each at the rank of its number, and so many plain links up and down, as many as there is room for at the lowest ranks first.
func Flat(n, ups, downs int) api.Hier {
	h := api.Hier{UpFirst: []uint32{0}, DownFirst: []uint32{0}}
	for rank := range n {
		h.Node = append(h.Node, uint32(rank))
		for to := rank + 1; to < n && len(h.Up) < ups; to++ {
			h.Up = append(h.Up, Plain(uint32(to), uint64(to)))
		}
		for to := rank + 1; to < n && len(h.Down) < downs; to++ {
			h.Down = append(h.Down, Plain(uint32(to), uint64(rank)))
		}
		h.UpFirst = append(h.UpFirst, uint32(len(h.Up)))
		h.DownFirst = append(h.DownFirst, uint32(len(h.Down)))
	}
	return h
}

// Contracted: the hierarchy of a graph along a list of its nodes, by the plainest contraction: a shortcut for each way through a node, unless there is an arc no dearer.
func Contracted(g api.Graph, order []int) api.Hier {
	return contracted(g, order, func(isDearer bool) bool { return isDearer })
}

// Loose: the same, but of the ways so many in a hundred are taken amiss: without a shortcut where one is needed, with one where none is. So it is in form, and true by luck alone; and its shortcuts may be dearer than the arcs in whose places they stand.
func (d *Dice) Loose(g api.Graph, order []int, percent int) api.Hier {
	return contracted(g, order, func(isDearer bool) bool { return isDearer != (d.Below(100) < percent) })
}

// contracted asks of each way through a node whether it has a shortcut, telling whether what leads there is dearer, or nothing leads there.
func contracted(g api.Graph, order []int, takes func(isDearer bool) bool) api.Hier {
	h := api.Hier{UpFirst: []uint32{0}, DownFirst: []uint32{0}}
	arcs := arcsByRanks(g, order)
	via := map[[2]int]int{}
	for rank, node := range order {
		h.Node = append(h.Node, uint32(node))
		for to := rank + 1; to < g.N; to++ {
			if weight, has := arcs[[2]int{rank, to}]; has {
				h.Up = append(h.Up, Plain(uint32(to), weight))
			}
			if weight, has := arcs[[2]int{to, rank}]; has {
				h.Down = append(h.Down, Plain(uint32(to), weight))
			}
		}
		h.UpFirst = append(h.UpFirst, uint32(len(h.Up)))
		h.DownFirst = append(h.DownFirst, uint32(len(h.Down)))
		contract(arcs, via, rank, g.N, takes)
	}
	leadAll(h, via)
	return h
}

// arcsByRanks: the weights of a graph's cheapest arcs, by the ranks of their ends.
func arcsByRanks(g api.Graph, order []int) map[[2]int]uint64 {
	arcs := map[[2]int]uint64{}
	for _, arc := range Normal(g).Arcs {
		arcs[[2]int{slices.Index(order, arc.From), slices.Index(order, arc.To)}] = uint64(arc.Weight)
	}
	return arcs
}

// contract puts the shortcuts by way of a rank among the arcs of those above it.
func contract(arcs map[[2]int]uint64, via map[[2]int]int, rank, n int, takes func(isDearer bool) bool) {
	for u := rank + 1; u < n; u++ {
		for w := rank + 1; w < n; w++ {
			in, enters := arcs[[2]int{u, rank}]
			out, leaves := arcs[[2]int{rank, w}]
			known, has := arcs[[2]int{u, w}]
			if u != w && enters && leaves && takes(!has || known > in+out) {
				arcs[[2]int{u, w}], via[[2]int{u, w}] = in+out, rank
			}
		}
	}
}

// leadAll names the children of all shortcuts: via tells the middles, by tail and head.
func leadAll(h api.Hier, via map[[2]int]int) {
	for rank := range h.Node {
		for i := h.UpFirst[rank]; i < h.UpFirst[rank+1]; i++ {
			lead(h, &h.Up[i], via, rank, int(h.Up[i].To))
		}
		for i := h.DownFirst[rank]; i < h.DownFirst[rank+1]; i++ {
			lead(h, &h.Down[i], via, int(h.Down[i].To), rank)
		}
	}
}

// lead names the children of a link, if it is a shortcut.
func lead(h api.Hier, link *api.Link, via map[[2]int]int, tail, head int) {
	middle, is := via[[2]int{tail, head}]
	if !is {
		return
	}
	find := func(list []api.Link, first []uint32, to int) uint32 {
		row := list[first[middle]:first[middle+1]]
		place, _ := slices.BinarySearchFunc(row, uint32(to), func(l api.Link, to uint32) int { return cmp.Compare(l.To, to) })
		return first[middle] + uint32(place)
	}
	link.Left = uint32(len(h.Up)) + find(h.Down, h.DownFirst, tail)
	link.Right = find(h.Up, h.UpFirst, head)
}

// Shuffled: the nodes of a graph of n in an order without a plain rule.
func (d *Dice) Shuffled(n int) []int {
	var order []int
	for v := range n {
		order = slices.Insert(order, d.Below(v+1), v)
	}
	return order
}

// Hiers: hierarchies in form: those of the document's examples, of many small graphs, and some made by hand.
func Hiers() iter.Seq[api.Hier] {
	return func(yield func(api.Hier) bool) {
		for _, h := range []api.Hier{Three(), Flat(0, 0, 0), Flat(1, 0, 0), Flat(2, 0, 1), Flat(4, 3, 5), Flat(6, 99, 99), Doubling(5, 3), Doubling(19, 1<<30)} {
			if !yield(h) {
				return
			}
		}
		dice := Dice{Seed: 10}
		for range 300 {
			n := 1 + dice.Below(9)
			g := dice.Graph(n, dice.Below(4*n), 20)
			if !yield(Contracted(g, dice.Shuffled(n))) {
				return
			}
		}
	}
}
