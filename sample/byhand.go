package sample

import (
	"cmp"
	"iter"
	"slices"

	"viaduct/api"
)

// ByHand: the hierarchy of n nodes, each at the rank of its number, with plain links (tail, head, weight) and shortcuts (tail, head, middle). What a shortcut stands for must be told ahead of it.
func ByHand(n int, plain, shortcuts [][3]int) api.Hier {
	weights, via := map[[2]int]uint64{}, map[[2]int]int{}
	for _, a := range plain {
		weights[[2]int{a[0], a[1]}] = uint64(a[2])
	}
	for _, a := range shortcuts {
		tail, head, middle := a[0], a[1], a[2]
		weights[[2]int{tail, head}] = weights[[2]int{tail, middle}] + weights[[2]int{middle, head}]
		via[[2]int{tail, head}] = middle
	}
	ups, downs := make([][]api.Link, n), make([][]api.Link, n)
	for ends, weight := range weights {
		low, high := min(ends[0], ends[1]), max(ends[0], ends[1])
		list := ups
		if high == ends[0] {
			list = downs
		}
		list[low] = append(list[low], Plain(uint32(high), weight))
	}
	h := api.Hier{UpFirst: []uint32{0}, DownFirst: []uint32{0}}
	for rank := range n {
		h.Node = append(h.Node, uint32(rank))
		h.Up, h.UpFirst = appendRow(h.Up, h.UpFirst, ups[rank])
		h.Down, h.DownFirst = appendRow(h.Down, h.DownFirst, downs[rank])
	}
	leadAll(h, via)
	return h
}

// appendRow puts the links of the next rank behind those of the ranks below it, in their order.
func appendRow(list []api.Link, first []uint32, row []api.Link) ([]api.Link, []uint32) {
	slices.SortFunc(row, func(a, b api.Link) int { return cmp.Compare(a.To, b.To) })
	list = append(list, row...)
	return list, append(first, uint32(len(list)))
}

// PlainHier: the same of plain links alone.
func PlainHier(n int, plain ...[3]int) api.Hier {
	return ByHand(n, plain, nil)
}

// BothWays: the numbers of a link there and of one back.
func BothWays(a, b, third int) [][3]int {
	return [][3]int{{a, b, third}, {b, a, third}}
}

// Chain: each rank has plain links to the next one and back.
func Chain(n, weight int) api.Hier {
	var plain [][3]int
	for rank := range n - 1 {
		plain = append(plain, BothWays(rank, rank+1, weight)...)
	}
	return PlainHier(n, plain...)
}

// Doubling: n nodes with links both ways between all of them. Those at the rank 0 are plain and have this weight; at each further rank a link stands for two of the rank below, and weighs twice as much.
func Doubling(n, weight int) api.Hier {
	plain, shortcuts := doubling(n, weight)
	return ByHand(n, plain, shortcuts)
}

func doubling(n, weight int) (plain, shortcuts [][3]int) {
	for rank := range n {
		for to := rank + 1; to < n; to++ {
			if rank == 0 {
				plain = append(plain, BothWays(rank, to, weight)...)
			} else {
				shortcuts = append(shortcuts, BothWays(rank, to, rank-1)...)
			}
		}
	}
	return plain, shortcuts
}

// DearestFrom is the rank from which on Dearest's chain goes.
const DearestFrom = 18

// Dearest: a chain of links that all weigh MaxTotal, both ways, from the rank DearestFrom on to n-1; below it lies what these stand for.
func Dearest(n int) api.Hier {
	// From the rank 15 to 17 it is 2^46 - 2^15; the way from a rank of the chain to 17 is that and 2^15 more, the way back likewise.
	const half, rest = 15, 1 << 15
	const middle = DearestFrom - 1
	plain, shortcuts := doubling(DearestFrom, api.MaxWeight)
	for rank := DearestFrom; rank < n; rank++ {
		plain = append(plain, BothWays(half, rank, rest)...)
		shortcuts = append(shortcuts, BothWays(middle, rank, half)...)
		if rank > DearestFrom {
			shortcuts = append(shortcuts, BothWays(rank-1, rank, middle)...)
		}
	}
	return ByHand(n, plain, shortcuts)
}

// LooseHiers: so many hierarchies in form of at most that many nodes, some true, the others false at some rank.
func LooseHiers(seed uint64, count, most int) iter.Seq[api.Hier] {
	return func(yield func(api.Hier) bool) {
		dice := Dice{Seed: seed}
		for range count {
			n := 1 + dice.Below(most)
			g := dice.Graph(n, dice.Below(5*n), []int{0, 1, 3, 20, api.MaxWeight}[dice.Below(5)])
			if !yield(dice.Loose(g, dice.Shuffled(n), []int{0, 2, 10, 30}[dice.Below(4)])) {
				return
			}
		}
	}
}
