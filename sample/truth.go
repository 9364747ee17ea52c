package sample

import (
	"slices"

	"viaduct/api"
)

// FirstFalse: the least rank at which a hierarchy in form is not true: a way down to it and up again lacks a walk over links above it that is no longer. -1, if it is true.
func FirstFalse(h api.Hier) int {
	n, first := len(h.Node), -1
	far := make([][]uint64, n) // between the ranks above the one that is looked at
	for r := range far {
		far[r] = slices.Repeat([]uint64{api.Unreached}, n)
		far[r][r] = 0
	}
	for r := n - 1; r >= 0; r-- {
		up, down := h.Up[h.UpFirst[r]:h.UpFirst[r+1]], h.Down[h.DownFirst[r]:h.DownFirst[r+1]]
		for _, in := range down {
			for _, out := range up {
				if far[in.To][out.To] > in.Weight+out.Weight {
					first = r
				}
			}
		}
		join(far, r, up, down)
	}
	return first
}

// join lays a rank below those between which distances are known, with its links to and from them.
func join(far [][]uint64, r int, up, down []api.Link) {
	for x := r + 1; x < len(far); x++ {
		for _, link := range up {
			far[r][x] = min(far[r][x], sum(link.Weight, far[link.To][x]))
		}
		for _, link := range down {
			far[x][r] = min(far[x][r], sum(far[x][link.To], link.Weight))
		}
	}
	for x := r + 1; x < len(far); x++ {
		for y := r + 1; y < len(far); y++ {
			far[x][y] = min(far[x][y], sum(far[x][r], far[r][y]))
		}
	}
}

// sum: of two distances, Unreached if one of them is.
func sum(a, b uint64) uint64 {
	if a == api.Unreached || b == api.Unreached {
		return api.Unreached
	}
	return a + b
}
