package unpack

import (
	"slices"

	"viaduct/api"
)

// within: the ranks of a path between the ends of a way, over plain links for which the way's links stand. A path takes each of them at most once, the way laid out takes each at least once: so whichever path it is, it isn't longer. (A search by csr's arrays is no road here: they hold MaxArcs arcs, and a hierarchy may have more plain links.)
func within(h api.Hier, start, end int, way ...int) []int {
	leads := make([][]int, len(h.Node)) // by ranks: where the plain links from there lead
	for _, number := range parts(h, way...) {
		from := tail(h, number)
		leads[from] = append(leads[from], head(h, number))
	}
	ahead := slices.Repeat([]int{-1}, len(h.Node)) // by ranks: the one from which the search came
	ahead[start] = start
	for queue := []int{start}; ahead[end] < 0; queue = queue[1:] {
		for _, rank := range leads[queue[0]] {
			if ahead[rank] < 0 {
				ahead[rank] = queue[0]
				queue = append(queue, rank)
			}
		}
	}
	path := []int{end}
	for rank := end; rank != start; {
		rank = ahead[rank]
		path = append(path, rank)
	}
	slices.Reverse(path)
	return path
}

// parts: the numbers of the plain links for which these links stand, each of them once.
func parts(h api.Hier, numbers ...int) []int {
	var plain []int
	seen := make([]bool, len(h.Up)+len(h.Down))
	for waiting := slices.Clone(numbers); len(waiting) > 0; {
		last := len(waiting) - 1
		number := waiting[last]
		waiting = waiting[:last]
		if seen[number] {
			continue
		}
		seen[number] = true
		if link := at(h, number); isPlain(link) {
			plain = append(plain, number)
		} else {
			waiting = append(waiting, int(link.Left), int(link.Right))
		}
	}
	return plain
}
