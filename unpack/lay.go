package unpack

import (
	"slices"

	"viaduct/api"
	"viaduct/walk"
)

// lay: the numbers of the plain links for which these links of a hierarchy in form stand, one behind the other. They may be more than any memory holds: ErrLong comes as soon as there are too many.
func lay(h api.Hier, numbers ...int) ([]int, error) {
	var plain []int
	waiting := walk.Back(numbers) // the next one stands last
	for len(waiting) > 0 {
		last := len(waiting) - 1
		number := waiting[last]
		waiting = waiting[:last]
		link := at(h, number)
		switch {
		case !isPlain(link):
			waiting = append(waiting, int(link.Right), int(link.Left))
		case len(plain) == api.MaxPath:
			return nil, api.ErrLong
		default:
			plain = append(plain, number)
		}
	}
	return plain, nil
}

// along: the ranks to which links lead that are gone one behind the other, and ahead of them the one where the first begins.
func along(h api.Hier, start int, numbers ...int) []int {
	ranks := []int{start}
	for _, number := range numbers {
		ranks = append(ranks, head(h, number))
	}
	return ranks
}

// nodes: those of ranks.
func nodes(h api.Hier, ranks ...int) []int {
	list := make([]int, 0, len(ranks))
	for _, rank := range ranks {
		list = append(list, int(h.Node[rank]))
	}
	return list
}

func rankOf(h api.Hier, node int) int {
	return slices.Index(h.Node, uint32(node))
}

// at: the link with a number.
func at(h api.Hier, number int) api.Link {
	if number < len(h.Up) {
		return h.Up[number]
	}
	return h.Down[number-len(h.Up)]
}

func isPlain(link api.Link) bool {
	return link.Left == api.NoLink && link.Right == api.NoLink
}

// tail, head: a link's ends. (hier.Ends would ask the whole hierarchy anew for each link of a way.)
func tail(h api.Hier, number int) int {
	if number < len(h.Up) {
		return standsAt(h.UpFirst, number)
	}
	return int(at(h, number).To)
}

func head(h api.Hier, number int) int {
	if number < len(h.Up) {
		return int(at(h, number).To)
	}
	return standsAt(h.DownFirst, number-len(h.Up))
}

// standsAt: the rank at which the link at a place of a list stands: the last one that begins there or ahead of it.
func standsAt(first []uint32, place int) int {
	next, _ := slices.BinarySearch(first, uint32(place)+1)
	return next - 1
}
