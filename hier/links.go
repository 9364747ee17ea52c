package hier

import (
	"iter"

	"viaduct/api"
)

// standing is a link with where it stands.
type standing struct {
	api.Link
	rank uint32 // its lower end
	isUp bool
}

func (s standing) tail() uint32 {
	if s.isUp {
		return s.rank
	}
	return s.To
}

func (s standing) head() uint32 {
	if s.isUp {
		return s.To
	}
	return s.rank
}

func isPlain(link api.Link) bool {
	return link.Left == api.NoLink && link.Right == api.NoLink
}

// links goes through all links by their numbers. It trusts the Firsts: they must have been asked.
func links(h api.Hier) iter.Seq2[int, standing] {
	return func(yield func(int, standing) bool) {
		number := 0
		for rank, link := range ranked(h.UpFirst, h.Up) {
			if !yield(number, standing{Link: link, rank: rank, isUp: true}) {
				return
			}
			number++
		}
		for rank, link := range ranked(h.DownFirst, h.Down) {
			if !yield(number, standing{Link: link, rank: rank}) {
				return
			}
			number++
		}
	}
}

// ranked goes through one list of links, each with its rank.
func ranked(first []uint32, list []api.Link) iter.Seq2[uint32, api.Link] {
	return func(yield func(uint32, api.Link) bool) {
		for rank := range len(first) - 1 {
			for _, link := range list[first[rank]:first[rank+1]] {
				if !yield(uint32(rank), link) {
					return
				}
			}
		}
	}
}
