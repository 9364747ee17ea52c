package hier

import (
	"viaduct/api"
	"viaduct/fault"
)

// Check: is the hierarchy in form?
func Check(h api.Hier) error {
	n := len(h.Node)
	if n > api.MaxNodes || len(h.Up)+len(h.Down) > api.MaxLinks {
		return api.ErrLimit
	}
	if len(h.UpFirst) != n+1 || len(h.DownFirst) != n+1 {
		return api.ErrShape
	}
	err := fault.First(checkFirst(h.UpFirst, len(h.Up)), checkFirst(h.DownFirst, len(h.Down)), checkNodes(h.Node))
	if err != nil {
		return err
	}
	return checkLinks(h)
}

// checkFirst asks the numbers by which a list of so many links is cut into ranks; there is at least one.
func checkFirst(first []uint32, links int) error {
	if first[0] != 0 {
		return api.ErrShape
	}
	for rank, end := range first[1:] {
		if end < first[rank] {
			return fault.At(api.AtNode, rank, api.ErrShape)
		}
	}
	if int(first[len(first)-1]) != links {
		return api.ErrShape
	}
	return nil
}

func checkNodes(nodes []uint32) error {
	seen := make([]bool, len(nodes))
	for rank, node := range nodes {
		if int(node) >= len(nodes) || seen[node] {
			return fault.At(api.AtNode, rank, api.ErrOrder)
		}
		seen[node] = true
	}
	return nil
}

func checkLinks(h api.Hier) error {
	// A shortcut's children may stand anywhere, ahead of it or behind.
	all := make([]standing, 0, len(h.Up)+len(h.Down))
	for _, link := range links(h) {
		all = append(all, link)
	}
	for i, link := range all {
		rising := i == 0 || !sameRow(all[i-1], link) || all[i-1].To < link.To
		if !rising || link.To <= link.rank || int(link.To) >= len(h.Node) {
			return fault.At(api.AtArc, i, api.ErrShape)
		}
		if err := checkMaking(link, all); err != nil {
			return fault.At(api.AtArc, i, err)
		}
	}
	return nil
}

// sameRow: do both stand at one rank in one list?
func sameRow(a, b standing) bool {
	return a.rank == b.rank && a.isUp == b.isUp
}

// checkMaking asks what a link is made of: a weight, or its two children among all links.
func checkMaking(link standing, all []standing) error {
	if isPlain(link.Link) {
		if link.Weight > api.MaxWeight {
			return api.ErrWeight
		}
		return nil
	}
	if int(link.Left) >= len(all) || int(link.Right) >= len(all) {
		return api.ErrShape
	}
	left, right := all[link.Left], all[link.Right]
	if left.isUp || !right.isUp || left.rank != right.rank || left.tail() != link.tail() || right.head() != link.head() {
		return api.ErrShape
	}
	// Children at most MaxTotal each have a sum that can't wrap round.
	if max(link.Weight, left.Weight, right.Weight) > api.MaxTotal || link.Weight != left.Weight+right.Weight {
		return api.ErrWeight
	}
	return nil
}
