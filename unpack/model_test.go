package unpack

import (
	"testing"

	"viaduct/api"
	"viaduct/hier"
)

// linkAt: the link with a number.
func linkAt(h api.Hier, i int) api.Link {
	return append(append([]api.Link{}, h.Up...), h.Down...)[i]
}

// modelLinks, modelNodes: what the chapter says, for a link of a hierarchy in form that stands for few.
func modelLinks(h api.Hier, i int) []int {
	link := linkAt(h, i)
	if link.Left == api.NoLink && link.Right == api.NoLink {
		return []int{i}
	}
	return append(modelLinks(h, int(link.Left)), modelLinks(h, int(link.Right))...)
}

func modelNodes(t *testing.T, h api.Hier, i int) []int {
	t.Helper()
	var list []int
	for k, number := range modelLinks(h, i) {
		tail, head, err := hier.Ends(h, number)
		if err != nil {
			t.Fatal(err)
		}
		if k == 0 {
			list = append(list, int(h.Node[tail]))
		}
		list = append(list, int(h.Node[head]))
	}
	return list
}

// doubled: what sample.Doubling is made of: a link at the rank r stands for 2^r plain ones.
func doubled(n int, weight func(tail, head int) int) (plain, shortcuts [][3]int) {
	for a := range n {
		for b := range n {
			switch low := min(a, b); {
			case a == b:
			case low == 0:
				plain = append(plain, [3]int{a, b, weight(a, b)})
			default:
				shortcuts = append(shortcuts, [3]int{a, b, low - 1})
			}
		}
	}
	return plain, inOrder(n, shortcuts)
}

// inOrder: the shortcuts by their lower ends, so that each comes behind what it stands for.
func inOrder(n int, shortcuts [][3]int) [][3]int {
	var list [][3]int
	for rank := range n {
		for _, s := range shortcuts {
			if min(s[0], s[1]) == rank {
				list = append(list, s)
			}
		}
	}
	return list
}

// alike: each arc weighs the same.
func alike(weight int) func(int, int) int {
	return func(int, int) int { return weight }
}
