package sample

import (
	"testing"

	"viaduct/api"
	"viaduct/hier"
)

// without: the hierarchy of the document's examples without its shortcut.
func without() api.Hier {
	h := Three()
	h.UpFirst, h.Up = []uint32{0, 1, 1, 1}, h.Up[:1]
	return h
}

// firstFalse: the same, all walks above each rank reckoned by themselves.
func firstFalse(h api.Hier) int {
	for r := range h.Node {
		above := api.Graph{N: len(h.Node)}
		for low := r + 1; low < len(h.Node); low++ {
			for _, link := range h.Up[h.UpFirst[low]:h.UpFirst[low+1]] {
				above.Arcs = append(above.Arcs, api.Arc{From: low, To: int(link.To), Weight: int(link.Weight)})
			}
			for _, link := range h.Down[h.DownFirst[low]:h.DownFirst[low+1]] {
				above.Arcs = append(above.Arcs, api.Arc{From: int(link.To), To: low, Weight: int(link.Weight)})
			}
		}
		far := Distances(above)
		for _, in := range h.Down[h.DownFirst[r]:h.DownFirst[r+1]] {
			for _, out := range h.Up[h.UpFirst[r]:h.UpFirst[r+1]] {
				if in.To != out.To && far[in.To][out.To] > in.Weight+out.Weight {
					return r
				}
			}
		}
	}
	return -1
}

func TestFirstFalse(t *testing.T) {
	if first := FirstFalse(Three()); first != -1 {
		t.Errorf("%v is false at %d", Three(), first)
	}
	if err := hier.Check(without()); err != nil || FirstFalse(without()) != 0 {
		t.Errorf("%v, %v is false at %d", without(), err, FirstFalse(without()))
	}
	seen := map[int]int{}
	for h := range Hiers() {
		first := FirstFalse(h)
		if want := firstFalse(h); first != want {
			t.Errorf("%v is false at %d, wanted %d", h, first, want)
		}
		seen[first]++
		for i := range h.Up {
			h.Up[i].Weight /= 2
		}
		first = FirstFalse(h)
		if want := firstFalse(h); first != want {
			t.Errorf("%v is false at %d, wanted %d", h, first, want)
		}
		seen[first]++
	}
	if len(seen) < 4 || seen[-1] < 300 || seen[0] == 0 {
		t.Errorf("hierarchies by the rank at which they are false: %v", seen)
	}
}
