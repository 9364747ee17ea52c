package sample

import (
	"testing"

	"viaduct/api"
	"viaduct/hier"
)

func TestPlainHier(t *testing.T) {
	h := PlainHier(4, [3]int{0, 3, 9}, [3]int{3, 1, 4}, [3]int{0, 1, 8}, [3]int{2, 1, 5})
	want := api.Hier{
		Node:      []uint32{0, 1, 2, 3},
		UpFirst:   []uint32{0, 2, 2, 2, 2},
		Up:        []api.Link{Plain(1, 8), Plain(3, 9)},
		DownFirst: []uint32{0, 0, 2, 2, 2},
		Down:      []api.Link{Plain(2, 5), Plain(3, 4)},
	}
	if !SameHier(h, want) {
		t.Errorf("PlainHier: %v", h)
	}
	if none := PlainHier(0); !SameHier(none, Flat(0, 0, 0)) {
		t.Errorf("PlainHier of no nodes: %v", none)
	}
}

func TestChain(t *testing.T) {
	if h := Chain(3, 7); !SameHier(h, PlainHier(3, [3]int{0, 1, 7}, [3]int{1, 0, 7}, [3]int{1, 2, 7}, [3]int{2, 1, 7})) {
		t.Errorf("Chain: %v", h)
	}
}

func TestLooseHiers(t *testing.T) {
	count, greatest, trueOnes := 0, 0, 0
	for h := range LooseHiers(12, 500, 12) {
		count++
		greatest = max(greatest, len(h.Node))
		if err := hier.Check(h); err != nil {
			t.Errorf("%v: %v", h, err)
		}
		if FirstFalse(h) < 0 {
			trueOnes++
		}
	}
	if count != 500 || greatest != 12 || trueOnes < 100 || trueOnes > 450 {
		t.Errorf("%d hierarchies, of at most %d nodes, %d of them true", count, greatest, trueOnes)
	}
}

func TestByHand(t *testing.T) {
	h := ByHand(3, [][3]int{{1, 0, 4}, {0, 2, 1}}, [][3]int{{1, 2, 0}})
	h.Node = Three().Node
	if !SameHier(h, Three()) {
		t.Errorf("ByHand: %v", h)
	}
	// Of two shortcuts the second stands for the first, and for a plain link.
	h = ByHand(5, [][3]int{{3, 0, 1}, {0, 2, 2}, {2, 4, 5}}, [][3]int{{3, 2, 0}, {3, 4, 2}})
	if err := hier.Check(h); err != nil || h.Up[2].Weight != 8 || h.Down[1].Weight != 3 {
		t.Errorf("ByHand: %v, %v", h, err)
	}
}

func TestDearest(t *testing.T) {
	h := Dearest(40)
	if err := hier.Check(h); err != nil {
		t.Errorf("Dearest: %v", err)
	}
	for rank := DearestFrom; rank < 39; rank++ {
		for _, row := range [][]api.Link{h.Up[h.UpFirst[rank]:h.UpFirst[rank+1]], h.Down[h.DownFirst[rank]:h.DownFirst[rank+1]]} {
			if len(row) != 1 || row[0].To != uint32(rank+1) || row[0].Weight != api.MaxTotal {
				t.Errorf("Dearest: at the rank %d: %v", rank, row)
			}
		}
	}
}
