package sample

import (
	"slices"
	"testing"

	"viaduct/api"
	"viaduct/hier"
)

func TestContracted(t *testing.T) {
	g := Graph(3, [3]int{0, 1, 4}, [3]int{1, 2, 1}, [3]int{1, 2, 3}, [3]int{0, 2, 9}, [3]int{2, 2, 0})
	if h := Contracted(g, []int{1, 0, 2}); !SameHier(h, Three()) {
		t.Errorf("Contracted: %v", h)
	}
	flat := api.Hier{Node: []uint32{0, 1, 2}, UpFirst: []uint32{0, 2, 3, 3}, Up: []api.Link{Plain(1, 4), Plain(2, 9), Plain(2, 1)}, DownFirst: make([]uint32, 4)}
	if h := Contracted(g, []int{0, 1, 2}); !SameHier(h, flat) {
		t.Errorf("Contracted: %v", h)
	}
}

func TestLoose(t *testing.T) {
	dice := Dice{Seed: 11}
	seen, dearer := map[int]int{}, 0
	for range 1000 {
		n := 2 + dice.Below(6)
		g, order := dice.Graph(n, dice.Below(5*n), 9), dice.Shuffled(n)
		if h := dice.Loose(g, order, 0); !SameHier(h, Contracted(g, order)) {
			t.Errorf("Loose without a way amiss: %v", h)
		}
		h := dice.Loose(g, order, 30)
		if err := hier.Check(h); err != nil {
			t.Errorf("Loose: %v, %v", h, err)
		}
		seen[FirstFalse(h)]++
		if made, err := hier.Graph(h); err != nil || len(made.Arcs) < len(Normal(g).Arcs) {
			dearer++
		}
	}
	if seen[-1] < 100 || seen[0] < 100 || seen[1] < 50 || seen[2] < 20 || dearer < 100 {
		t.Errorf("Loose: by the rank at which they are false: %v; %d with a shortcut in an arc's place", seen, dearer)
	}
}

func TestFlat(t *testing.T) {
	h := Flat(4, 4, 99)
	if !slices.Equal(h.UpFirst, []uint32{0, 3, 4, 4, 4}) || !slices.Equal(h.DownFirst, []uint32{0, 3, 5, 6, 6}) || len(h.Up) != 4 || len(h.Down) != 6 {
		t.Errorf("Flat: %v", h)
	}
}

func TestDoubling(t *testing.T) {
	h := Doubling(4, 3)
	if err := hier.Check(h); err != nil {
		t.Errorf("Doubling: %v", err)
	}
	for _, list := range [][]api.Link{h.Up, h.Down} {
		var weights []uint64
		for _, link := range list {
			weights = append(weights, link.Weight)
		}
		if !slices.Equal(weights, []uint64{3, 3, 3, 6, 6, 12}) {
			t.Errorf("Doubling: the weights %v", weights)
		}
	}
}

func TestHiers(t *testing.T) {
	count, up, down := 0, 0, 0
	for h := range Hiers() {
		count++
		if err := hier.Check(h); err != nil {
			t.Errorf("%v: %v", h, err)
		}
		up += shortcuts(h.Up)
		down += shortcuts(h.Down)
	}
	if count < 300 || up < 500 || down < 500 {
		t.Errorf("%d hierarchies, %d shortcuts up, %d down", count, up, down)
	}
	for _, end := range []int{1, 5, 100, count - 1} {
		seen := 0
		for range Hiers() {
			seen++
			if seen == end {
				break
			}
		}
	}
}

func shortcuts(list []api.Link) int {
	count := 0
	for _, link := range list {
		if link.Left != api.NoLink {
			count++
		}
	}
	return count
}

func TestWrongHiers(t *testing.T) {
	for _, w := range WrongHiers() {
		if err := hier.Check(w.Hier); err == nil || !SameError(err, w.Err) {
			t.Errorf("%s: %v, wanted %v", w.Name, err, w.Err)
		}
	}
}

func TestRoomyHier(t *testing.T) {
	h := RoomyHier(Three())
	room := RoomOfHier(h)
	if !SameHier(h, Three()) || len(room.Node) != 3+spareRoom || len(room.Up) != 2+spareRoom || room.UpFirst[4] != oddRank || room.Down[1] != oddLink() {
		t.Errorf("RoomyHier: %v", room)
	}
	same := CopyHier(h)
	SpoilHier(h)
	if !SameHier(same, Three()) || SameHier(RoomOfHier(h), room) || h.Node[2] != oddRank || h.DownFirst[0] != oddRank || h.Up[1] != oddLink() {
		t.Errorf("SpoilHier: %v, and %v", h, same)
	}
}

func TestListsApart(t *testing.T) {
	if !ListsApart(Three()) || !ListsApart(RoomyHier(Three())) || !ListsApart(api.Hier{}) {
		t.Error("lists of their own have memory in common")
	}
	numbers, links := make([]uint32, 8), make([]api.Link, 8)
	for i, h := range []api.Hier{
		{Node: numbers[:4], UpFirst: numbers[3:]},
		{Node: numbers[:4], UpFirst: numbers[4:]}, // in the spare room
		{Node: numbers, DownFirst: numbers},
		{UpFirst: numbers, DownFirst: numbers[7:]},
		{Up: links[:1], Down: links[7:]},
		{Up: links[7:], Down: links},
	} {
		if ListsApart(h) {
			t.Errorf("%d: memory in common isn't seen", i)
		}
	}
}

func TestShuffled(t *testing.T) {
	dice := Dice{Seed: 5}
	seen := map[int]bool{}
	for range 100 {
		order := dice.Shuffled(3)
		seen[order[0]*100+order[1]*10+order[2]] = true
		if !slices.Equal(slices.Sorted(slices.Values(order)), []int{0, 1, 2}) {
			t.Errorf("Shuffled: %v", order)
		}
	}
	if len(seen) != 6 {
		t.Errorf("Shuffled: %v", seen)
	}
}
