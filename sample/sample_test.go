package sample

import (
	"errors"
	"slices"
	"testing"

	"viaduct/api"
	"viaduct/fault"
)

func TestSameError(t *testing.T) {
	three := fault.At(api.AtLine, 3, api.ErrNumber)
	for _, c := range []struct {
		a, b error
		same bool
	}{
		{nil, nil, true},
		{nil, errors.New("x"), false},
		{three, fault.At(api.AtLine, 3, api.ErrNumber), true},
		{three, fault.At(api.AtLine, 4, api.ErrNumber), false},
		{three, fault.At(api.AtLine, 3, api.ErrWord), false},
		{three, api.ErrNumber, false},
	} {
		if SameError(c.a, c.b) != c.same || SameError(c.b, c.a) != c.same {
			t.Errorf("SameError(%v, %v) is not %v", c.a, c.b, c.same)
		}
	}
}

func TestAll(t *testing.T) {
	count := 0
	for g := range All(2, 3, 0, 5) {
		count++
		if g.N != 2 || len(g.Arcs) > 3 {
			t.Errorf("a graph %v", g)
		}
	}
	if count != 1+8+64+512 {
		t.Errorf("%d graphs", count)
	}
	for g := range All(0, 3, 0, 5) {
		if !SameGraph(g, api.Graph{}) {
			t.Errorf("a graph without nodes: %v", g)
		}
	}
	for range All(2, 3, 0, 5) {
		count++
		if count == 600 {
			break
		}
	}
}

func TestRoomy(t *testing.T) {
	g := Roomy(Graph(2, [3]int{0, 1, 5}))
	odd := api.Arc{From: -7, To: -7, Weight: -7}
	if want := []api.Arc{{From: 0, To: 1, Weight: 5}, odd, odd, odd}; !slices.Equal(Room(g), want) || len(g.Arcs) != 1 {
		t.Errorf("Roomy: %v", Room(g))
	}
	Spoil(g.Arcs)
	if !slices.Equal(Room(g), []api.Arc{odd, odd, odd, odd}) {
		t.Errorf("Spoil: %v", Room(g))
	}
}

func TestDistances(t *testing.T) {
	far := Distances(Graph(4, [3]int{0, 1, 4}, [3]int{1, 2, 1}, [3]int{0, 2, 9}, [3]int{2, 3, 2}, [3]int{2, 2, 7}))
	none := api.Unreached
	want := [][]uint64{{0, 4, 5, 7}, {none, 0, 1, 3}, {none, none, 0, 2}, {none, none, none, 0}}
	if !slices.EqualFunc(far, want, slices.Equal) {
		t.Errorf("Distances: %v", far)
	}
}

func TestDice(t *testing.T) {
	a, b := Dice{Seed: 3}, Dice{Seed: 3}
	g := a.Graph(5, 100, 6)
	if !SameGraph(g, b.Graph(5, 100, 6)) || len(g.Arcs) != 100 {
		t.Error("the same seed gives other graphs")
	}
	seen := map[int]bool{}
	for _, arc := range g.Arcs {
		if min(arc.From, arc.To, arc.Weight) < 0 || max(arc.From, arc.To) > 4 {
			t.Errorf("an arc %v", arc)
		}
		seen[arc.Weight] = true
	}
	if len(seen) != 7 {
		t.Errorf("the weights are %v", seen)
	}
}
