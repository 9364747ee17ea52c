package sample

import (
	"testing"

	"viaduct/api"
)

func TestStreets(t *testing.T) {
	dice := Dice{Seed: 7}
	g := dice.Streets(5)
	ends := map[[2]int]int{}
	for _, a := range g.Arcs {
		apart := max(a.From-a.To, a.To-a.From)
		sameRow, neighbours := a.From/5 == a.To/5, apart == 1
		if a.Weight < 1 || a.Weight > 20 || sameRow != neighbours || !sameRow && apart != 5 {
			t.Errorf("Streets: the arc %v", a)
		}
		ends[[2]int{a.From, a.To}]++
	}
	// 40 streets, some of them one way.
	if g.N != 25 || len(ends) != len(g.Arcs) || len(ends) <= 40 || len(ends) >= 80 {
		t.Errorf("Streets: %d nodes, %d arcs, %d of them apart", g.N, len(g.Arcs), len(ends))
	}
}

func TestOptions(t *testing.T) {
	seen := map[api.Options]int{}
	for _, opts := range Options() {
		seen[opts]++
	}
	if len(seen) != len(Options()) || seen[api.Options{}] != 1 {
		t.Errorf("Options: %v", Options())
	}
}
