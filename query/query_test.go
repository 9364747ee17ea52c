package query

import (
	"fmt"
	"math"
	"slices"
	"testing"

	"viaduct/api"
	"viaduct/climb"
	"viaduct/csr"
	"viaduct/fault"
	"viaduct/hier"
	"viaduct/order"
	"viaduct/sample"
	"viaduct/search"
	"viaduct/sound"
)

const far = api.Unreached

// brief: what a failure tells of a thing, which may have a million links.
func brief(thing any) string {
	text := fmt.Sprint(thing)
	return text[:min(len(text), 300)]
}

func nodeAt(place int) error {
	return fault.At(api.AtNode, place, api.ErrNode)
}

func check(t *testing.T, h api.Hier, s, v int, dist uint64, rank int, wantErr error) {
	t.Helper()
	if d, err := Distance(h, s, v); d != dist || !sample.SameError(err, wantErr) {
		t.Errorf("Distance(%s, %d, %d): %d, %v, wanted %d, %v", brief(h), s, v, d, err, dist, wantErr)
	}
	if r, err := Meet(h, s, v); r != rank || !sample.SameError(err, wantErr) {
		t.Errorf("Meet(%s, %d, %d): %d, %v, wanted %d, %v", brief(h), s, v, r, err, rank, wantErr)
	}
}

func checkMet(t *testing.T, h api.Hier, s, v int, dist uint64, rank int) {
	t.Helper()
	check(t, h, s, v, dist, rank, nil)
}

func checkRefused(t *testing.T, h api.Hier, s, v int, want error) {
	t.Helper()
	check(t, h, s, v, 0, 0, want)
}

// checkDistances: all distances of a hierarchy, those of a table, by nodes.
func checkDistances(t *testing.T, h api.Hier, want [][]uint64) {
	t.Helper()
	for s, row := range want {
		for v, dist := range row {
			d, err := Distance(h, s, v)
			_, meetErr := Meet(h, s, v)
			if dist == far && (d != 0 || !sample.SameError(err, api.ErrNoWalk)) || dist != far && (d != dist || err != nil) || !sample.SameError(err, meetErr) {
				t.Errorf("%s: from %d to %d: %d, %v, %v, wanted %d", brief(h), s, v, d, err, meetErr, dist)
			}
		}
	}
}

// model: what the chapter says of both calls, for a hierarchy in form and two of its nodes.
func model(t *testing.T, h api.Hier, s, v int) (uint64, int, error) {
	t.Helper()
	up, err := climb.Up(h, slices.Index(h.Node, uint32(s)))
	if err != nil {
		t.Fatal(err)
	}
	down, err := climb.Down(h, slices.Index(h.Node, uint32(v)))
	if err != nil {
		t.Fatal(err)
	}
	dist, rank := uint64(0), -1
	for _, a := range up {
		for _, b := range down {
			if a.Rank == b.Rank && (rank < 0 || a.Dist+b.Dist < dist) {
				dist, rank = a.Dist+b.Dist, a.Rank
			}
		}
	}
	if rank < 0 {
		return 0, 0, api.ErrNoWalk
	}
	return dist, rank, nil
}

func checkAsModel(t *testing.T, h api.Hier) {
	t.Helper()
	for s := range h.Node {
		for v := range h.Node {
			dist, rank, err := model(t, h, s, v)
			check(t, h, s, v, dist, rank, err)
		}
	}
}

func mustGraph(t *testing.T, h api.Hier) api.Graph {
	t.Helper()
	g, err := hier.Graph(h)
	if err != nil {
		t.Fatal(err)
	}
	return g
}

func TestP21_1Examples(t *testing.T) {
	h := sample.Three()
	checkMet(t, h, 0, 2, 5, 2)
	checkMet(t, h, 0, 1, 4, 1)
	checkMet(t, h, 1, 1, 0, 0)
	checkRefused(t, h, 2, 0, api.ErrNoWalk)
	checkRefused(t, h, 3, 9, nodeAt(0))
	checkRefused(t, h, 0, -1, nodeAt(1))
	// The other pairs.
	checkMet(t, h, 0, 0, 0, 1)
	checkMet(t, h, 1, 2, 1, 2)
	checkMet(t, h, 2, 2, 0, 2)
	checkRefused(t, h, 1, 0, api.ErrNoWalk)
	checkRefused(t, h, 2, 1, api.ErrNoWalk)
}

func TestP21_1FewNodes(t *testing.T) {
	checkMet(t, sample.PlainHier(1), 0, 0, 0, 0)
	h := sample.PlainHier(2, [3]int{0, 1, 7})
	checkMet(t, h, 0, 1, 7, 1)
	checkRefused(t, h, 1, 0, api.ErrNoWalk)
	h.Node = []uint32{1, 0}
	checkMet(t, h, 1, 0, 7, 1)
	checkRefused(t, h, 0, 1, api.ErrNoWalk)
	checkMet(t, h, 0, 0, 0, 1)
	checkMet(t, h, 1, 1, 0, 0)
}

// Several ranks meet: the least sum counts, wherever it lies; of alike ones the least rank.
func TestP21_1WhereTheyMeet(t *testing.T) {
	for _, c := range []struct {
		third, fourth, fifth int // the length by way of the rank 2, 3, 4
		dist                 uint64
		rank                 int
	}{
		{2, 3, 4, 2, 2},
		{4, 3, 4, 3, 3},
		{4, 3, 2, 2, 4},
		{5, 5, 5, 5, 2},
		{6, 5, 5, 5, 3},
		{5, 6, 5, 5, 2},
		{0, 0, 0, 0, 2},
		{1, 0, 0, 0, 3},
	} {
		h := sample.PlainHier(5,
			[3]int{0, 2, c.third}, [3]int{2, 1, 0},
			[3]int{0, 3, 0}, [3]int{3, 1, c.fourth},
			[3]int{0, 4, c.fifth / 2}, [3]int{4, 1, c.fifth - c.fifth/2})
		checkMet(t, h, 0, 1, c.dist, c.rank)
		checkRefused(t, h, 1, 0, api.ErrNoWalk)
		h.Node = []uint32{4, 3, 1, 2, 0}
		checkMet(t, h, 4, 3, c.dist, c.rank)
	}
}

// Walks of the graph that go down and up again aren't seen, where no shortcut stands for them.
func TestP21_1FalseOnes(t *testing.T) {
	h := sample.PlainHier(3, [3]int{1, 0, 4}, [3]int{0, 2, 1})
	checkRefused(t, h, 1, 2, api.ErrNoWalk)
	h = sample.PlainHier(3, [3]int{1, 0, 4}, [3]int{0, 2, 1}, [3]int{1, 2, 9})
	checkMet(t, h, 1, 2, 9, 2)
}

func TestP21_1AsTheModel(t *testing.T) {
	for h := range sample.Hiers() {
		if len(h.Node) < 9 {
			checkAsModel(t, h)
		}
	}
	for h := range sample.LooseHiers(211, 500, 12) {
		checkAsModel(t, h)
	}
	for h := range sample.LooseHiers(212, 10, 40) {
		checkAsModel(t, h)
	}
}

func TestP21_2TrueOnes(t *testing.T) {
	trueOnes := 0
	for h := range sample.LooseHiers(213, 1000, 12) {
		if sample.FirstFalse(h) < 0 {
			checkDistances(t, h, sample.Distances(mustGraph(t, h)))
			trueOnes++
		}
	}
	if trueOnes < 300 {
		t.Errorf("only %d true ones", trueOnes)
	}
}

// lengths: for each node, which lengths up to most a walk from s to it has.
func lengths(g api.Graph, s, most int) [][]bool {
	has := make([][]bool, g.N)
	for v := range has {
		has[v] = make([]bool, most+1)
	}
	has[s][0] = true
	for length := range most + 1 {
		// Arcs that weigh nothing join nodes of the same length.
		for range g.N {
			for _, arc := range g.Arcs {
				if arc.Weight <= length && has[arc.From][length-arc.Weight] {
					has[arc.To][length] = true
				}
			}
		}
	}
	return has
}

// In any hierarchy in form: the length of a walk, if anything is found.
func TestP21_2AnyInForm(t *testing.T) {
	longer, missed := 0, 0
	dice := sample.Dice{Seed: 214}
	for range 400 {
		n := 1 + dice.Below(8)
		h := dice.Loose(dice.Graph(n, dice.Below(4*n), 9), dice.Shuffled(n), 40)
		g := mustGraph(t, h)
		least := sample.Distances(g)
		for s := range n {
			has := lengths(g, s, 400)
			for v := range n {
				dist, err := Distance(h, s, v)
				if err == nil && (dist > 400 || !has[v][dist] || dist < least[s][v]) {
					t.Errorf("Distance(%s, %d, %d): %d, but no walk is so long", brief(h), s, v, dist)
				}
				if err != nil && least[s][v] != far {
					missed++
				}
				if err == nil && dist > least[s][v] {
					longer++
				}
			}
		}
	}
	if longer < 100 || missed < 100 {
		t.Errorf("%d are longer than the distance, %d are missed", longer, missed)
	}
}

// checkRoads (P3, P8): whatever the options and the order, the distances are those of the graph.
func checkRoads(t *testing.T, g api.Graph, opts api.Options, list []int) {
	t.Helper()
	want := sample.Distances(g)
	made, err := order.Build(g, opts)
	if err != nil {
		t.Fatalf("Build(%s, %v): %v", brief(g), opts, err)
	}
	along, err := order.Along(g, list, opts)
	if err != nil {
		t.Fatalf("Along(%s, %v, %v): %v", brief(g), list, opts, err)
	}
	checkDistances(t, made, want)
	checkDistances(t, along, want)
}

func TestP3P8SmallGraphs(t *testing.T) {
	all, dice := sample.Options(), sample.Dice{Seed: 215}
	i := 0
	for g := range sample.Some() {
		checkRoads(t, g, all[i%len(all)], dice.Shuffled(g.N))
		i++
	}
}

func TestP3P8EachOption(t *testing.T) {
	dice := sample.Dice{Seed: 216}
	for range 12 {
		n := 1 + dice.Below(14)
		g := dice.Graph(n, dice.Below(4*n), []int{1, 30, api.MaxWeight}[dice.Below(3)])
		for _, opts := range sample.Options() {
			for range 3 {
				checkRoads(t, g, opts, dice.Shuffled(n))
			}
		}
	}
}

// Each order of the nodes of some graphs.
func TestP8EachOrder(t *testing.T) {
	dice := sample.Dice{Seed: 217}
	for range 4 {
		g := dice.Graph(5, 11, 9)
		want := sample.Distances(g)
		for list := range orders(5) {
			h, err := order.Along(g, list, api.Options{Hops: 2, Settles: 3})
			if err != nil {
				t.Fatal(err)
			}
			checkDistances(t, h, want)
		}
	}
}

// orders: each order of n nodes.
func orders(n int) func(func([]int) bool) {
	return func(yield func([]int) bool) {
		var extend func(list []int) bool
		extend = func(list []int) bool {
			if len(list) == n {
				return yield(slices.Clone(list))
			}
			for v := range n {
				if !slices.Contains(list, v) && !extend(append(slices.Clone(list), v)) {
					return false
				}
			}
			return true
		}
		extend(nil)
	}
}

func TestP3P8Streets(t *testing.T) {
	dice := sample.Dice{Seed: 218}
	g := dice.Streets(25)
	c, err := csr.Build(g)
	if err != nil {
		t.Fatal(err)
	}
	for i, opts := range sample.Options()[1:4] {
		h, err := order.Build(g, opts)
		if err != nil {
			t.Fatal(err)
		}
		if err := sound.Check(h); err != nil {
			t.Fatal(err)
		}
		for k := range 20 {
			s := (17*k + i) % g.N
			want, err := search.From(c, s)
			if err != nil {
				t.Fatal(err)
			}
			for v := k; v < g.N; v += 11 {
				dist, err := Distance(h, s, v)
				if want[v] == far && !sample.SameError(err, api.ErrNoWalk) || want[v] != far && (dist != want[v] || err != nil) {
					t.Errorf("from %d to %d: %d, %v, wanted %d", s, v, dist, err, want[v])
				}
			}
		}
	}
}

func TestErrors(t *testing.T) {
	h := sample.Three()
	odds := []int{math.MinInt, -1 << 32, -1, 3, 4, 1 << 16, 1 << 32, 1<<32 + 1, math.MaxInt}
	for _, odd := range odds {
		for node := range 3 {
			checkRefused(t, h, odd, node, nodeAt(0))
			checkRefused(t, h, node, odd, nodeAt(1))
		}
		for _, other := range odds {
			checkRefused(t, h, odd, other, nodeAt(0))
		}
	}
	checkRefused(t, sample.PlainHier(0), 0, 0, nodeAt(0))
	checkRefused(t, sample.PlainHier(0), -1, 0, nodeAt(0))
	checkRefused(t, sample.PlainHier(1), 0, 1, nodeAt(1))
	for _, w := range sample.WrongHiers() {
		for _, nodes := range [][2]int{{0, 2}, {2, 0}, {3, 9}, {0, -1}, {math.MinInt, math.MaxInt}} {
			checkRefused(t, w.Hier, nodes[0], nodes[1], w.Err)
		}
	}
}

func TestLimits(t *testing.T) {
	const n = api.MaxNodes
	h := sample.Chain(n, api.MaxWeight)
	checkMet(t, h, 0, n-1, (n-1)*api.MaxWeight, n-1)
	checkMet(t, h, n-1, 0, (n-1)*api.MaxWeight, n-1)
	checkMet(t, h, 7, 7, 0, 7)
	checkMet(t, h, 9, 7, 2*api.MaxWeight, 9)
	checkRefused(t, h, 0, n, nodeAt(1))
	checkRefused(t, h, n, 0, nodeAt(0))
	slices.Reverse(h.Node)
	checkMet(t, h, 0, n-1, (n-1)*api.MaxWeight, n-1)
	checkMet(t, h, n-1, 0, (n-1)*api.MaxWeight, n-1)
	checkMet(t, h, 7, 7, 0, n-1-7)
	checkMet(t, h, 9, 7, 2*api.MaxWeight, n-1-7)
	checkRefused(t, sample.PlainHier(n), 0, n-1, api.ErrNoWalk)
}

// At the end of the chain both lengths are nearly 2^63: their sum doesn't wrap round, and the least one is found.
func TestLongestLengths(t *testing.T) {
	const n, low = api.MaxNodes, sample.DearestFrom
	h := sample.Dearest(n)
	checkMet(t, h, low, low, 0, low)
	checkMet(t, h, low, low+1, api.MaxTotal, low+1)
	checkMet(t, h, low, n-1, (n-1-low)*api.MaxTotal, n-1)
	checkMet(t, h, n-1, low, (n-1-low)*api.MaxTotal, n-1)
}

func TestGreatestHierarchies(t *testing.T) {
	full := sample.Flat(1024, api.MaxLinks/2, api.MaxLinks/2)
	checkMet(t, full, 500, 700, 700, 700)
	checkMet(t, full, 700, 500, 500, 700)
	checkMet(t, full, 1023, 0, 0, 1023)
	half := sample.Flat(1500, 0, api.MaxLinks)
	checkMet(t, half, 1000, 3, 3, 1000)
	checkRefused(t, half, 3, 1000, api.ErrNoWalk)
}

func TestMemory(t *testing.T) {
	for h := range sample.LooseHiers(219, 200, 7) {
		roomy := sample.RoomyHier(h)
		was := sample.RoomOfHier(roomy)
		checkAsModel(t, roomy)
		Distance(roomy, -1, 0)
		Meet(roomy, 0, 99)
		if !sample.SameHier(sample.RoomOfHier(roomy), was) {
			t.Errorf("%s has changed", brief(h))
		}
	}
	for _, w := range sample.WrongHiers() {
		roomy := sample.RoomyHier(w.Hier)
		was := sample.RoomOfHier(roomy)
		Distance(roomy, 0, 1)
		Meet(roomy, 0, 1)
		if !sample.SameHier(sample.RoomOfHier(roomy), was) {
			t.Errorf("%s: the hierarchy has changed", w.Name)
		}
	}
}

// P2: the same answers, whatever was asked between.
func TestQuestionsChangeNothing(t *testing.T) {
	for range 3 {
		checkMet(t, sample.Three(), 0, 2, 5, 2)
		checkRefused(t, sample.Three(), 2, 0, api.ErrNoWalk)
		checkMet(t, sample.PlainHier(9), 8, 8, 0, 8)
		checkRefused(t, api.Hier{}, 0, 0, api.ErrShape)
		checkMet(t, sample.Three(), 0, 1, 4, 1)
		checkRefused(t, sample.Three(), 0, 3, nodeAt(1))
	}
}
