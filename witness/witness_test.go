package witness

import (
	"fmt"
	"math"
	"slices"
	"testing"

	"viaduct/api"
	"viaduct/fault"
	"viaduct/laid"
	"viaduct/overlay"
	"viaduct/sample"
)

type (
	ints = []int
	row  = [3]int
)

// bounds are a laid.Bounds, short to write.
type bounds struct {
	Most          uint64
	Hops, Settles int
}

const (
	none = api.Unreached
	far  = math.MaxUint64
	full = api.MaxBound
)

// brief: what a failure tells of a thing, which may have many parts.
func brief(thing any) string {
	text := fmt.Sprint(thing)
	return text[:min(len(text), 300)]
}

func must(t *testing.T, p laid.Plan) *overlay.Overlay {
	t.Helper()
	o := p.Overlay()
	if o == nil {
		t.Fatalf("no overlay of %v", brief(p))
	}
	return o
}

func graph(n int, rows ...row) laid.Plan {
	return laid.Plan{Graph: sample.Graph(n, rows...)}
}

// example: the overlay of the chapter's examples.
func example(t *testing.T) *overlay.Overlay {
	t.Helper()
	return must(t, graph(4, row{0, 1, 4}, row{1, 2, 1}, row{0, 2, 9}, row{2, 3, 2}))
}

// worn: five nodes of which 4 has gone, with arcs from each to each before.
func worn() laid.Plan {
	p := laid.Plan{Graph: api.Graph{N: 5}, Gone: ints{4}}
	for u := range 5 {
		for w := range 5 {
			p.Graph.Arcs = append(p.Graph.Arcs, api.Arc{From: u, To: w, Weight: 10 + u + w})
		}
	}
	return p
}

// noNodes are numbers that are no nodes of a graph of n.
func noNodes(n int) ints {
	return ints{n, n + 1, -1, -2, -n - 1, math.MaxInt, math.MinInt, 1 << 32, -1 << 32}
}

func find(o *overlay.Overlay, u, skip int, goals ints, b bounds) ([]uint64, error) {
	return Find(o, u, skip, goals, b.Most, b.Hops, b.Settles)
}

func checkFind(t *testing.T, o *overlay.Overlay, u, skip int, goals ints, b bounds, want ...uint64) {
	t.Helper()
	if seen, err := find(o, u, skip, goals, b); err != nil || !slices.Equal(seen, want) {
		t.Errorf("Find(%d, %d, %v, %v): %v, %v, wanted %v", u, skip, brief(goals), b, brief(seen), err, brief(want))
	}
}

func checkRefused(t *testing.T, o *overlay.Overlay, u, skip int, goals ints, b bounds, want error) {
	t.Helper()
	if seen, err := find(o, u, skip, goals, b); len(seen) > 0 || !sample.SameError(err, want) {
		t.Errorf("Find(%d, %d, %v, %v): %v, %v, wanted %v", u, skip, goals, b, seen, err, want)
	}
}

func atGoal(i int) error {
	return fault.At(api.AtNode, i, api.ErrNode)
}

// pick: of a list of distances by nodes those of the goals.
func pick(dist []uint64, goals ints) []uint64 {
	var list []uint64
	for _, goal := range goals {
		list = append(list, dist[goal])
	}
	return list
}

func aliveOf(told laid.Told) ints {
	var list ints
	for v, alive := range told.Alive {
		if alive {
			list = append(list, v)
		}
	}
	return list
}

func TestP12_1Examples(t *testing.T) {
	o := example(t)
	checkFind(t, o, 0, 1, ints{2, 3}, bounds{99, 5, 5}, 9, 11)
	checkFind(t, o, 0, -1, ints{2, 3}, bounds{99, 5, 5}, 5, 7)
	checkFind(t, o, 0, -1, ints{2}, bounds{99, 1, 5}, 9)
	checkFind(t, o, 0, -1, ints{2, 3}, bounds{4, 5, 5}, 5, none)
	checkFind(t, o, 0, 2, ints{2, 0}, bounds{99, 5, 5}, none, 0)
	checkFind(t, o, 0, -1, nil, bounds{99, 5, 5})
	checkRefused(t, o, 4, -1, ints{1}, bounds{99, 5, 5}, api.ErrNode)
	checkRefused(t, o, 0, -1, ints{1, 9}, bounds{99, 5, 5}, atGoal(1))
}

func TestP12_1NilOverlay(t *testing.T) {
	for _, u := range append(noNodes(0), 0) {
		for _, goals := range []ints{nil, {0}, {-1, u}} {
			checkRefused(t, nil, u, u, goals, bounds{99, 5, 5}, api.ErrNil)
			checkRefused(t, nil, u, -1, goals, bounds{0, -1, -1}, api.ErrNil)
		}
	}
}

// One that New didn't make has no nodes.
func TestP12_1UnmadeOverlay(t *testing.T) {
	for _, o := range []*overlay.Overlay{new(overlay.Overlay), must(t, graph(0))} {
		for _, u := range append(noNodes(0), 0) {
			checkRefused(t, o, u, -1, ints{u}, bounds{99, 5, 5}, api.ErrNode)
		}
	}
}

func TestP12_1StartNotAlive(t *testing.T) {
	o := must(t, worn())
	for _, u := range append(noNodes(5), 4) {
		for _, goals := range []ints{nil, {}, {0, 1}, {u}, {4, 9, -1}} {
			checkRefused(t, o, u, -1, goals, bounds{99, 5, 5}, api.ErrNode)
			checkRefused(t, o, u, u, goals, bounds{0, -1, 0}, api.ErrNode)
		}
	}
}

// The first goal that isn't alive is told, whatever the bounds are and however far the search would come.
func TestP12_1GoalsNotAlive(t *testing.T) {
	o := must(t, worn())
	for _, bad := range append(noNodes(5), 4) {
		for _, b := range []bounds{{99, 5, 5}, {0, 0, 0}, {far, -1, -1}} {
			checkRefused(t, o, 0, -1, ints{bad}, b, atGoal(0))
			checkRefused(t, o, 0, -1, ints{bad, 1}, b, atGoal(0))
			checkRefused(t, o, 0, -1, ints{1, bad}, b, atGoal(1))
			checkRefused(t, o, 0, -1, ints{0, 0, 3, 2, bad, 4, -1}, b, atGoal(4))
			checkRefused(t, o, 0, bad, ints{1, bad}, b, atGoal(1))
		}
	}
}

func TestP12_1Skip(t *testing.T) {
	o := must(t, graph(5, row{0, 1, 1}, row{1, 2, 1}, row{2, 3, 1}, row{3, 0, 1}, row{0, 3, 9}, row{3, 4, 1}))
	all, b := ints{0, 1, 2, 3, 4}, bounds{99, full, full}
	checkFind(t, o, 0, 1, all, b, 0, none, none, 9, 10)
	checkFind(t, o, 0, 3, all, b, 0, 1, 2, none, none)
	checkFind(t, o, 0, 4, all, b, 0, 1, 2, 3, none)
	// The node where it begins is there, with the arcs from it.
	checkFind(t, o, 0, 0, all, b, 0, 1, 2, 3, 4)
	checkFind(t, o, 3, 3, all, b, 1, 2, 3, 0, 1)
	for _, skip := range noNodes(5) {
		checkFind(t, o, 0, skip, all, b, 0, 1, 2, 3, 4)
	}
	if err := o.Remove(4); err != nil {
		t.Fatal(err)
	}
	checkFind(t, o, 0, 4, all[:4], b, 0, 1, 2, 3)
}

func TestP12_1Goals(t *testing.T) {
	o, b := example(t), bounds{99, 5, 5}
	checkFind(t, o, 0, -1, ints{}, b)
	checkFind(t, o, 0, -1, ints{}, bounds{0, 0, 0})
	checkFind(t, o, 0, -1, ints{0}, b, 0)
	checkFind(t, o, 0, -1, ints{3, 1, 2, 0}, b, 7, 4, 5, 0)
	checkFind(t, o, 0, -1, ints{2, 2, 0, 2, 3, 3, 2}, b, 5, 5, 0, 5, 7, 7, 5)
	checkFind(t, o, 0, 2, ints{2, 2, 3, 3, 1, 1}, b, none, none, none, none, 4, 4)
	checkFind(t, o, 3, -1, ints{3, 0, 3, 1}, b, 0, none, 0, none)
}

func TestP12_1Most(t *testing.T) {
	o, goals := example(t), ints{0, 1, 2, 3}
	for _, c := range []struct {
		most uint64
		want []uint64
	}{
		{0, []uint64{0, 4, 9, none}}, {3, []uint64{0, 4, 9, none}},
		{4, []uint64{0, 4, 5, none}}, {5, []uint64{0, 4, 5, 7}},
		{6, []uint64{0, 4, 5, 7}}, {7, []uint64{0, 4, 5, 7}},
		{math.MaxInt64, []uint64{0, 4, 5, 7}}, {far - 1, []uint64{0, 4, 5, 7}}, {far, []uint64{0, 4, 5, 7}},
	} {
		checkFind(t, o, 0, -1, goals, bounds{c.most, 5, 5}, c.want...)
		checkFind(t, o, 0, -1, goals, bounds{c.most, math.MaxInt, math.MaxInt}, c.want...)
	}
}

func TestP12_1HopsAndSettles(t *testing.T) {
	o, goals := example(t), ints{0, 1, 2, 3}
	for _, low := range []int{0, -1, -9, math.MinInt} {
		checkFind(t, o, 0, -1, goals, bounds{far, low, full}, 0, none, none, none)
		checkFind(t, o, 0, -1, goals, bounds{far, full, low}, 0, none, none, none)
		checkFind(t, o, 0, -1, goals, bounds{far, low, low}, 0, none, none, none)
	}
	for hops, want := range map[int][]uint64{1: {0, 4, 9, none}, 2: {0, 4, 5, none}, 3: {0, 4, 5, 7}, full: {0, 4, 5, 7}, full + 1: {0, 4, 5, 7}, math.MaxInt: {0, 4, 5, 7}} {
		checkFind(t, o, 0, -1, goals, bounds{far, hops, full}, want...)
	}
	for settles, want := range map[int][]uint64{1: {0, 4, 9, none}, 2: {0, 4, 5, none}, 3: {0, 4, 5, 7}, full: {0, 4, 5, 7}, full + 1: {0, 4, 5, 7}, math.MaxInt: {0, 4, 5, 7}} {
		checkFind(t, o, 0, -1, goals, bounds{far, full, settles}, want...)
	}
}

// Alike distances are settled by nodes; a label gives way to a shorter one alone, not to one of fewer hops.
func TestP12_1Ties(t *testing.T) {
	fan := must(t, graph(7, row{3, 2, 5}, row{3, 0, 5}, row{3, 1, 5}, row{0, 4, 0}, row{1, 5, 1}, row{2, 6, 1}))
	checkFind(t, fan, 3, -1, ints{4, 5, 6}, bounds{99, 9, 2}, 5, none, none)
	checkFind(t, fan, 3, -1, ints{4, 5, 6}, bounds{99, 9, 3}, 5, 6, none)
	checkFind(t, fan, 3, -1, ints{4, 5, 6}, bounds{99, 9, 4}, 5, 6, 6)

	// Of two ways of the length 1 the one that was seen first counts its hops: first one hop, then three ..
	few := must(t, graph(5, row{0, 1, 0}, row{1, 2, 0}, row{0, 3, 1}, row{2, 3, 1}, row{3, 4, 1}))
	checkFind(t, few, 0, -1, ints{3, 4}, bounds{99, 2, 9}, 1, 2)
	// .. and first three, then two.
	many := must(t, graph(6, row{0, 1, 0}, row{1, 2, 0}, row{2, 4, 1}, row{0, 3, 1}, row{3, 4, 0}, row{4, 5, 1}))
	checkFind(t, many, 0, -1, ints{4, 5}, bounds{99, 3, 9}, 1, none)
	checkFind(t, many, 0, -1, ints{4, 5}, bounds{99, 4, 9}, 1, 2)
}

// A label that is lowered twice is settled once, and counts once.
func TestP12_1LoweredLabels(t *testing.T) {
	o := must(t, graph(6, row{0, 1, 1}, row{0, 2, 2}, row{0, 3, 9}, row{1, 3, 6}, row{2, 3, 3}, row{3, 4, 4}, row{4, 5, 1}))
	want := [][]uint64{{none, none, none}, {9, none, none}, {7, none, none}, {5, none, none}, {5, 9, none}, {5, 9, 10}}
	for settles, seen := range want {
		checkFind(t, o, 0, -1, ints{3, 4, 5}, bounds{99, 9, settles}, seen...)
	}
	checkFind(t, o, 0, -1, ints{3, 4, 5}, bounds{99, 9, 6}, 5, 9, 10)
	checkFind(t, o, 0, -1, ints{3, 4, 5}, bounds{8, 9, 99}, 5, 9, none)
}

func TestP12_1WeightsOfNought(t *testing.T) {
	const n = 6
	p := laid.Plan{Graph: api.Graph{N: n}}
	for u := range n {
		p.Graph.Arcs = append(p.Graph.Arcs, api.Arc{From: u, To: (u + 1) % n}, api.Arc{From: u, To: (u + 2) % n})
	}
	o := must(t, p)
	checkFind(t, o, 5, -1, ints{0, 1, 2, 3, 4, 5}, bounds{0, 9, 9}, 0, 0, 0, 0, 0, 0)
	checkFind(t, o, 5, 0, ints{0, 1, 2, 3, 4, 5}, bounds{0, 9, 9}, none, 0, 0, 0, 0, 0)
	checkFind(t, o, 5, -1, ints{2, 3, 4}, bounds{0, 9, 2}, 0, none, none)
	checkFind(t, o, 5, -1, ints{2, 3, 4}, bounds{0, 9, 3}, 0, 0, none)
}

// Nodes without arcs are reached from themselves alone.
func TestP12_1NoArcs(t *testing.T) {
	o := must(t, graph(3))
	checkFind(t, o, 1, -1, ints{0, 1, 2}, bounds{far, full, full}, none, 0, none)
	checkFind(t, must(t, graph(1)), 0, 0, ints{0}, bounds{far, full, full}, 0)
}

func TestP12_1AsTheModel(t *testing.T) {
	dice := sample.Dice{Seed: 121}
	choice := func(list ...int) int { return list[dice.Below(len(list))] }
	for p := range laid.Some() {
		o := must(t, p)
		told := laid.Tell(o, p.Graph.N)
		alive := aliveOf(told)
		for _, u := range alive {
			for range 4 {
				b := bounds{Hops: choice(-1, 0, 1, 2, 3, full), Settles: choice(-1, 0, 1, 2, 3, 5, 8, full)}
				b.Most = uint64(choice(0, 1, 6, 7, 8, 14, 20, api.MaxWeight/8, api.MaxWeight, api.MaxTotal, api.MaxTotal+10, -1))
				skip := dice.Below(p.Graph.N+2) - 1
				var goals ints
				for range dice.Below(2 * len(alive)) {
					goals = append(goals, alive[dice.Below(len(alive))])
				}
				seen := told.Seen(u, skip, laid.Bounds(b))
				checkFind(t, o, u, skip, goals, b, pick(seen, goals)...)
				checkFind(t, o, u, skip, alive, b, pick(seen, alive)...)
			}
		}
		if !laid.Same(laid.Tell(o, p.Graph.N), told) {
			t.Errorf("the overlay of %v has changed", p)
		}
	}
}

// Every bound and every node left out that can make a difference, in graphs with many alike distances, each goal by itself too.
func TestP12_1EveryBound(t *testing.T) {
	dice := sample.Dice{Seed: 12}
	for range 40 {
		n := 2 + dice.Below(5)
		p := laid.Plan{Graph: dice.Graph(n, 3*n, 1+dice.Below(4))}
		o := must(t, p)
		told := laid.Tell(o, n)
		all := aliveOf(told)
		for skip := range n {
			for hops := -1; hops <= n; hops++ {
				for settles := -1; settles <= n+1; settles++ {
					for most := range uint64(8) {
						b := bounds{most, hops, settles}
						seen := told.Seen(0, skip, laid.Bounds(b))
						checkFind(t, o, 0, skip, all, b, seen...)
						goal := dice.Below(n)
						checkFind(t, o, 0, skip, ints{goal}, b, seen[goal])
					}
				}
			}
		}
	}
}

func TestP12_1AsTheModelAtLength(t *testing.T) {
	const n = 300
	dice := sample.Dice{Seed: 300}
	p := laid.Plan{Graph: dice.Graph(n, 1500, 100), Gone: dice.Shuffled(n)[:50]}
	o := must(t, p)
	told := laid.Tell(o, n)
	alive := aliveOf(told)
	for range 200 {
		u, skip := alive[dice.Below(len(alive))], dice.Below(n)
		b := bounds{uint64(dice.Below(400)), dice.Below(12), dice.Below(n)}
		checkFind(t, o, u, skip, alive, b, pick(told.Seen(u, skip, laid.Bounds(b)), alive)...)
	}
}

func TestP12_2Bounds(t *testing.T) {
	for n, want := range map[int]int{math.MinInt: 0, -3: 0, -1: 0, 0: 0, 1: 1, 2: 2, 5000: 5000, full - 1: full - 1, full: full, full + 1: full, 2000000: full, 1 << 32: full, math.MaxInt: full} {
		for other, wantOther := range map[int]int{-1: 0, 7: 7, full + 1: full} {
			if hops, settles := Bounds(api.Options{Hops: n, Settles: other, Edge: 3, Deleted: -4, Depth: 5}); hops != want || settles != wantOther {
				t.Errorf("Bounds of %d, %d: %d, %d", n, other, hops, settles)
			}
			if hops, settles := Bounds(api.Options{Hops: other, Settles: n}); hops != wantOther || settles != want {
				t.Errorf("Bounds of %d, %d: %d, %d", other, n, hops, settles)
			}
		}
	}
	if hops, settles := Bounds(api.Options{Hops: -3, Settles: 2000000}); hops != 0 || settles != 1048576 {
		t.Errorf("Bounds: %d, %d", hops, settles)
	}
}

// What is seen is the length of a path without skip, whatever the bounds.
func TestP12_3LengthsOfWalks(t *testing.T) {
	dice := sample.Dice{Seed: 123}
	for p := range laid.Some() {
		if p.Graph.N > 5 {
			continue
		}
		o := must(t, p)
		told := laid.Tell(o, p.Graph.N)
		alive := aliveOf(told)
		for _, u := range alive {
			skip := dice.Below(p.Graph.N+2) - 1
			lengths := told.Paths(u, skip)
			b := bounds{uint64(dice.Below(20)), dice.Below(5), dice.Below(5)}
			seen, err := find(o, u, skip, alive, b)
			if err != nil || len(seen) != len(alive) {
				t.Fatalf("%v: Find(%d, %d, %v, %v): %v, %v", p, u, skip, alive, b, seen, err)
			}
			for i, dist := range seen {
				if dist != none && !slices.Contains(lengths[alive[i]], dist) {
					t.Errorf("%v: Find(%d, %d, %v, %v): no path to %d has the length %d", p, u, skip, alive, b, alive[i], dist)
				}
			}
		}
	}
}

func TestP12_3Distances(t *testing.T) {
	for p := range laid.Some() {
		o := must(t, p)
		told := laid.Tell(o, p.Graph.N)
		alive := aliveOf(told)
		for _, skip := range append(ints{-1, p.Graph.N}, alive...) {
			dist := told.Distances(skip)
			for _, u := range alive {
				if u != skip {
					checkFind(t, o, u, skip, alive, bounds{far, full, full}, pick(dist[u], alive)...)
				}
			}
		}
	}
}

// Along the longest path of the dearest arcs no sum wraps round.
func TestP12_3GreatestDistance(t *testing.T) {
	const n = api.MaxNodes
	p := laid.Plan{Graph: api.Graph{N: n}}
	for v := range n - 1 {
		p.Puts = append(p.Puts, laid.Arc{From: v, To: v + 1, Weight: api.MaxTotal})
	}
	o := must(t, p)
	last := uint64(n-1) * api.MaxTotal
	goals := ints{n - 1, 0, n - 2}
	checkFind(t, o, 0, -1, goals, bounds{far, full, full}, last, 0, last-api.MaxTotal)
	checkFind(t, o, 0, n/2, goals, bounds{far, full, full}, none, 0, none)
	checkFind(t, o, 0, -1, goals, bounds{far, n - 1, n - 1}, last, 0, last-api.MaxTotal)
	checkFind(t, o, 0, -1, goals, bounds{far, n - 2, full}, none, 0, last-api.MaxTotal)
	checkFind(t, o, 0, -1, goals, bounds{far, full, n - 2}, none, 0, last-api.MaxTotal)
	checkFind(t, o, 0, -1, goals, bounds{last - api.MaxTotal, full, full}, last, 0, last-api.MaxTotal)
	checkFind(t, o, 0, -1, goals, bounds{last - api.MaxTotal - 1, full, full}, none, 0, last-api.MaxTotal)
}

// A graph at the limits: MaxNodes nodes in a ring, MaxArcs arcs, each of four leading one to four nodes on.
func TestP12_3GreatestGraph(t *testing.T) {
	const n, steps = api.MaxNodes, api.MaxArcs / api.MaxNodes
	g := api.Graph{N: n}
	for v := range n {
		for step := 1; step <= steps; step++ {
			g.Arcs = append(g.Arcs, api.Arc{From: v, To: (v + step) % n, Weight: api.MaxWeight})
		}
	}
	o := must(t, laid.Plan{Graph: g})
	var goals ints
	var want []uint64
	for v := n - 1; v >= 0; v-- {
		goals = append(goals, v, v)
		dist := uint64(v+steps-1) / steps * api.MaxWeight
		want = append(want, dist, dist)
	}
	checkFind(t, o, 0, -1, goals, bounds{far, full, full}, want...)
}

// A search without bounds goes no further than its goals ask for, in whatever order and however often they stand there.
func TestSearchEndsAtItsGoals(t *testing.T) {
	const n = 1000
	p := laid.Plan{Graph: api.Graph{N: n}}
	for v := range n {
		p.Graph.Arcs = append(p.Graph.Arcs, api.Arc{From: v, To: (v + 1) % n, Weight: 1})
	}
	o := must(t, p)
	for _, goals := range []ints{{3, 1, 3, 0}, {2, 3, 2}, {3}, {1, 2, 3, 3, 2, 1}} {
		s := newSearch(o, -1, goals)
		s.run(0, far, full, full)
		if len(s.labels) != 5 {
			t.Errorf("to see %v a search has labelled %d nodes", goals, len(s.labels))
		}
	}
}

// P2: the same question has the same answer, whatever was asked before.
func TestQuestionsChangeNothing(t *testing.T) {
	o, other := example(t), must(t, worn())
	for range 3 {
		checkFind(t, o, 0, 1, ints{2, 3}, bounds{99, 5, 5}, 9, 11)
		checkRefused(t, o, 0, -1, ints{1, 9}, bounds{99, 5, 5}, atGoal(1))
		checkFind(t, other, 3, 0, ints{1, 2}, bounds{99, 5, 5}, 14, 15)
		checkFind(t, o, 0, -1, ints{2, 3}, bounds{99, 5, 5}, 5, 7)
	}
}

// The overlay's later answers are those of what it has become.
func TestFindFollowsTheOverlay(t *testing.T) {
	o := example(t)
	if err := o.Remove(1); err != nil {
		t.Fatal(err)
	}
	checkFind(t, o, 0, -1, ints{2, 3}, bounds{99, 5, 5}, 9, 11)
	checkRefused(t, o, 0, -1, ints{2, 1}, bounds{99, 5, 5}, atGoal(1))
	if _, err := o.Put(0, 3, 6, 1); err != nil {
		t.Fatal(err)
	}
	checkFind(t, o, 0, -1, ints{2, 3}, bounds{99, 5, 5}, 9, 6)
}

// The list of goals stays as it is, in its order, spare room too; what lies there is no goal.
func TestMemoryOfGoals(t *testing.T) {
	o := example(t)
	for _, goals := range []ints{nil, {3, 1, 2, 1, 3}, {0}, {2, 2, 2}} {
		roomy := sample.RoomyList(goals, 9)
		before := sample.RoomOf(roomy)
		seen, err := find(o, 0, -1, roomy, bounds{99, 5, 5})
		if err != nil || len(seen) != len(goals) {
			t.Errorf("Find of %v: %v, %v", goals, seen, err)
		}
		if !slices.Equal(roomy[:cap(roomy)], before) {
			t.Errorf("the goals %v are now %v", before, roomy[:cap(roomy)])
		}
		sample.SpoilList(roomy, 0)
		if len(goals) > 0 && goals[0] == 3 && !slices.Equal(seen, []uint64{7, 4, 5, 4, 7}) {
			t.Errorf("an answer is now %v", seen)
		}
	}
}

// Writing over an answer, spare room too, changes neither another one nor the overlay.
func TestMemoryOfAnswers(t *testing.T) {
	o := example(t)
	told := laid.Tell(o, 4)
	one, err := find(o, 0, -1, ints{2, 3}, bounds{99, 5, 5})
	if err != nil {
		t.Fatal(err)
	}
	two, err := find(o, 0, -1, ints{2, 3}, bounds{99, 5, 5})
	if err != nil {
		t.Fatal(err)
	}
	sample.SpoilList(one, 77)
	if !slices.Equal(two, []uint64{5, 7}) {
		t.Errorf("another answer is now %v", two)
	}
	checkFind(t, o, 0, -1, ints{2, 3}, bounds{99, 5, 5}, 5, 7)
	if !laid.Same(laid.Tell(o, 4), told) {
		t.Errorf("the overlay is now %v", laid.Tell(o, 4))
	}
}
