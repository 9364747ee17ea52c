package normal

import (
	"slices"
	"testing"

	"viaduct/api"
	"viaduct/fault"
	"viaduct/gtext"
	"viaduct/sample"
)

// row: the numbers of an arc.
type row = [3]int

func graphOf(n int, rows ...row) api.Graph { return sample.Graph(n, rows...) }

func atArc(i int, e api.Errno) error { return fault.At(api.AtArc, i, e) }

// call is one of the package's functions that make a graph of one.
type call = func(api.Graph) (api.Graph, error)

func checkMade(t *testing.T, name string, f call, g, want api.Graph) {
	t.Helper()
	if made, err := f(g); err != nil || !sample.SameGraph(made, want) {
		t.Errorf("%s(%.200v): %.200v, %v, wanted %.200v", name, g, made, err, want)
	}
}

func checkIs(t *testing.T, g api.Graph, want bool) {
	t.Helper()
	if is, err := Is(g); err != nil || is != want {
		t.Errorf("Is(%.200v): %v, %v, wanted %v", g, is, err, want)
	}
}

func checkMerge(t *testing.T, a, b, want api.Graph, wantErr error) {
	t.Helper()
	made, err := Merge(a, b)
	if !sample.SameError(err, wantErr) || !sample.SameGraph(made, want) {
		t.Errorf("Merge(%.200v, %.200v): %.200v, %v, wanted %.200v, %v", a, b, made, err, want, wantErr)
	}
}

func checkDegrees(t *testing.T, g api.Graph, wantFrom, wantTo []int) {
	t.Helper()
	from, to, err := Degrees(g)
	if err != nil || !slices.Equal(from, wantFrom) || !slices.Equal(to, wantTo) {
		t.Errorf("Degrees(%.200v): %.200v, %.200v, %v, wanted %.200v, %.200v", g, from, to, err, wantFrom, wantTo)
	}
}

// must: what the function makes of a graph that is right.
func must(t *testing.T, f call, g api.Graph) api.Graph {
	t.Helper()
	made, err := f(g)
	if err != nil {
		t.Fatalf("the graph %.200v: %v", g, err)
	}
	return made
}

func TestWrongGraphs(t *testing.T) {
	for _, w := range sample.Wrong() {
		for _, f := range []call{Of, Reverse} {
			if made, err := f(w.Graph); !sample.SameError(err, w.Err) || !sample.SameGraph(made, api.Graph{}) {
				t.Errorf("%s: %.200v, %v, wanted %v", w.Name, made, err, w.Err)
			}
		}
		if is, err := Is(w.Graph); is || !sample.SameError(err, w.Err) {
			t.Errorf("%s: Is: %v, %v, wanted %v", w.Name, is, err, w.Err)
		}
		from, to, err := Degrees(w.Graph)
		if len(from) != 0 || len(to) != 0 || !sample.SameError(err, w.Err) {
			t.Errorf("%s: Degrees: %.200v, %.200v, %v, wanted %v", w.Name, from, to, err, w.Err)
		}
		right := graphOf(2, row{0, 1, 5})
		checkMerge(t, w.Graph, right, api.Graph{}, w.Err)
		checkMerge(t, right, w.Graph, api.Graph{}, w.Err)
		for _, other := range sample.Wrong() {
			checkMerge(t, w.Graph, other.Graph, api.Graph{}, w.Err)
		}
	}
}

func TestP4_1Of(t *testing.T) {
	checkMade(t, "Of", Of, graphOf(3, row{2, 0, 5}, row{0, 1, 4}, row{1, 1, 0}, row{0, 1, 3}, row{0, 1, 3}), graphOf(3, row{0, 1, 3}, row{2, 0, 5}))
	checkMade(t, "Of", Of, api.Graph{}, api.Graph{})
	checkMade(t, "Of", Of, graphOf(1, row{0, 0, 0}), graphOf(1))
	checkMade(t, "Of", Of, graphOf(2, row{0, 1, api.MaxWeight}, row{0, 1, 0}, row{1, 0, api.MaxWeight}), graphOf(2, row{0, 1, 0}, row{1, 0, api.MaxWeight}))
	for g := range sample.Some() {
		checkMade(t, "Of", Of, g, sample.Normal(g))
	}
}

func TestP4_1Is(t *testing.T) {
	checkIs(t, graphOf(3, row{0, 1, 3}, row{2, 0, 5}), true)
	checkIs(t, graphOf(2, row{0, 1, 1}, row{0, 1, 2}), false)
	checkIs(t, graphOf(2, row{0, 1, 2}, row{0, 1, 2}), false)
	checkIs(t, graphOf(2, row{1, 0, 1}, row{0, 1, 1}), false)
	checkIs(t, graphOf(3, row{0, 2, 1}, row{0, 1, 1}), false)
	checkIs(t, graphOf(3, row{0, 2, 1}, row{1, 0, 1}), true)
	checkIs(t, graphOf(1, row{0, 0, 0}), false)
	checkIs(t, graphOf(3, row{0, 1, 3}, row{2, 0, 5}, row{2, 2, 0}), false)
	checkIs(t, api.Graph{}, true)
	checkIs(t, api.Graph{Arcs: []api.Arc{}}, true)
	for g := range sample.Some() {
		checkIs(t, g, sample.SameGraph(g, sample.Normal(g)))
		checkIs(t, sample.Normal(g), true)
	}
}

func TestP4_2Reverse(t *testing.T) {
	checkMade(t, "Reverse", Reverse, graphOf(2, row{0, 1, 4}, row{1, 1, 2}), graphOf(2, row{1, 0, 4}, row{1, 1, 2}))
	checkMade(t, "Reverse", Reverse, api.Graph{}, api.Graph{})
	checkMade(t, "Reverse", Reverse, graphOf(3, row{2, 1, 0}, row{0, 2, 7}, row{2, 1, 0}), graphOf(3, row{1, 2, 0}, row{2, 0, 7}, row{1, 2, 0}))
	for g := range sample.Some() {
		turned := must(t, Reverse, g)
		if turned.N != g.N || len(turned.Arcs) != len(g.Arcs) {
			t.Fatalf("Reverse(%v): %v", g, turned)
		}
		for i, arc := range g.Arcs {
			if back := turned.Arcs[i]; back.From != arc.To || back.To != arc.From || back.Weight != arc.Weight {
				t.Errorf("Reverse(%v): %v", g, turned)
			}
		}
		checkMade(t, "Reverse", Reverse, turned, g)
	}
}

func TestP4_3Merge(t *testing.T) {
	two, more := graphOf(2, row{0, 1, 4}, row{1, 1, 2}), graphOf(2, row{0, 1, 3}, row{1, 0, 0}, row{0, 1, 4})
	checkMerge(t, two, more, graphOf(2, row{0, 1, 4}, row{1, 1, 2}, row{0, 1, 3}, row{1, 0, 0}, row{0, 1, 4}), nil)
	checkMerge(t, more, two, graphOf(2, row{0, 1, 3}, row{1, 0, 0}, row{0, 1, 4}, row{0, 1, 4}, row{1, 1, 2}), nil)
	checkMerge(t, two, two, graphOf(2, row{0, 1, 4}, row{1, 1, 2}, row{0, 1, 4}, row{1, 1, 2}), nil)
	checkMerge(t, two, graphOf(2), two, nil)
	checkMerge(t, graphOf(2), two, two, nil)
	checkMerge(t, api.Graph{}, api.Graph{}, api.Graph{}, nil)
}

func TestP4_3MergeErrors(t *testing.T) {
	two := graphOf(2, row{0, 1, 4})
	checkMerge(t, graphOf(2), graphOf(3), api.Graph{}, api.ErrArg)
	checkMerge(t, graphOf(3), two, api.Graph{}, api.ErrArg)
	checkMerge(t, graphOf(0), two, api.Graph{}, api.ErrArg)

	full := graphOf(2, make([]row, api.MaxArcs)...)
	most := graphOf(2, make([]row, api.MaxArcs-1)...)
	checkMerge(t, full, graphOf(2), full, nil)
	checkMerge(t, graphOf(2), full, full, nil)
	checkMerge(t, most, two, graphOf(2, append(make([]row, api.MaxArcs-1), row{0, 1, 4})...), nil)
	checkMerge(t, full, two, api.Graph{}, api.ErrLimit)
	checkMerge(t, two, full, api.Graph{}, api.ErrLimit)
	checkMerge(t, full, full, api.Graph{}, api.ErrLimit)
	// Unlike N is asked ahead of the arcs that are too many, and each graph for itself ahead of both.
	checkMerge(t, full, graphOf(3, row{0, 1, 4}), api.Graph{}, api.ErrArg)
	checkMerge(t, full, graphOf(2, row{0, 1, 4}, row{0, 2, 4}), api.Graph{}, atArc(1, api.ErrNode))
	checkMerge(t, graphOf(3, row{0, 3, 4}), two, api.Graph{}, atArc(0, api.ErrNode))
	checkMerge(t, graphOf(2, row{0, 1, 4}, row{0, 1, -4}), graphOf(2, row{0, 2, 4}), api.Graph{}, atArc(1, api.ErrWeight))
}

func TestP4_4Degrees(t *testing.T) {
	checkDegrees(t, graphOf(2, row{0, 1, 4}, row{1, 1, 2}), []int{1, 1}, []int{0, 2})
	checkDegrees(t, api.Graph{}, nil, nil)
	checkDegrees(t, graphOf(3), []int{0, 0, 0}, []int{0, 0, 0})
	checkDegrees(t, graphOf(3, row{2, 0, 5}, row{2, 0, 5}, row{2, 2, 0}, row{2, 1, 1}), []int{0, 0, 4}, []int{2, 1, 1})
	for g := range sample.Some() {
		from, to := make([]int, g.N), make([]int, g.N)
		for node := range g.N {
			for _, arc := range g.Arcs {
				if arc.From == node {
					from[node]++
				}
				if arc.To == node {
					to[node]++
				}
			}
		}
		checkDegrees(t, g, from, to)
	}
}

func TestGreatestGraphs(t *testing.T) {
	dice := sample.Dice{Seed: 44}
	g := dice.Graph(api.MaxNodes, api.MaxArcs, api.MaxWeight)
	made := must(t, Of, g)
	checkIs(t, made, true)
	cheapest := map[[2]int]int{}
	for _, arc := range g.Arcs {
		ends := [2]int{arc.From, arc.To}
		if known, there := cheapest[ends]; arc.From != arc.To && (!there || arc.Weight < known) {
			cheapest[ends] = arc.Weight
		}
	}
	if made.N != api.MaxNodes || len(made.Arcs) != len(cheapest) {
		t.Fatalf("%d nodes, %d arcs of %d", made.N, len(made.Arcs), len(cheapest))
	}
	for _, arc := range made.Arcs {
		if weight, there := cheapest[[2]int{arc.From, arc.To}]; !there || weight != arc.Weight {
			t.Fatalf("the arc %v", arc)
		}
	}
	checkMade(t, "Reverse", Reverse, must(t, Reverse, g), g)
	from, to, err := Degrees(g)
	if err != nil || len(from) != api.MaxNodes || len(to) != api.MaxNodes {
		t.Fatalf("Degrees: %d, %d, %v", len(from), len(to), err)
	}
	checkDegrees(t, must(t, Reverse, g), to, from)
	checkMade(t, "Of", Of, graphOf(2, make([]row, api.MaxArcs)...), graphOf(2))
	checkDegrees(t, graphOf(2, make([]row, api.MaxArcs)...), []int{api.MaxArcs, 0}, []int{api.MaxArcs, 0})
}

func TestP4_5OnceIsEnough(t *testing.T) {
	for g := range sample.Some() {
		once := must(t, Of, g)
		checkIs(t, once, true)
		checkMade(t, "Of", Of, once, once)
		checkMade(t, "Of", Of, must(t, Reverse, g), must(t, Of, must(t, Reverse, once)))
	}
}

func TestP4_5Distances(t *testing.T) {
	for g := range sample.Some() {
		far, farMade := sample.Distances(g), sample.Distances(must(t, Of, g))
		if !slices.EqualFunc(far, farMade, slices.Equal) {
			t.Errorf("the distances of %v: %v, of its normal graph: %v", g, far, farMade)
		}
	}
}

func TestP4_5CheaperOfBoth(t *testing.T) {
	last := graphOf(0)
	for g := range sample.Some() {
		other := last
		last = g
		if other.N != g.N {
			continue
		}
		both, err := Merge(g, other)
		if err != nil {
			t.Fatalf("Merge(%v, %v): %v", g, other, err)
		}
		weights := map[[2]int]int{}
		for _, arc := range slices.Concat(sample.Normal(g).Arcs, sample.Normal(other).Arcs) {
			ends := [2]int{arc.From, arc.To}
			if known, there := weights[ends]; !there || arc.Weight < known {
				weights[ends] = arc.Weight
			}
		}
		made := must(t, Of, both)
		if len(made.Arcs) != len(weights) {
			t.Errorf("Of(Merge(%v, %v)): %v", g, other, made)
		}
		for _, arc := range made.Arcs {
			if weight, there := weights[[2]int{arc.From, arc.To}]; !there || weight != arc.Weight {
				t.Errorf("Of(Merge(%v, %v)): %v, the arc %v", g, other, made, arc)
			}
		}
	}
}

// makers: the calls that answer a graph. Merging with a graph without arcs is one, as the argument itself might be answered there.
func makers() map[string]call {
	return map[string]call{
		"Of":              Of,
		"Reverse":         Reverse,
		"Merge with none": func(g api.Graph) (api.Graph, error) { return Merge(g, graphOf(g.N)) },
		"Merge behind":    func(g api.Graph) (api.Graph, error) { return Merge(graphOf(g.N), g) },
		"Merge itself":    func(g api.Graph) (api.Graph, error) { return Merge(g, g) },
	}
}

func TestMemory(t *testing.T) {
	for name, f := range makers() {
		for _, rows := range [][]row{{}, {{0, 1, 5}}, {{0, 1, 5}, {2, 0, 1}}, {{2, 0, 1}, {0, 1, 5}, {1, 1, 0}, {0, 1, 4}}} {
			g := sample.Roomy(graphOf(3, rows...))
			before := sample.Room(g)
			first, second := must(t, f, g), must(t, f, g)
			kept := slices.Clone(second.Arcs)
			sample.Spoil(first.Arcs)
			if !slices.Equal(sample.Room(g), before) {
				t.Errorf("%s: the graph that was handed in is now %v, it was %v", name, sample.Room(g), before)
			}
			sample.Spoil(g.Arcs)
			if !slices.Equal(second.Arcs, kept) {
				t.Errorf("%s: the answer is now %v, it was %v", name, second.Arcs, kept)
			}
		}
	}
}

func TestMemoryOfDegrees(t *testing.T) {
	g := sample.Roomy(graphOf(2, row{0, 1, 4}, row{1, 1, 2}))
	before := sample.Room(g)
	from, to, err := Degrees(g)
	if err != nil {
		t.Fatal(err)
	}
	checkIs(t, g, false)
	for i := range from[:cap(from)] {
		from[:cap(from)][i] = -7
	}
	if !slices.Equal(to, []int{0, 2}) || !slices.Equal(sample.Room(g), before) {
		t.Errorf("Degrees: %v, of a graph that is now %v", to, sample.Room(g))
	}
	checkDegrees(t, g, []int{1, 1}, []int{0, 2})
}

// Whatever a call makes is right: the next layers ask no more of it.
func TestMadeIsRight(t *testing.T) {
	for g := range sample.Some() {
		for name, f := range makers() {
			if made := must(t, f, g); gtext.Check(made) != nil {
				t.Errorf("%s(%v): %v", name, g, made)
			}
		}
	}
}
