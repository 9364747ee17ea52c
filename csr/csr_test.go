package csr

import (
	"math"
	"slices"
	"testing"

	"viaduct/api"
	"viaduct/fault"
	"viaduct/normal"
	"viaduct/sample"
)

// row: the numbers of an arc.
type row = [3]int

// ints: the numbers of an array.
type ints = []int

func graphOf(n int, rows ...row) api.Graph { return sample.Graph(n, rows...) }

func atNode(v int, e api.Errno) error { return fault.At(api.AtNode, v, e) }
func atArc(i int, e api.Errno) error  { return fault.At(api.AtArc, i, e) }

// example: the graph of the chapter's examples. exampleArrays: its arrays.
func example() api.Graph {
	return graphOf(3, row{2, 0, 5}, row{0, 1, 4}, row{0, 2, 1}, row{1, 1, 0})
}

func exampleArrays() Csr {
	return Csr{First: ints{0, 2, 2, 3}, To: ints{1, 2, 0}, Weight: ints{4, 1, 5}}
}

func same(a, b Csr) bool {
	return slices.Equal(a.First, b.First) && slices.Equal(a.To, b.To) && slices.Equal(a.Weight, b.Weight)
}

// maker is one of the package's functions that make arrays.
type maker = func(api.Graph) (Csr, error)

func checkMade(t *testing.T, name string, f maker, g api.Graph, want Csr, wantErr error) {
	t.Helper()
	if made, err := f(g); !sample.SameError(err, wantErr) || !same(made, want) {
		t.Errorf("%s(%.200v): %.200v, %v, wanted %.200v, %v", name, g, made, err, want, wantErr)
	}
}

func checkCheck(t *testing.T, c Csr, want error) {
	t.Helper()
	if err := Check(c); !sample.SameError(err, want) {
		t.Errorf("Check(%.200v): %v, wanted %v", c, err, want)
	}
}

func checkGraph(t *testing.T, c Csr, want api.Graph, wantErr error) {
	t.Helper()
	if g, err := Graph(c); !sample.SameError(err, wantErr) || !sample.SameGraph(g, want) {
		t.Errorf("Graph(%.200v): %.200v, %v, wanted %.200v, %v", c, g, err, want, wantErr)
	}
}

func checkRow(t *testing.T, c Csr, v int, want []api.Arc, wantErr error) {
	t.Helper()
	if arcs, err := Row(c, v); !sample.SameError(err, wantErr) || !slices.Equal(arcs, want) {
		t.Errorf("Row(%.200v, %d): %.200v, %v, wanted %.200v, %v", c, v, arcs, err, want, wantErr)
	}
}

func checkFind(t *testing.T, c Csr, v, w, want int, wantErr error) {
	t.Helper()
	if weight, err := Find(c, v, w); !sample.SameError(err, wantErr) || weight != want {
		t.Errorf("Find(%.200v, %d, %d): %d, %v, wanted %d, %v", c, v, w, weight, err, want, wantErr)
	}
}

// must: the arrays of a graph that is right.
func must(t *testing.T, f maker, g api.Graph) Csr {
	t.Helper()
	c, err := f(g)
	if err != nil {
		t.Fatalf("the graph %.200v: %v", g, err)
	}
	return c
}

// model: the arrays of a normal graph, node by node.
func model(g api.Graph) Csr {
	c := Csr{First: ints{0}}
	for v := range g.N {
		for _, arc := range g.Arcs {
			if arc.From == v {
				c.To, c.Weight = append(c.To, arc.To), append(c.Weight, arc.Weight)
			}
		}
		c.First = append(c.First, len(c.To))
	}
	return c
}

func turned(g api.Graph) api.Graph {
	made := api.Graph{N: g.N}
	for _, arc := range g.Arcs {
		made.Arcs = append(made.Arcs, api.Arc{From: arc.To, To: arc.From, Weight: arc.Weight})
	}
	return made
}

func TestP5_1Build(t *testing.T) {
	checkMade(t, "Build", Build, example(), exampleArrays(), nil)
	checkMade(t, "Build", Build, graphOf(0), Csr{First: ints{0}}, nil)
	checkMade(t, "Build", Build, graphOf(3), Csr{First: ints{0, 0, 0, 0}}, nil)
	checkMade(t, "Build", Build, graphOf(1, row{0, 0, 7}), Csr{First: ints{0, 0}}, nil)
	parallel := graphOf(2, row{1, 0, 3}, row{1, 0, 2}, row{0, 1, api.MaxWeight}, row{1, 0, 9}, row{0, 0, 0})
	checkMade(t, "Build", Build, parallel, Csr{First: ints{0, 1, 2}, To: ints{1, 0}, Weight: ints{api.MaxWeight, 2}}, nil)
	for g := range sample.Some() {
		checkMade(t, "Build", Build, g, model(sample.Normal(g)), nil)
	}
}

func TestP5_1Back(t *testing.T) {
	checkMade(t, "Back", Back, example(), Csr{First: ints{0, 1, 2, 3}, To: ints{2, 0, 0}, Weight: ints{5, 4, 1}}, nil)
	checkMade(t, "Back", Back, graphOf(0), Csr{First: ints{0}}, nil)
	checkMade(t, "Back", Back, graphOf(3), Csr{First: ints{0, 0, 0, 0}}, nil)
	for g := range sample.Some() {
		checkMade(t, "Back", Back, g, model(sample.Normal(turned(g))), nil)
	}
}

func TestP5_1WrongGraphs(t *testing.T) {
	for _, w := range sample.Wrong() {
		checkMade(t, w.Name+": Build", Build, w.Graph, Csr{}, w.Err)
		checkMade(t, w.Name+": Back", Back, w.Graph, Csr{}, w.Err)
	}
}

func TestCheck(t *testing.T) {
	checkCheck(t, exampleArrays(), nil)
	checkCheck(t, Csr{First: ints{0}}, nil)
	checkCheck(t, Csr{First: ints{0}, To: ints{}, Weight: ints{}}, nil)
	checkCheck(t, Csr{First: ints{0, 0, 0}}, nil)
	checkCheck(t, Csr{First: ints{0, 1, 2}, To: ints{1, 0}, Weight: ints{0, api.MaxWeight}}, nil)
	// What the arc ahead of it leads to counts only where both lead from the same node.
	checkCheck(t, Csr{First: ints{0, 1, 3, 4}, To: ints{2, 0, 2, 1}, Weight: ints{1, 1, 1, 1}}, nil)
	checkCheck(t, Csr{First: ints{0, 1, 1, 2, 2}, To: ints{1, 1}, Weight: ints{1, 1}}, nil)
	for _, w := range sample.WrongArrays() {
		t.Run(w.Name, func(t *testing.T) { checkCheck(t, Csr(w.Arrays), w.Err) })
	}
}

func TestCheckOrder(t *testing.T) {
	// The lengths ahead of a fall of First, that ahead of the arcs.
	checkCheck(t, Csr{First: ints{0, 2, 1, 1}, To: ints{1}}, api.ErrShape)
	checkCheck(t, Csr{First: ints{0, 2, 1, 2}, To: ints{1}, Weight: ints{1}}, api.ErrShape)
	checkCheck(t, Csr{First: ints{0, 1, 0, 1}, To: ints{9}, Weight: ints{-1}}, atNode(1, api.ErrShape))
	// Of one arc: its node, its form, its weight.
	checkCheck(t, Csr{First: ints{0, 2, 2}, To: ints{1, -1}, Weight: ints{1, -1}}, atArc(1, api.ErrNode))
	checkCheck(t, Csr{First: ints{0, 1, 1}, To: ints{0}, Weight: ints{-1}}, atArc(0, api.ErrShape))
	checkCheck(t, Csr{First: ints{0, 2, 2}, To: ints{1, 1}, Weight: ints{1, -1}}, atArc(1, api.ErrShape))
	// Of several arcs the first that has a fault, whichever it is.
	checkCheck(t, Csr{First: ints{0, 2, 2}, To: ints{1, 9}, Weight: ints{-1, 1}}, atArc(0, api.ErrWeight))
	checkCheck(t, Csr{First: ints{0, 1, 2}, To: ints{0, 9}, Weight: ints{1, 1}}, atArc(0, api.ErrShape))
	checkCheck(t, Csr{First: ints{0, 1, 3}, To: ints{1, 0, 1}, Weight: ints{1, -1, 1}}, atArc(1, api.ErrWeight))
}

// full: the arrays of a graph of 600 nodes, 512 arcs from each of the first 512: MaxArcs in all.
func full() Csr {
	c := Csr{First: ints{0}}
	for v := range 600 {
		for i := range 512 {
			if v >= 512 {
				break
			}
			to := i
			if i >= v {
				to++
			}
			c.To, c.Weight = append(c.To, to), append(c.Weight, i)
		}
		c.First = append(c.First, len(c.To))
	}
	return c
}

func TestCheckLimits(t *testing.T) {
	checkCheck(t, Csr{First: make(ints, api.MaxNodes+1)}, nil)
	checkCheck(t, Csr{First: make(ints, api.MaxNodes+2)}, api.ErrLimit)

	most := full()
	if len(most.To) != api.MaxArcs {
		t.Fatalf("%d arcs", len(most.To))
	}
	checkCheck(t, most, nil)
	more := Csr{First: most.First, To: append(most.To, 0), Weight: append(most.Weight, 0)}
	checkCheck(t, more, api.ErrShape)
	more.First[600]++
	checkCheck(t, more, api.ErrLimit)

	// The lengths are asked ahead of the limits, the limits ahead of First and the arcs.
	large := Csr{First: make(ints, api.MaxNodes+2)}
	large.First[0] = 1
	checkCheck(t, large, api.ErrShape)
	large.First[0], large.First[1] = 0, 1
	checkCheck(t, large, api.ErrLimit)
	more.First[1] = 0
	more.To[0], more.First[2] = 999, -1
	checkCheck(t, more, api.ErrLimit)
	more.Weight = more.Weight[1:]
	checkCheck(t, more, api.ErrShape)
}

// modelCheck: the chapter's words, one after the other.
func modelCheck(c Csr) error {
	n, m := len(c.First)-1, len(c.To)
	if n < 0 || c.First[0] != 0 || c.First[n] != m || m != len(c.Weight) {
		return api.ErrShape
	}
	for v := range n {
		if c.First[v+1] < c.First[v] {
			return atNode(v, api.ErrShape)
		}
	}
	from := ints{}
	for v := range n {
		from = append(from, slices.Repeat(ints{v}, c.First[v+1]-c.First[v])...)
	}
	for i := range m {
		if !slices.Contains(ints{0, 1, 2, 3}[:n], c.To[i]) {
			return atArc(i, api.ErrNode)
		}
		if c.To[i] == from[i] || i > 0 && from[i-1] == from[i] && c.To[i-1] >= c.To[i] {
			return atArc(i, api.ErrShape)
		}
		if c.Weight[i] < 0 || c.Weight[i] > api.MaxWeight {
			return atArc(i, api.ErrWeight)
		}
	}
	return nil
}

// lists calls f with every list of at most that many of the numbers.
func lists(numbers ints, most int, f func(list ints)) {
	var extend func(list ints)
	extend = func(list ints) {
		f(list)
		if len(list) == most {
			return
		}
		for _, number := range numbers {
			extend(append(slices.Clone(list), number))
		}
	}
	extend(nil)
}

func TestCheckAsTheModel(t *testing.T) {
	counts := map[bool]int{}
	check := func(c Csr) {
		want := modelCheck(c)
		counts[want == nil]++
		checkCheck(t, c, want)
	}
	lists(ints{-1, 0, 1, 2}, 4, func(first ints) {
		lists(ints{-1, 0, 1, 3}, 2, func(to ints) {
			lists(ints{-1, api.MaxWeight}, 2, func(weight ints) {
				check(Csr{First: first, To: to, Weight: weight})
			})
		})
	})
	for _, first := range []ints{{0, 1, 2, 4}, {0, 0, 3, 4}, {0, 2, 2, 4}, {0, 2, 4, 4}, {0, 4, 4}} {
		lists(ints{-1, 0, 1, 2, 3}, 4, func(to ints) {
			check(Csr{First: first, To: to, Weight: ints{0, 1, api.MaxWeight, 5}})
			check(Csr{First: first, To: to, Weight: ints{0, 1, api.MaxWeight + 1, 5}})
			check(Csr{First: first, To: to, Weight: ints{0, -1, 0, 5}})
		})
	}
	if counts[true] < 20 || counts[false] < 5000 {
		t.Errorf("%d right ones, %d wrong ones", counts[true], counts[false])
	}
}

func TestP5_2Graph(t *testing.T) {
	checkGraph(t, exampleArrays(), graphOf(3, row{0, 1, 4}, row{0, 2, 1}, row{2, 0, 5}), nil)
	checkGraph(t, Csr{First: ints{0}}, graphOf(0), nil)
	checkGraph(t, Csr{First: ints{0, 0, 0}}, graphOf(2), nil)
	checkGraph(t, Csr{First: ints{0, 0, 1, 1}, To: ints{2}, Weight: ints{api.MaxWeight}}, graphOf(3, row{1, 2, api.MaxWeight}), nil)
}

func TestP5_2Row(t *testing.T) {
	c := exampleArrays()
	checkRow(t, c, 0, graphOf(3, row{0, 1, 4}, row{0, 2, 1}).Arcs, nil)
	checkRow(t, c, 1, nil, nil)
	checkRow(t, c, 2, graphOf(3, row{2, 0, 5}).Arcs, nil)
	for _, v := range []int{3, 4, -1, math.MaxInt, math.MinInt} {
		checkRow(t, c, v, nil, api.ErrNode)
	}
	checkRow(t, Csr{First: ints{0}}, 0, nil, api.ErrNode)
	checkRow(t, Csr{First: ints{0}}, -1, nil, api.ErrNode)
}

func TestP5_2Find(t *testing.T) {
	c := exampleArrays()
	checkFind(t, c, 0, 2, 1, nil)
	checkFind(t, c, 0, 1, 4, nil)
	checkFind(t, c, 2, 0, 5, nil)
	for _, ends := range [][2]int{{0, 0}, {1, 0}, {1, 1}, {1, 2}, {2, 1}, {2, 2}} {
		checkFind(t, c, ends[0], ends[1], 0, api.ErrNoWalk)
	}
	for _, v := range []int{3, -1, math.MaxInt, math.MinInt} {
		checkFind(t, c, v, 0, 0, api.ErrNode)
		checkFind(t, c, 1, v, 0, api.ErrNode)
		checkFind(t, c, v, v, 0, api.ErrNode)
	}
	checkFind(t, Csr{First: ints{0}}, 0, 0, 0, api.ErrNode)
	checkFind(t, Csr{First: ints{0, 1, 1}, To: ints{1}, Weight: ints{0}}, 0, 1, 0, nil)
}

// Whatever else applies, arrays that are not right are told first.
func TestP5_2WrongArrays(t *testing.T) {
	for _, w := range sample.WrongArrays() {
		t.Run(w.Name, func(t *testing.T) {
			checkGraph(t, Csr(w.Arrays), api.Graph{}, w.Err)
			for _, v := range []int{0, 1, -1, math.MaxInt} {
				checkRow(t, Csr(w.Arrays), v, nil, w.Err)
				checkFind(t, Csr(w.Arrays), v, 0, 0, w.Err)
				checkFind(t, Csr(w.Arrays), 0, v, 0, w.Err)
			}
		})
	}
	checkGraph(t, Csr{First: make(ints, api.MaxNodes+2)}, api.Graph{}, api.ErrLimit)
	checkRow(t, Csr{First: make(ints, api.MaxNodes+2)}, 0, nil, api.ErrLimit)
	checkFind(t, Csr{First: make(ints, api.MaxNodes+2)}, -1, 0, 0, api.ErrLimit)
}

func TestP5_2AsTheGraph(t *testing.T) {
	for g := range sample.Some() {
		made := sample.Normal(g)
		c := model(made)
		checkGraph(t, c, made, nil)
		weights := map[[2]int]int{}
		for _, arc := range made.Arcs {
			weights[[2]int{arc.From, arc.To}] = arc.Weight
		}
		for v := range g.N {
			var arcs []api.Arc
			for w := range g.N {
				weight, there := weights[[2]int{v, w}]
				if there {
					checkFind(t, c, v, w, weight, nil)
					arcs = append(arcs, api.Arc{From: v, To: w, Weight: weight})
				} else {
					checkFind(t, c, v, w, 0, api.ErrNoWalk)
				}
			}
			checkRow(t, c, v, arcs, nil)
		}
	}
}

func TestP5_3ThereAndBack(t *testing.T) {
	for g := range sample.Some() {
		want, err := normal.Of(g)
		if err != nil {
			t.Fatal(err)
		}
		c := must(t, Build, g)
		checkGraph(t, c, want, nil)
		checkMade(t, "Build", Build, want, c, nil)
	}
}

func TestP5_3MadeIsRight(t *testing.T) {
	for g := range sample.Some() {
		checkCheck(t, must(t, Build, g), nil)
		checkCheck(t, must(t, Back, g), nil)
	}
}

func TestGreatestGraphs(t *testing.T) {
	dice := sample.Dice{Seed: 5}
	for _, g := range []api.Graph{
		graphOf(api.MaxNodes),
		graphOf(api.MaxNodes, row{api.MaxNodes - 1, 0, 1}, row{0, api.MaxNodes - 1, 2}),
		graphOf(1, make([]row, api.MaxArcs)...),
		dice.Graph(api.MaxNodes, api.MaxArcs, api.MaxWeight),
		dice.Graph(700, api.MaxArcs, api.MaxWeight),
	} {
		want, err := normal.Of(g)
		if err != nil {
			t.Fatal(err)
		}
		c := must(t, Build, g)
		checkCheck(t, c, nil)
		checkGraph(t, c, want, nil)
		back := must(t, Back, g)
		checkCheck(t, back, nil)
		checkMade(t, "Back", Back, turned(g), c, nil)
		if len(back.To) != len(c.To) {
			t.Errorf("%d arcs, turned about %d", len(c.To), len(back.To))
		}
	}
	most := full()
	g, err := Graph(most)
	if err != nil || len(g.Arcs) != api.MaxArcs {
		t.Fatalf("Graph: %d arcs, %v", len(g.Arcs), err)
	}
	checkMade(t, "Build", Build, g, most, nil)
	checkFind(t, most, 511, 510, 510, nil)
	checkFind(t, most, 511, 512, 511, nil)
	checkFind(t, most, 511, 513, 0, api.ErrNoWalk)
}

// roomy: the arrays with numbers that stand in none behind their ends. room: copies of the three, spare room too.
func roomy(c Csr) Csr { return Csr(sample.RoomyArrays(sample.Arrays(c))) }

func room(c Csr) []ints { return sample.RoomOfArrays(sample.Arrays(c)) }

func arrays(c Csr) []ints { return sample.Arrays(c).Lists() }

func TestMemoryOfArrays(t *testing.T) {
	for _, f := range []maker{Build, Back} {
		for _, rows := range [][]row{{}, {{0, 1, 5}}, {{2, 0, 1}, {0, 1, 5}, {1, 1, 0}, {0, 1, 4}}} {
			g := sample.Roomy(graphOf(3, rows...))
			before := sample.Room(g)
			for i := range 3 {
				first, second := must(t, f, g), must(t, f, g)
				sample.SpoilList(arrays(first)[i], -7)
				for k, list := range arrays(first) {
					if k != i && !slices.Equal(list, arrays(second)[k]) {
						t.Errorf("the arrays %d and %d of one answer share memory", i, k)
					}
				}
				if !same(second, must(t, f, g)) {
					t.Errorf("the answer is now %v", second)
				}
			}
			if !slices.Equal(sample.Room(g), before) {
				t.Errorf("the graph that was handed in is now %v, it was %v", sample.Room(g), before)
			}
			made := must(t, f, g)
			kept := room(made)
			sample.Spoil(g.Arcs)
			if !slices.EqualFunc(room(made), kept, slices.Equal) {
				t.Errorf("the answer is now %v, it was %v", made, kept)
			}
		}
	}
}

func TestMemoryOfAnswers(t *testing.T) {
	all := func(c Csr) ([]api.Arc, error) {
		g, err := Graph(c)
		return g.Arcs, err
	}
	first := func(c Csr) ([]api.Arc, error) { return Row(c, 0) }
	for _, f := range []func(Csr) ([]api.Arc, error){all, first} {
		c := roomy(exampleArrays())
		before := room(c)
		one, err := f(c)
		other, errOther := f(c)
		if err != nil || errOther != nil {
			t.Fatal(err, errOther)
		}
		kept := slices.Clone(other)
		sample.Spoil(one)
		if !slices.EqualFunc(room(c), before, slices.Equal) {
			t.Errorf("the arrays that were handed in are now %v, they were %v", room(c), before)
		}
		sample.SpoilArrays(sample.Arrays(c))
		if !slices.Equal(other, kept) {
			t.Errorf("the answer is now %v, it was %v", other, kept)
		}
	}
}

// What lies behind the arrays' ends counts for nothing, and stays.
func TestSpareRoom(t *testing.T) {
	c := roomy(exampleArrays())
	before := room(c)
	checkCheck(t, c, nil)
	checkGraph(t, c, graphOf(3, row{0, 1, 4}, row{0, 2, 1}, row{2, 0, 5}), nil)
	checkRow(t, c, 2, graphOf(3, row{2, 0, 5}).Arcs, nil)
	checkFind(t, c, 2, 0, 5, nil)
	checkFind(t, c, 2, 1, 0, api.ErrNoWalk)
	for _, w := range sample.WrongArrays() {
		wide := roomy(Csr(w.Arrays))
		kept := room(wide)
		checkCheck(t, wide, w.Err)
		if !slices.EqualFunc(room(wide), kept, slices.Equal) {
			t.Errorf("%s: the arrays are now %v", w.Name, room(wide))
		}
	}
	if !slices.EqualFunc(room(c), before, slices.Equal) {
		t.Errorf("the arrays are now %v, they were %v", room(c), before)
	}
}
