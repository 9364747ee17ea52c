package search

import (
	"cmp"
	"math"
	"slices"
	"testing"

	"viaduct/api"
	"viaduct/csr"
	"viaduct/sample"
)

// row: the numbers of an arc.
type row = [3]int

// ints: the numbers of an array.
type ints = []int

const (
	none = api.Unreached
	far  = math.MaxUint64
)

func graphOf(n int, rows ...row) api.Graph { return sample.Graph(n, rows...) }

// build: the arrays of a graph that is right.
func build(t *testing.T, g api.Graph) csr.Csr {
	t.Helper()
	c, err := csr.Build(g)
	if err != nil {
		t.Fatalf("the graph %.200v: %v", g, err)
	}
	return c
}

// example: the arrays of the chapter's examples.
func example(t *testing.T) csr.Csr {
	t.Helper()
	return build(t, graphOf(4, row{0, 1, 4}, row{1, 2, 1}, row{0, 2, 9}, row{2, 3, 2}))
}

func checkFrom(t *testing.T, c csr.Csr, s int, want []uint64, wantErr error) {
	t.Helper()
	if dist, err := From(c, s); !sample.SameError(err, wantErr) || !slices.Equal(dist, want) {
		t.Errorf("From(%.200v, %d): %.200v, %v, wanted %.200v, %v", c, s, dist, err, want, wantErr)
	}
}

func checkMatrix(t *testing.T, c csr.Csr, want [][]uint64, wantErr error) {
	t.Helper()
	if rows, err := Matrix(c); !sample.SameError(err, wantErr) || !slices.EqualFunc(rows, want, slices.Equal) {
		t.Errorf("Matrix(%.200v): %.200v, %v, wanted %.200v, %v", c, rows, err, want, wantErr)
	}
}

func checkBounded(t *testing.T, c csr.Csr, s int, b bounds, want []Label, wantErr error) {
	t.Helper()
	if labels, err := Bounded(c, s, b.hops, b.settles, b.most); !sample.SameError(err, wantErr) || !slices.Equal(labels, want) {
		t.Errorf("Bounded(%.200v, %d, %v): %.200v, %v, wanted %.200v, %v", c, s, b, labels, err, want, wantErr)
	}
}

// checkPathIs asks for one path; where several are as good, checkPath asks what they have in common.
func checkPathIs(t *testing.T, c csr.Csr, s, goal int, want ints, wantErr error) {
	t.Helper()
	if path, err := Path(c, s, goal); !sample.SameError(err, wantErr) || !slices.Equal(path, want) {
		t.Errorf("Path(%.200v, %d, %d): %.200v, %v, wanted %.200v, %v", c, s, goal, path, err, want, wantErr)
	}
}

func checkPath(t *testing.T, c csr.Csr, s, goal int, dist uint64) {
	t.Helper()
	if dist == none {
		checkPathIs(t, c, s, goal, nil, api.ErrNoWalk)
		return
	}
	path, err := Path(c, s, goal)
	if err != nil || len(path) == 0 || path[0] != s || path[len(path)-1] != goal {
		t.Errorf("Path(%.200v, %d, %d): %.200v, %v", c, s, goal, path, err)
		return
	}
	if sorted := slices.Sorted(slices.Values(path)); len(slices.Compact(sorted)) < len(path) {
		t.Errorf("Path(%.200v, %d, %d): %.200v has a node twice", c, s, goal, path)
	}
	if length := lengthOf(c, path); length != dist {
		t.Errorf("Path(%.200v, %d, %d): %.200v of the length %d, wanted %d", c, s, goal, path, length, dist)
	}
}

// lengthOf: the length of a walk through right arrays; Unreached, if it is none.
func lengthOf(c csr.Csr, walk ints) uint64 {
	length := uint64(0)
	for i := range len(walk) - 1 {
		begin, end := c.First[walk[i]], c.First[walk[i]+1]
		place := slices.Index(c.To[begin:end], walk[i+1])
		if place < 0 {
			return none
		}
		length += uint64(c.Weight[begin+place])
	}
	return length
}

// model: the bounded search in a normal graph, as the chapter's words have it, one after the other.
func model(g api.Graph, s int, b bounds) []Label {
	labels := map[int]Label{s: {Node: s}}
	for settled := 0; settled < max(0, b.settles); settled++ {
		least := leastOpen(g.N, labels)
		if least < 0 || labels[least].Dist > b.most {
			break
		}
		from := labels[least]
		from.Settled = true
		labels[least] = from
		for _, arc := range g.Arcs {
			if arc.From != least || from.Hops >= max(0, b.hops) || labels[arc.To].Settled {
				continue
			}
			d := from.Dist + uint64(arc.Weight)
			if known, has := labels[arc.To]; !has || known.Dist > d {
				labels[arc.To] = Label{Node: arc.To, Dist: d, Hops: from.Hops + 1}
			}
		}
	}
	var all []Label
	for _, label := range labels {
		all = append(all, label)
	}
	slices.SortFunc(all, func(a, b Label) int { return cmp.Compare(a.Node, b.Node) })
	return all
}

// leastOpen: of the nodes with a label that aren't settled the one to take next; -1, if there is none.
func leastOpen(n int, labels map[int]Label) int {
	least := -1
	for v := range n {
		label, has := labels[v]
		if has && !label.Settled && (least < 0 || label.Dist < labels[least].Dist) {
			least = v
		}
	}
	return least
}

// reachable: the labels of all nodes that can be reached, settled, as far as distances tell them: without hops.
func reachable(dist []uint64) []Label {
	var all []Label
	for v, d := range dist {
		if d != none {
			all = append(all, Label{Node: v, Dist: d, Settled: true})
		}
	}
	return all
}

func withoutHops(labels []Label) []Label {
	all := slices.Clone(labels)
	for i := range all {
		all[i].Hops = 0
	}
	return all
}

// noNodes are numbers that are no nodes of a graph of n.
func noNodes(n int) ints {
	return ints{n, n + 1, -1, -n - 1, math.MaxInt, math.MinInt, 1 << 32, -1 << 32}
}

func TestP8_1Examples(t *testing.T) {
	c := example(t)
	checkFrom(t, c, 0, []uint64{0, 4, 5, 7}, nil)
	checkFrom(t, c, 3, []uint64{none, none, none, 0}, nil)
	checkMatrix(t, c, [][]uint64{{0, 4, 5, 7}, {none, 0, 1, 3}, {none, none, 0, 2}, {none, none, none, 0}}, nil)
	checkFrom(t, c, 4, nil, api.ErrNode)
	checkFrom(t, csr.Csr{First: ints{1}}, 0, nil, api.ErrShape)
}

func TestP8_1NoNodesNoArcs(t *testing.T) {
	empty := csr.Csr{First: ints{0}}
	checkMatrix(t, empty, nil, nil)
	for _, s := range noNodes(0) {
		checkFrom(t, empty, s, nil, api.ErrNode)
	}
	checkFrom(t, csr.Csr{First: ints{0, 0}}, 0, []uint64{0}, nil)
	checkMatrix(t, csr.Csr{First: ints{0, 0}}, [][]uint64{{0}}, nil)
	bare := csr.Csr{First: ints{0, 0, 0, 0}, To: ints{}, Weight: ints{}}
	checkFrom(t, bare, 1, []uint64{none, 0, none}, nil)
	checkMatrix(t, bare, [][]uint64{{0, none, none}, {none, 0, none}, {none, none, 0}}, nil)
}

func TestP8_1Weights(t *testing.T) {
	round := build(t, graphOf(3, row{0, 1, 0}, row{1, 2, 0}, row{2, 0, 0}))
	checkMatrix(t, round, [][]uint64{{0, 0, 0}, {0, 0, 0}, {0, 0, 0}}, nil)
	const most = api.MaxWeight
	dear := build(t, graphOf(4, row{0, 1, most}, row{1, 2, most}, row{2, 3, most}, row{0, 3, most}, row{3, 2, 0}))
	checkFrom(t, dear, 0, []uint64{0, most, most, most}, nil)
	checkFrom(t, dear, 1, []uint64{none, 0, most, 2 * most}, nil)
}

func TestP8_1AsTheModel(t *testing.T) {
	for g := range sample.Some() {
		c, want := build(t, g), sample.Distances(g)
		checkMatrix(t, c, want, nil)
		for s := range g.N {
			checkFrom(t, c, s, want[s], nil)
		}
	}
}

func TestP8_1NoSuchNode(t *testing.T) {
	for _, s := range noNodes(4) {
		checkFrom(t, example(t), s, nil, api.ErrNode)
	}
}

// ring: n nodes, one arc from each to the next one, all of one weight.
func ring(n, weight int) api.Graph {
	g := api.Graph{N: n}
	for v := range n {
		g.Arcs = append(g.Arcs, api.Arc{From: v, To: (v + 1) % n, Weight: weight})
	}
	return g
}

func TestP8_1MatrixLimit(t *testing.T) {
	const n = 1024
	if n*n != api.MaxTable {
		t.Fatal("the square is not MaxTable")
	}
	rows, err := Matrix(build(t, ring(n, 3)))
	if err != nil || len(rows) != n {
		t.Fatalf("Matrix: %d rows, %v", len(rows), err)
	}
	for s, dist := range rows {
		for v, d := range dist {
			if d != uint64(3*((v-s+n)%n)) {
				t.Fatalf("the distance from %d to %d is %d", s, v, d)
			}
		}
	}
	checkMatrix(t, build(t, ring(n+1, 3)), nil, api.ErrLimit)
	checkMatrix(t, build(t, graphOf(n+1)), nil, api.ErrLimit)
	checkMatrix(t, build(t, graphOf(api.MaxNodes)), nil, api.ErrLimit)
	// The limit is the matrix's alone.
	if dist, err := From(build(t, ring(n+1, 3)), 1); err != nil || dist[0] != 3*n {
		t.Errorf("From: %.200v, %v", dist, err)
	}
}

func TestP8_2Examples(t *testing.T) {
	c := example(t)
	first := Label{0, 0, 0, true}
	checkBounded(t, c, 0, bounds{1, 9, 99}, []Label{first, {1, 4, 1, true}, {2, 9, 1, true}}, nil)
	checkBounded(t, c, 0, bounds{2, 9, 99}, []Label{first, {1, 4, 1, true}, {2, 5, 2, true}}, nil)
	checkBounded(t, c, 0, bounds{9, 1, 99}, []Label{first, {1, 4, 1, false}, {2, 9, 1, false}}, nil)
	checkBounded(t, c, 0, bounds{9, 0, 99}, []Label{{0, 0, 0, false}}, nil)
	checkBounded(t, c, 0, bounds{9, 9, 4}, []Label{first, {1, 4, 1, true}, {2, 5, 2, false}}, nil)
}

func TestP8_2Bounds(t *testing.T) {
	c := example(t)
	alone, open := []Label{{0, 0, 0, true}}, []Label{{0, 0, 0, false}}
	for _, low := range []int{0, -1, -9, math.MinInt} {
		checkBounded(t, c, 0, bounds{low, 9, 99}, alone, nil)
		checkBounded(t, c, 0, bounds{9, low, 99}, open, nil)
		checkBounded(t, c, 0, bounds{low, low, 0}, open, nil)
		checkBounded(t, c, 0, bounds{math.MaxInt, low, far}, open, nil)
		checkBounded(t, c, 0, bounds{low, math.MaxInt, far}, alone, nil)
	}
	near := []Label{{0, 0, 0, true}, {1, 4, 1, false}, {2, 9, 1, false}}
	for _, most := range []uint64{0, 1, 3} {
		checkBounded(t, c, 0, bounds{9, 9, most}, near, nil)
	}
	all := []Label{{0, 0, 0, true}, {1, 4, 1, true}, {2, 5, 2, true}, {3, 7, 3, true}}
	for _, most := range []uint64{7, 8, math.MaxInt64, far - 1, far} {
		checkBounded(t, c, 0, bounds{3, 4, most}, all, nil)
		checkBounded(t, c, 0, bounds{math.MaxInt, math.MaxInt, most}, all, nil)
	}
	last := slices.Clone(all)
	last[3].Settled = false
	checkBounded(t, c, 0, bounds{3, 4, 6}, last, nil)
	checkBounded(t, c, 0, bounds{3, 3, 7}, last, nil)
	checkBounded(t, c, 0, bounds{2, 4, 7}, all[:3], nil)
	checkBounded(t, c, 3, bounds{9, 9, 0}, []Label{{3, 0, 0, true}}, nil)
}

// Alike distances are taken by nodes; a label is replaced by a shorter one alone, not by one of fewer hops.
func TestP8_2Ties(t *testing.T) {
	fan := build(t, graphOf(4, row{3, 2, 5}, row{3, 0, 5}, row{3, 1, 5}))
	checkBounded(t, fan, 3, bounds{9, 3, 99}, []Label{{0, 5, 1, true}, {1, 5, 1, true}, {2, 5, 1, false}, {3, 0, 0, true}}, nil)

	long := build(t, graphOf(4, row{0, 1, 0}, row{1, 2, 0}, row{0, 3, 1}, row{2, 3, 1}, row{1, 3, 2}))
	checkBounded(t, long, 0, bounds{9, 9, 99}, []Label{{0, 0, 0, true}, {1, 0, 1, true}, {2, 0, 2, true}, {3, 1, 1, true}}, nil)
	short := build(t, graphOf(4, row{0, 1, 0}, row{1, 2, 0}, row{0, 3, 2}, row{2, 3, 1}, row{1, 3, 1}))
	checkBounded(t, short, 0, bounds{9, 9, 99}, []Label{{0, 0, 0, true}, {1, 0, 1, true}, {2, 0, 2, true}, {3, 1, 2, true}}, nil)

	// With most 0 all that lies at 0 is settled, and nothing else.
	checkBounded(t, short, 0, bounds{9, 9, 0}, []Label{{0, 0, 0, true}, {1, 0, 1, true}, {2, 0, 2, true}, {3, 1, 2, false}}, nil)
}

func TestP8_2AsTheModel(t *testing.T) {
	dice := sample.Dice{Seed: 8}
	choice := func(list ...int) int { return list[dice.Below(len(list))] }
	for g := range sample.Some() {
		c, made := build(t, g), sample.Normal(g)
		for s := range g.N {
			for range 8 {
				b := bounds{hops: choice(-1, 0, 1, 2, 3, math.MaxInt), settles: choice(-1, 0, 1, 2, 3, 5, 8, math.MaxInt)}
				b.most = uint64(choice(0, 1, 6, 7, 8, 14, 20, api.MaxWeight/8, api.MaxWeight, -1))
				checkBounded(t, c, s, b, model(made, s, b), nil)
			}
		}
	}
}

// Every bound that can make a difference, in graphs with many alike distances.
func TestP8_2EveryBound(t *testing.T) {
	dice := sample.Dice{Seed: 88}
	for range 60 {
		n := 2 + dice.Below(6)
		g := dice.Graph(n, 3*n, 1+dice.Below(4))
		c, made := build(t, g), sample.Normal(g)
		for hops := -1; hops <= n; hops++ {
			for settles := -1; settles <= n+1; settles++ {
				for most := range uint64(10) {
					b := bounds{hops, settles, most}
					checkBounded(t, c, 0, b, model(made, 0, b), nil)
				}
			}
		}
	}
}

func TestP8_2NoSuchNode(t *testing.T) {
	for _, s := range noNodes(4) {
		for _, b := range []bounds{{9, 9, 99}, {-1, -1, 0}, noBounds()} {
			checkBounded(t, example(t), s, b, nil, api.ErrNode)
			checkBounded(t, csr.Csr{First: ints{0}}, s, b, nil, api.ErrNode)
		}
	}
	checkBounded(t, csr.Csr{First: ints{0}}, 0, noBounds(), nil, api.ErrNode)
	checkBounded(t, csr.Csr{First: ints{0, 0, 0}}, 1, noBounds(), []Label{{1, 0, 0, true}}, nil)
}

func TestP8_3Examples(t *testing.T) {
	c := example(t)
	checkPathIs(t, c, 0, 3, ints{0, 1, 2, 3}, nil)
	checkPathIs(t, c, 3, 0, nil, api.ErrNoWalk)
	checkPathIs(t, c, 2, 2, ints{2}, nil)
}

func TestP8_3SameNode(t *testing.T) {
	round := build(t, graphOf(3, row{0, 1, 0}, row{1, 0, 0}))
	for v := range 3 {
		checkPathIs(t, round, v, v, ints{v}, nil)
	}
	checkPathIs(t, round, 0, 1, ints{0, 1}, nil)
	checkPathIs(t, csr.Csr{First: ints{0, 0}}, 0, 0, ints{0}, nil)
}

func TestP8_3NoSuchNode(t *testing.T) {
	c := example(t)
	for _, v := range noNodes(4) {
		checkPathIs(t, c, v, 0, nil, api.ErrNode)
		checkPathIs(t, c, v, v, nil, api.ErrNode)
		// From 3 no walk leads anywhere, but the node is asked first.
		checkPathIs(t, c, 3, v, nil, api.ErrNode)
		checkPathIs(t, csr.Csr{First: ints{0}}, v, v, nil, api.ErrNode)
	}
	checkPathIs(t, csr.Csr{First: ints{0}}, 0, 0, nil, api.ErrNode)
	checkPathIs(t, csr.Csr{First: ints{0, 0, 0}}, 0, 1, nil, api.ErrNoWalk)
}

func TestP8_3AsTheModel(t *testing.T) {
	check := func(g api.Graph) {
		c := build(t, g)
		for s, dist := range sample.Distances(g) {
			for goal, d := range dist {
				checkPath(t, c, s, goal, d)
			}
		}
	}
	for g := range sample.Some() {
		check(g)
	}
	// Weights of 0 and 1 alone: many rounds of the length 0.
	dice := sample.Dice{Seed: 83}
	for range 100 {
		check(dice.Graph(2+dice.Below(9), 40, dice.Below(2)))
	}
}

func matrix(t *testing.T, c csr.Csr) [][]uint64 {
	t.Helper()
	rows, err := Matrix(c)
	if err != nil {
		t.Fatalf("Matrix(%.200v): %v", c, err)
	}
	return rows
}

func TestP8_4Sums(t *testing.T) {
	for g := range sample.Some() {
		dist := matrix(t, build(t, g))
		for s := range g.N {
			if dist[s][s] != 0 {
				t.Errorf("%.200v: the distance from %d to itself is %d", g, s, dist[s][s])
			}
			for v := range g.N {
				for u := range g.N {
					if dist[s][v] != none && dist[v][u] != none && dist[s][u] > dist[s][v]+dist[v][u] {
						t.Errorf("%.200v: from %d to %d it is shorter by way of %d", g, s, u, v)
					}
				}
			}
		}
	}
}

func TestP8_4TurnedAbout(t *testing.T) {
	for g := range sample.Some() {
		back, err := csr.Back(g)
		if err != nil {
			t.Fatal(err)
		}
		dist, turned := matrix(t, build(t, g)), matrix(t, back)
		for s := range g.N {
			for v := range g.N {
				if dist[s][v] != turned[v][s] {
					t.Errorf("%.200v: from %d to %d: %d, turned about: %d", g, s, v, dist[s][v], turned[v][s])
				}
			}
		}
	}
}

func TestP8_4GreatestBounds(t *testing.T) {
	for g := range sample.Some() {
		c := build(t, g)
		for s, dist := range sample.Distances(g) {
			// A path has no more than all nodes, so these bounds are as good as the greatest ones.
			for _, b := range []bounds{{math.MaxInt, math.MaxInt, far}, {g.N - 1, g.N, api.MaxTotal}} {
				labels, err := Bounded(c, s, b.hops, b.settles, b.most)
				if err != nil || !slices.Equal(withoutHops(labels), reachable(dist)) {
					t.Errorf("Bounded(%.200v, %d, %v): %v, %v, wanted %v", c, s, b, labels, err, reachable(dist))
				}
			}
		}
	}
}

// Whatever else applies, arrays that are not right are told first.
func TestWrongArrays(t *testing.T) {
	for _, w := range sample.WrongArrays() {
		t.Run(w.Name, func(t *testing.T) {
			c := csr.Csr(w.Arrays)
			checkMatrix(t, c, nil, w.Err)
			for _, v := range append(noNodes(len(c.First)-1), 0, 1) {
				checkFrom(t, c, v, nil, w.Err)
				checkBounded(t, c, v, bounds{9, 9, 99}, nil, w.Err)
				checkBounded(t, c, v, bounds{-1, -1, 0}, nil, w.Err)
				checkPathIs(t, c, v, 0, nil, w.Err)
				checkPathIs(t, c, 0, v, nil, w.Err)
			}
		})
	}
	// The arrays are told ahead of the matrix's limit too.
	large := csr.Csr{First: make(ints, 1026)}
	large.First[1] = 1
	checkMatrix(t, large, nil, csr.Check(large))
	large.First[0] = 1
	checkMatrix(t, large, nil, api.ErrShape)
}

// checkCertain: are these the distances from s, in arrays without arcs of the weight 0? No arc makes one of them shorter, and each is that of a node ahead and an arc from there.
func checkCertain(t *testing.T, c csr.Csr, s int, dist []uint64) {
	t.Helper()
	isTold := make([]bool, len(dist))
	isTold[s] = dist[s] == 0
	for v := range dist {
		for i := c.First[v]; i < c.First[v+1] && dist[v] != none; i++ {
			x, d := c.To[i], dist[v]+uint64(c.Weight[i])
			if c.Weight[i] == 0 || dist[x] > d {
				t.Fatalf("the distance of %d is %d, by way of %d it is %d", x, dist[x], v, d)
			}
			isTold[x] = isTold[x] || dist[x] == d
		}
	}
	for v, d := range dist {
		if d != none && !isTold[v] {
			t.Fatalf("no walk to %d has the length %d", v, d)
		}
	}
}

func TestGreatestGraphs(t *testing.T) {
	dice := sample.Dice{Seed: 86}
	random := dice.Graph(api.MaxNodes, api.MaxArcs, api.MaxWeight-1)
	for i := range random.Arcs {
		random.Arcs[i].Weight++
	}
	c := build(t, random)
	dist, err := From(c, 7)
	if err != nil {
		t.Fatal(err)
	}
	checkCertain(t, c, 7, dist)
	labels, err := Bounded(c, 7, math.MaxInt, math.MaxInt, far)
	if err != nil || !slices.Equal(withoutHops(labels), reachable(dist)) {
		t.Errorf("Bounded: %.200v, %v", labels, err)
	}
	for _, goal := range []int{0, 7, 8, api.MaxNodes / 2, api.MaxNodes - 1} {
		checkPath(t, c, 7, goal, dist[goal])
	}
}

// The longest path there can be, of the dearest arcs.
func TestLongestPath(t *testing.T) {
	const n, length = api.MaxNodes, (api.MaxNodes - 1) * api.MaxWeight
	c := build(t, ring(n, api.MaxWeight))
	dist, err := From(c, 1)
	if err != nil || dist[0] != length || dist[n-1] != length-api.MaxWeight {
		t.Errorf("From: %.200v, %v", dist, err)
	}
	checkPath(t, c, 1, 0, length)
	if path, err := Path(c, 1, 0); err != nil || len(path) != n {
		t.Errorf("Path: %d nodes, %v", len(path), err)
	}
	labels, err := Bounded(c, 1, n-1, n, length)
	if err != nil || len(labels) != n || labels[0] != (Label{0, length, n - 1, true}) {
		t.Errorf("Bounded: %.200v, %v", labels, err)
	}
	labels, err = Bounded(c, 1, n-2, n, length)
	if err != nil || len(labels) != n-1 || labels[0] != (Label{1, 0, 0, true}) {
		t.Errorf("Bounded: %.200v, %v", labels, err)
	}
}

// ask is a question about arrays whose answer is a list.
type ask[T any] func(c csr.Csr) ([]T, error)

// checkMemory: the arrays stay as they are, and nothing that happens to them or to one answer is seen in another one.
func checkMemory[T comparable](t *testing.T, name string, f ask[T], odd T) {
	t.Helper()
	c := csr.Csr(sample.RoomyArrays(sample.Arrays(example(t))))
	before := sample.RoomOfArrays(sample.Arrays(c))
	one, err := f(c)
	other, errOther := f(c)
	if err != nil || errOther != nil || !slices.Equal(one, other) {
		t.Fatalf("%s: %v, %v, then %v, %v", name, one, err, other, errOther)
	}
	kept := sample.RoomOf(other)
	sample.SpoilList(one, odd)
	if now := sample.RoomOfArrays(sample.Arrays(c)); !slices.EqualFunc(now, before, slices.Equal) {
		t.Errorf("%s: the arrays that were handed in are now %v, they were %v", name, now, before)
	}
	if again, err := f(c); err != nil || !slices.Equal(again, other) {
		t.Errorf("%s: asked again: %v, %v, it was %v", name, again, err, other)
	}
	sample.SpoilArrays(sample.Arrays(c))
	if now := sample.RoomOf(other); !slices.Equal(now, kept) {
		t.Errorf("%s: the answer is now %v, it was %v", name, now, kept)
	}
}

func TestMemory(t *testing.T) {
	for s := range 4 {
		checkMemory(t, "From", func(c csr.Csr) ([]uint64, error) { return From(c, s) }, 77)
		checkMemory(t, "Path", func(c csr.Csr) ([]int, error) { return Path(c, s, 3) }, -7)
		bounded := func(c csr.Csr) ([]Label, error) { return Bounded(c, s, 2, 2, 99) }
		checkMemory(t, "Bounded", bounded, Label{-7, 77, -7, true})
		checkMemory(t, "Matrix", func(c csr.Csr) ([]uint64, error) {
			rows, err := Matrix(c)
			if err != nil {
				return nil, err
			}
			return rows[s], nil
		}, 77)
	}
}

// No row of a matrix shares memory with another one, spare room too, nor the list of rows with that of another answer.
func TestMemoryOfMatrix(t *testing.T) {
	c := example(t)
	want := matrix(t, c)
	for s := range want {
		rows := matrix(t, c)
		sample.SpoilList(rows[s], 77)
		for v := range rows {
			if v != s && !slices.Equal(rows[v], want[v]) {
				t.Errorf("the rows %d and %d share memory", s, v)
			}
		}
		sample.SpoilList(rows, nil)
	}
	checkMatrix(t, c, want, nil)
}

// What was asked before, of whichever graph, is not seen in an answer.
func TestQuestionsChangeNothing(t *testing.T) {
	c, other := example(t), build(t, ring(9, 1))
	for range 3 {
		checkBounded(t, c, 0, bounds{9, 1, 99}, []Label{{0, 0, 0, true}, {1, 4, 1, false}, {2, 9, 1, false}}, nil)
		checkPathIs(t, other, 7, 1, ints{7, 8, 0, 1}, nil)
		checkFrom(t, c, 9, nil, api.ErrNode)
		checkFrom(t, c, 1, []uint64{none, 0, 1, 3}, nil)
		checkPathIs(t, c, 1, 3, ints{1, 2, 3}, nil)
	}
}
