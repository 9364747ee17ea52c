package order

import (
	"fmt"
	"math"
	"slices"
	"testing"

	"viaduct/api"
	"viaduct/hier"
	"viaduct/overlay"
	"viaduct/rank"
	"viaduct/sample"
	"viaduct/shorts"
	"viaduct/sound"
)

type (
	ints = []int
	row  = [3]int
)

const full = api.MaxBound

// brief: what a failure tells of a thing, which may have many parts.
func brief(thing any) string {
	text := fmt.Sprint(thing)
	return text[:min(len(text), 300)]
}

// options: Hops, Settles, Edge, Deleted, Depth.
func options(hops, settles, edge, deleted, depth int) api.Options {
	return api.Options{Hops: hops, Settles: settles, Edge: edge, Deleted: deleted, Depth: depth}
}

// five: the options of the chapter's examples.
func five() api.Options {
	return options(5, 5, 1, 0, 0)
}

// someOptions: bounds and factors of all signs, each factor by itself too, and some beyond what counts.
func someOptions() []api.Options {
	return []api.Options{
		five(), {}, options(0, 0, 1, 1, 1), options(full, full, 2, 1, 3), options(2, 3, 1, 0, 0), options(3, 2, 0, 1, 0), options(1, 9, 0, 0, 1), options(9, 1, -1, 0, 0),
		options(5, 5, 0, -1, 0), options(5, 5, 0, 0, -1), options(4, 8, -3, 2, -5), options(4, 8, 5, -2, 1), options(4, 8, 1, 2, -4), options(0, full, 1000, 999, 998),
		options(math.MinInt, 5, 1, -1, 0), options(5, -1, 1, 3, 1), options(full+1, math.MaxInt, 1001, 1000, 0), options(5, 5, -1001, math.MaxInt, math.MinInt), options(5, 5, math.MinInt, math.MinInt, 7),
	}
}

// example: the graph of the chapter's examples.
func example() api.Graph {
	return sample.Graph(4, row{0, 1, 4}, row{1, 2, 1}, row{0, 2, 9}, row{2, 3, 2})
}

// grid: side times side nodes, arcs both ways between neighbours.
func grid(dice *sample.Dice, side, most int) api.Graph {
	g := api.Graph{N: side * side}
	join := func(u, w int) {
		g.Arcs = append(g.Arcs, api.Arc{From: u, To: w, Weight: dice.Below(most + 1)}, api.Arc{From: w, To: u, Weight: dice.Below(most + 1)})
	}
	for v := range g.N {
		if v%side > 0 {
			join(v-1, v)
		}
		if v >= side {
			join(v-side, v)
		}
	}
	return g
}

// funnel: a node 0, to which arcs lead from so many nodes, and from which arcs lead to so many others.
func funnel(in, out int) api.Graph {
	g := api.Graph{N: 1 + in + out}
	for v := 1; v < g.N; v++ {
		if v <= in {
			g.Arcs = append(g.Arcs, api.Arc{From: v, To: 0, Weight: 1})
		} else {
			g.Arcs = append(g.Arcs, api.Arc{From: 0, To: v, Weight: 2})
		}
	}
	return g
}

// rising: the numbers below n in their order.
func rising(n int) ints {
	list := make(ints, n)
	for v := range list {
		list[v] = v
	}
	return list
}

// someGraphs: many small ones, and some of up to forty nodes.
func someGraphs() []api.Graph {
	graphs := slices.Collect(sample.Some())
	dice := sample.Dice{Seed: 15}
	for range 100 {
		n := 2 + dice.Below(39)
		graphs = append(graphs, dice.Graph(n, dice.Below(5*n), []int{0, 1, 20, api.MaxWeight}[dice.Below(4)]))
	}
	return append(graphs, grid(&dice, 5, 50), grid(&dice, 6, 1), funnel(5, 7))
}

func mustOrder(t *testing.T, g api.Graph, opts api.Options) ints {
	t.Helper()
	list, err := Order(g, opts)
	if err != nil {
		t.Fatalf("Order(%v, %v): %v", brief(g), opts, err)
	}
	return list
}

func mustAlong(t *testing.T, g api.Graph, list ints, opts api.Options) api.Hier {
	t.Helper()
	h, err := Along(g, list, opts)
	if err != nil {
		t.Fatalf("Along(%v, %v, %v): %v", brief(g), brief(list), opts, err)
	}
	return h
}

func mustBuild(t *testing.T, g api.Graph, opts api.Options) api.Hier {
	t.Helper()
	h, err := Build(g, opts)
	if err != nil {
		t.Fatalf("Build(%v, %v): %v", brief(g), opts, err)
	}
	return h
}

func checkOrder(t *testing.T, g api.Graph, opts api.Options, want ...int) {
	t.Helper()
	if list := mustOrder(t, g, opts); !slices.Equal(list, want) {
		t.Errorf("Order(%v, %v): %v, wanted %v", brief(g), opts, brief(list), brief(want))
	}
}

func checkAlong(t *testing.T, g api.Graph, list ints, opts api.Options, want api.Hier) {
	t.Helper()
	if h := mustAlong(t, g, list, opts); !sample.SameHier(h, want) {
		t.Errorf("Along(%v, %v, %v): %v, wanted %v", brief(g), brief(list), opts, brief(h), brief(want))
	}
}

func checkBuild(t *testing.T, g api.Graph, opts api.Options, want api.Hier) {
	t.Helper()
	if h := mustBuild(t, g, opts); !sample.SameHier(h, want) {
		t.Errorf("Build(%v, %v): %v, wanted %v", brief(g), opts, brief(h), brief(want))
	}
}

// isZero: has it no list at all?
func isZero(h api.Hier) bool {
	return len(h.Node)+len(h.UpFirst)+len(h.Up)+len(h.DownFirst)+len(h.Down) == 0
}

func checkAlongRefused(t *testing.T, g api.Graph, list ints, opts api.Options, want error) {
	t.Helper()
	if h, err := Along(g, list, opts); !isZero(h) || !sample.SameError(err, want) {
		t.Errorf("Along(%v, %v, %v): %v, %v, wanted %v", brief(g), brief(list), opts, brief(h), err, want)
	}
}

// checkRefused: of Order and Build.
func checkRefused(t *testing.T, g api.Graph, opts api.Options, want error) {
	t.Helper()
	if list, err := Order(g, opts); len(list) > 0 || !sample.SameError(err, want) {
		t.Errorf("Order(%v, %v): %v, %v, wanted %v", brief(g), opts, brief(list), err, want)
	}
	if h, err := Build(g, opts); !isZero(h) || !sample.SameError(err, want) {
		t.Errorf("Build(%v, %v): %v, %v, wanted %v", brief(g), opts, brief(h), err, want)
	}
}

// modelLine is the ordering as the chapter's words have it, all nodes gone through at each step.
type modelLine struct {
	t                   *testing.T
	opts                api.Options
	graph               *overlay.Overlay
	keys, counts, depth ints
	again               int // how often a node was not next, when it was taken
}

func (m *modelLine) priority(v int) int {
	diff, err := shorts.Diff(m.graph, v, m.opts)
	if err != nil {
		m.t.Fatal(err)
	}
	p := rank.Plain(m.opts)
	return p.Edge*diff + p.Deleted*m.counts[v] + p.Depth*m.depth[v]
}

// take: the node with the least key, of several the least.
func (m *modelLine) take() int {
	least := -1
	for v, key := range m.keys {
		if m.graph.Alive(v) && (least < 0 || key < m.keys[least]) {
			least = v
		}
	}
	return least
}

// isAhead: has another alive node a key below v's priority, or one like it and a lower number?
func (m *modelLine) isAhead(v, priority int) bool {
	for w, key := range m.keys {
		if w != v && m.graph.Alive(w) && (key < priority || key == priority && w < v) {
			return true
		}
	}
	return false
}

func (m *modelLine) contract(v int) {
	near := make([]bool, len(m.keys))
	for w := range near {
		_, from := m.graph.Weight(v, w)
		_, to := m.graph.Weight(w, v)
		near[w] = from || to
	}
	if _, err := shorts.Contract(m.graph, v, m.opts); err != nil {
		m.t.Fatal(err)
	}
	for w, is := range near {
		if is {
			m.counts[w]++
			m.depth[w] = max(m.depth[w], m.depth[v]+1)
		}
	}
}

// modelOrder: the order, and how often a key was no longer true.
func modelOrder(t *testing.T, g api.Graph, opts api.Options) (ints, int) {
	t.Helper()
	o, err := overlay.New(g)
	if err != nil {
		t.Fatal(err)
	}
	m := &modelLine{t: t, opts: opts, graph: o, keys: make(ints, g.N), counts: make(ints, g.N), depth: make(ints, g.N)}
	for v := range g.N {
		m.keys[v] = m.priority(v)
	}
	var list ints
	for o.Len() > 0 {
		v := m.take()
		priority := m.priority(v)
		if m.isAhead(v, priority) {
			m.keys[v] = priority
			m.again++
			continue
		}
		m.contract(v)
		list = append(list, v)
	}
	return list, m.again
}

// modelArcs: the arcs that nodes had when it was their turn along the list, by the ranks of tail and head; Via is a rank too.
func modelArcs(t *testing.T, g api.Graph, list ints, opts api.Options) map[[2]int]overlay.Half {
	t.Helper()
	o, err := overlay.New(g)
	if err != nil {
		t.Fatal(err)
	}
	arcs := map[[2]int]overlay.Half{}
	note := func(tail, head int, half overlay.Half) {
		arcs[[2]int{tail, head}] = overlay.Half{Weight: half.Weight, Via: slices.Index(list, half.Via)}
	}
	for r, v := range list {
		for _, half := range o.Out(v) {
			note(r, slices.Index(list, half.Node), half)
		}
		for _, half := range o.In(v) {
			note(slices.Index(list, half.Node), r, half)
		}
		if _, err := shorts.Contract(o, v, opts); err != nil {
			t.Fatal(err)
		}
	}
	return arcs
}

// modelAlong: the hierarchy as the chapter's words have it.
func modelAlong(t *testing.T, g api.Graph, list ints, opts api.Options) api.Hier {
	t.Helper()
	arcs := modelArcs(t, g, list, opts)
	h := api.Hier{UpFirst: []uint32{0}, DownFirst: []uint32{0}}
	places := map[[2]int]uint32{} // of each link in its own list
	for r, v := range list {
		h.Node = append(h.Node, uint32(v))
		for to := range g.N {
			if half, is := arcs[[2]int{r, to}]; is && to > r {
				places[[2]int{r, to}] = uint32(len(h.Up))
				h.Up = append(h.Up, sample.Plain(uint32(to), half.Weight))
			}
			if half, is := arcs[[2]int{to, r}]; is && to > r {
				places[[2]int{to, r}] = uint32(len(h.Down))
				h.Down = append(h.Down, sample.Plain(uint32(to), half.Weight))
			}
		}
		h.UpFirst = append(h.UpFirst, uint32(len(h.Up)))
		h.DownFirst = append(h.DownFirst, uint32(len(h.Down)))
	}
	for ends, half := range arcs {
		if half.Via < 0 {
			continue
		}
		links := h.Up
		if ends[0] > ends[1] {
			links = h.Down
		}
		link := &links[places[ends]]
		link.Left = uint32(len(h.Up)) + places[[2]int{ends[0], half.Via}]
		link.Right = places[[2]int{half.Via, ends[1]}]
	}
	return h
}

// shortcutsOf: how many links of a hierarchy are shortcuts, and how many stand for a shortcut.
func shortcutsOf(h api.Hier) (int, int) {
	all := slices.Concat(h.Up, h.Down)
	count, nested := 0, 0
	for _, link := range all {
		if link.Left == api.NoLink {
			continue
		}
		count++
		if all[link.Left].Left != api.NoLink || all[link.Right].Left != api.NoLink {
			nested++
		}
	}
	return count, nested
}

// climbed: for each two nodes the least length of a way over up links and then over down links.
func climbed(h api.Hier) [][]uint64 {
	n := len(h.Node)
	up := upwards(n, h.UpFirst, h.Up)
	down := upwards(n, h.DownFirst, h.Down)
	far := make([][]uint64, n)
	for s := range far {
		far[s] = slices.Repeat([]uint64{api.Unreached}, n)
	}
	for s, from := range h.Node {
		for d, to := range h.Node {
			for top := range n {
				if up[s][top] != api.Unreached && down[d][top] != api.Unreached {
					far[from][to] = min(far[from][to], up[s][top]+down[d][top])
				}
			}
		}
	}
	return far
}

// upwards: from each rank the least length of a way over these links, by their higher ends, to each rank.
func upwards(n int, first []uint32, links []api.Link) [][]uint64 {
	far := make([][]uint64, n)
	for s := range far {
		far[s] = slices.Repeat([]uint64{api.Unreached}, n)
		far[s][s] = 0
		for r := s; r < n; r++ {
			if far[s][r] == api.Unreached {
				continue
			}
			for _, link := range links[first[r]:first[r+1]] {
				far[s][link.To] = min(far[s][link.To], far[s][r]+link.Weight)
			}
		}
	}
	return far
}

// checkMade: what P15.2 says of a hierarchy that was made of g.
func checkMade(t *testing.T, g api.Graph, h api.Hier) {
	t.Helper()
	if err := hier.Check(h); err != nil {
		t.Fatalf("of %v: %v is not in form: %v", brief(g), brief(h), err)
	}
	if err := sound.Check(h); err != nil {
		t.Errorf("of %v: %v is not true: %v", brief(g), brief(h), err)
	}
	if r := sample.FirstFalse(h); r >= 0 {
		t.Errorf("of %v: %v is false at the rank %d", brief(g), brief(h), r)
	}
	made, err := hier.Graph(h)
	if err != nil {
		t.Fatal(err)
	}
	plain := sample.Normal(g)
	for _, arc := range made.Arcs {
		if !slices.Contains(plain.Arcs, arc) {
			t.Errorf("of %v: the graph has the arc %v", brief(g), arc)
		}
	}
	want := sample.Distances(g)
	if made.N != g.N || !slices.EqualFunc(sample.Distances(made), want, slices.Equal) {
		t.Errorf("of %v: the graph %v has other distances", brief(g), brief(made))
	}
	if !slices.EqualFunc(climbed(h), want, slices.Equal) {
		t.Errorf("of %v: up and down %v there are other distances", brief(g), brief(h))
	}
}
