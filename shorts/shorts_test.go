package shorts

import (
	"cmp"
	"fmt"
	"math"
	"slices"
	"testing"

	"viaduct/api"
	"viaduct/laid"
	"viaduct/overlay"
	"viaduct/sample"
)

type (
	ints = []int
	row  = [3]int
)

const full = api.MaxBound

// bound: options with these bounds, and with factors, which don't count here.
func bound(hops, settles int) api.Options {
	return api.Options{Hops: hops, Settles: settles, Edge: 3, Deleted: -2, Depth: 7}
}

// brief: what a failure tells of a thing, which may have many parts.
func brief(thing any) string {
	text := fmt.Sprint(thing)
	return text[:min(len(text), 300)]
}

func must(t *testing.T, p laid.Plan) *overlay.Overlay {
	t.Helper()
	o := p.Overlay()
	if o == nil {
		t.Fatalf("no overlay of %v", brief(p))
	}
	return o
}

func graph(n int, rows ...row) laid.Plan {
	return laid.Plan{Graph: sample.Graph(n, rows...)}
}

// arcs: a plan whose arcs may be as dear as those of an overlay.
func arcs(n int, list ...laid.Arc) laid.Plan {
	return laid.Plan{Graph: api.Graph{N: n}, Puts: list}
}

// example: the graph of the chapter's examples.
func example() laid.Plan {
	return graph(4, row{0, 1, 4}, row{1, 2, 1}, row{0, 2, 9}, row{2, 3, 2})
}

// star: arcs from the node 0 to each of the n-1 others, and back.
func star(n int) laid.Plan {
	p := laid.Plan{Graph: api.Graph{N: n}}
	for v := 1; v < n; v++ {
		p.Graph.Arcs = append(p.Graph.Arcs, api.Arc{From: v, To: 0, Weight: 2 * v}, api.Arc{From: 0, To: v, Weight: v})
	}
	return p
}

// grid: side times side nodes, arcs both ways between neighbours.
func grid(dice *sample.Dice, side, most int) api.Graph {
	g := api.Graph{N: side * side}
	join := func(u, w int) {
		g.Arcs = append(g.Arcs, api.Arc{From: u, To: w, Weight: dice.Below(most + 1)}, api.Arc{From: w, To: u, Weight: dice.Below(most + 1)})
	}
	for v := range g.N {
		if v%side > 0 {
			join(v-1, v)
		}
		if v >= side {
			join(v-side, v)
		}
	}
	return g
}

// noNodes are numbers that are no nodes of a graph of n.
func noNodes(n int) ints {
	return ints{n, n + 1, -1, -2, -n - 1, math.MaxInt, math.MinInt, 1 << 32, -1 << 32}
}

func checkNeeded(t *testing.T, o *overlay.Overlay, v int, opts api.Options, want ...Short) {
	t.Helper()
	if list, err := Needed(o, v, opts); err != nil || !slices.Equal(list, want) {
		t.Errorf("Needed(%d, %v): %v, %v, wanted %v", v, opts, brief(list), err, brief(want))
	}
}

func checkDiff(t *testing.T, o *overlay.Overlay, v int, opts api.Options, want int) {
	t.Helper()
	if diff, err := Diff(o, v, opts); err != nil || diff != want {
		t.Errorf("Diff(%d, %v): %d, %v, wanted %d", v, opts, diff, err, want)
	}
}

func checkContract(t *testing.T, o *overlay.Overlay, v int, opts api.Options, want ...Short) {
	t.Helper()
	if list, err := Contract(o, v, opts); err != nil || !slices.Equal(list, want) {
		t.Errorf("Contract(%d, %v): %v, %v, wanted %v", v, opts, brief(list), err, brief(want))
	}
}

func checkRefused(t *testing.T, o *overlay.Overlay, v int, opts api.Options, want error) {
	t.Helper()
	if list, err := Needed(o, v, opts); len(list) > 0 || !sample.SameError(err, want) {
		t.Errorf("Needed(%d): %v, %v, wanted %v", v, list, err, want)
	}
	if diff, err := Diff(o, v, opts); diff != 0 || !sample.SameError(err, want) {
		t.Errorf("Diff(%d): %d, %v, wanted %v", v, diff, err, want)
	}
	if list, err := Contract(o, v, opts); len(list) > 0 || !sample.SameError(err, want) {
		t.Errorf("Contract(%d): %v, %v, wanted %v", v, list, err, want)
	}
}

func checkTold(t *testing.T, o *overlay.Overlay, want laid.Told) {
	t.Helper()
	if told := laid.Tell(o, len(want.Alive)); !laid.Same(told, want) {
		t.Errorf("the overlay is %v, wanted %v", brief(told), brief(want))
	}
}

// model: the shortcuts as the chapter's words have it, each pair of arcs by itself.
func model(told laid.Told, v int, opts api.Options) []Short {
	var list []Short
	for _, in := range told.In[v] {
		u := in.Node
		greatest := uint64(0)
		for _, out := range told.Out[v] {
			if out.Node != u {
				greatest = max(greatest, out.Weight)
			}
		}
		b := laid.Bounds{Most: in.Weight + greatest, Hops: min(opts.Hops, full), Settles: min(opts.Settles, full)}
		seen := told.Seen(u, v, b)
		for _, out := range told.Out[v] {
			w, d := out.Node, in.Weight+out.Weight
			if w != u && d <= api.MaxTotal && told.Weight(u, w) > d && seen[w] > d {
				list = append(list, Short{u, w, d})
			}
		}
	}
	slices.SortFunc(list, func(a, b Short) int { return cmp.Or(cmp.Compare(a.From, b.From), cmp.Compare(a.To, b.To)) })
	return list
}

// contracted: what an overlay tells when v has gone and these shortcuts have come.
func contracted(told laid.Told, v int, list []Short) laid.Told {
	n := len(told.Alive)
	after := laid.Told{Nodes: told.Nodes - 1, Alive: slices.Clone(told.Alive), Out: make([][]overlay.Half, n), In: make([][]overlay.Half, n)}
	after.Alive[v] = false
	for u := range n {
		for w := range n {
			if u == v || w == v {
				continue
			}
			arc, there := arcBetween(told, u, w)
			place := slices.IndexFunc(list, func(s Short) bool { return s.From == u && s.To == w })
			if place >= 0 {
				arc, there = overlay.Half{Weight: list[place].Weight, Via: v}, true
			}
			if there {
				after.Arcs++
				after.Out[u] = append(after.Out[u], overlay.Half{Node: w, Weight: arc.Weight, Via: arc.Via})
				after.In[w] = append(after.In[w], overlay.Half{Node: u, Weight: arc.Weight, Via: arc.Via})
			}
		}
	}
	return after
}

func arcBetween(told laid.Told, u, w int) (overlay.Half, bool) {
	place := slices.IndexFunc(told.Out[u], func(half overlay.Half) bool { return half.Node == w })
	if place < 0 {
		return overlay.Half{}, false
	}
	return told.Out[u][place], true
}

// someOptions: bounds at which something may change, and those that count as the limits.
func someOptions() []api.Options {
	return []api.Options{bound(0, 0), bound(-1, 9), bound(9, math.MinInt), bound(1, 9), bound(9, 1), bound(2, 3), bound(3, 2), bound(5, 5), bound(2, full), bound(full, full), bound(full+1, math.MaxInt)}
}

func TestP13_1Examples(t *testing.T) {
	o, five := must(t, example()), bound(5, 5)
	checkNeeded(t, o, 0, five)
	checkNeeded(t, o, 1, five, Short{0, 2, 5})
	checkNeeded(t, o, 2, five, Short{0, 3, 11}, Short{1, 3, 3})
	checkNeeded(t, o, 3, five)

	checkNeeded(t, must(t, graph(4, row{0, 1, 4}, row{1, 2, 1}, row{0, 2, 5}, row{2, 3, 2})), 1, five)
	beside := must(t, graph(4, row{0, 1, 4}, row{1, 2, 1}, row{2, 3, 2}, row{0, 3, 1}, row{3, 2, 4}))
	checkNeeded(t, beside, 1, bound(2, 9))
	checkNeeded(t, beside, 1, bound(1, 9), Short{0, 2, 5})
	checkNeeded(t, beside, 1, bound(9, 1), Short{0, 2, 5})
}

func TestP13_1Refuses(t *testing.T) {
	for _, opts := range someOptions() {
		for _, v := range append(noNodes(3), 0, 1, 2) {
			checkRefused(t, nil, v, opts, api.ErrNil)
			checkRefused(t, new(overlay.Overlay), v, opts, api.ErrNode)
		}
		p := star(4)
		p.Gone = ints{0, 2}
		o := must(t, p)
		told := laid.Tell(o, 4)
		for _, v := range append(noNodes(4), 0, 2) {
			checkRefused(t, o, v, opts, api.ErrNode)
		}
		checkTold(t, o, told)
	}
}

func TestP13_1MaxTotal(t *testing.T) {
	const most = api.MaxTotal
	way := func(first, second uint64) []laid.Arc {
		return []laid.Arc{{From: 0, To: 1, Weight: first}, {From: 1, To: 2, Weight: second}}
	}
	for _, opts := range someOptions() {
		for _, c := range []struct{ first, second uint64 }{{most, 0}, {0, most}, {most - 1, 1}, {most / 2, most / 2}} {
			checkNeeded(t, must(t, arcs(3, way(c.first, c.second)...)), 1, opts, Short{0, 2, most})
			checkNeeded(t, must(t, arcs(3, way(c.second, c.first)...)), 1, opts, Short{0, 2, most})
		}
		for _, c := range []struct{ first, second uint64 }{{most, 1}, {most - 1, 2}, {most/2 + 1, most / 2}, {most, most}} {
			checkNeeded(t, must(t, arcs(3, way(c.first, c.second)...)), 1, opts)
			checkDiff(t, must(t, arcs(3, way(c.second, c.first)...)), 1, opts, -2)
			// Another way through the same node that isn't as dear is needed all the same.
			beside := append(way(c.first, c.second), laid.Arc{From: 1, To: 3, Weight: 0})
			checkNeeded(t, must(t, arcs(4, beside...)), 1, opts, Short{0, 3, c.first})
		}
		for _, direct := range []uint64{most - 1, most} {
			list := append(way(most-1, 1), laid.Arc{From: 0, To: 2, Weight: direct})
			checkNeeded(t, must(t, arcs(3, list...)), 1, opts)
		}
		list := append(way(most-2, 1), laid.Arc{From: 0, To: 2, Weight: most})
		checkNeeded(t, must(t, arcs(3, list...)), 1, opts, Short{0, 2, most - 1})
	}
}

// An arc as cheap as the sum, one cheaper, one dearer, with whatever bounds; and one the other way, which doesn't count.
func TestP13_1ArcBeside(t *testing.T) {
	for _, opts := range someOptions() {
		for direct, isNeeded := range map[int]bool{0: false, 4: false, 5: false, 6: true, 9: true} {
			o := must(t, graph(3, row{0, 1, 4}, row{1, 2, 1}, row{0, 2, direct}))
			if isNeeded {
				checkNeeded(t, o, 1, opts, Short{0, 2, 5})
			} else {
				checkNeeded(t, o, 1, opts)
			}
			checkNeeded(t, must(t, graph(3, row{0, 1, 4}, row{1, 2, 1}, row{2, 0, direct})), 1, opts, Short{0, 2, 5})
		}
	}
}

// A witness as long as the sum, one shorter, one longer.
func TestP13_1Witness(t *testing.T) {
	for last, isNeeded := range map[int]bool{0: false, 2: false, 3: false, 4: true, 9: true} {
		o := must(t, graph(5, row{0, 1, 4}, row{1, 2, 1}, row{0, 3, 1}, row{3, 4, 1}, row{4, 2, last}))
		var want []Short
		if isNeeded {
			want = []Short{{0, 2, 5}}
		}
		checkNeeded(t, o, 1, bound(3, 9), want...)
		checkNeeded(t, o, 1, bound(9, 3), want...)
		checkNeeded(t, o, 1, bound(2, 9), Short{0, 2, 5})
		checkNeeded(t, o, 1, bound(9, 2), Short{0, 2, 5})
	}
}

// A witness by way of the node that goes is none, even one that leaves it and comes back.
func TestP13_1WitnessWithoutTheNode(t *testing.T) {
	o := must(t, graph(4, row{0, 1, 4}, row{1, 2, 1}, row{1, 3, 0}, row{3, 2, 0}))
	checkNeeded(t, o, 1, bound(9, 9), Short{0, 2, 5}, Short{0, 3, 4})
	back := must(t, graph(4, row{0, 1, 4}, row{1, 2, 1}, row{0, 3, 1}, row{3, 1, 1}))
	checkNeeded(t, back, 1, bound(9, 9), Short{0, 2, 5}, Short{3, 2, 2})
}

// Goals at unlike distances: the search must go as far as the furthest of them.
func TestP13_1FarGoals(t *testing.T) {
	o := must(t, graph(5, row{0, 1, 1}, row{1, 2, 1}, row{1, 3, 50}, row{0, 4, 25}, row{4, 3, 26}))
	checkNeeded(t, o, 1, bound(9, 9), Short{0, 2, 2})
	checkNeeded(t, o, 1, bound(9, 1), Short{0, 2, 2}, Short{0, 3, 51})
	// The dearest arc leads back, and asks for nothing.
	o = must(t, graph(5, row{0, 1, 1}, row{1, 0, 99}, row{1, 2, 1}, row{0, 3, 1}, row{3, 2, 2}))
	checkNeeded(t, o, 1, bound(9, 9), Short{0, 2, 2})
}

// Arcs to v and from v of one and the same node ask for no shortcut back to it.
func TestP13_1ThereAndBack(t *testing.T) {
	for _, opts := range someOptions() {
		pair := must(t, graph(2, row{0, 1, 4}, row{1, 0, 5}))
		checkNeeded(t, pair, 1, opts)
		checkDiff(t, pair, 1, opts, -2)
		both := must(t, graph(3, row{0, 1, 4}, row{1, 0, 5}, row{2, 1, 6}, row{1, 2, 7}))
		checkNeeded(t, both, 1, opts, Short{0, 2, 11}, Short{2, 0, 11})
		checkDiff(t, both, 1, opts, -2)
	}
}

func TestP13_1NoArcs(t *testing.T) {
	for _, opts := range someOptions() {
		o := must(t, graph(4, row{0, 1, 1}, row{2, 1, 0}, row{1, 1, 0}))
		for v, diff := range []int{-1, -2, -1, 0} {
			checkNeeded(t, o, v, opts)
			checkDiff(t, o, v, opts, diff)
		}
		checkContract(t, o, 3, opts)
		checkContract(t, o, 1, opts)
		checkNeeded(t, must(t, graph(1)), 0, opts)
		checkDiff(t, must(t, graph(1)), 0, opts, 0)
	}
}

func TestP13_1WeightsOfNought(t *testing.T) {
	o := must(t, graph(4, row{0, 1, 0}, row{1, 2, 0}, row{0, 3, 0}, row{3, 2, 0}))
	checkNeeded(t, o, 1, bound(2, 1), Short{0, 2, 0})
	checkNeeded(t, o, 1, bound(2, 2))
	checkNeeded(t, o, 1, bound(1, 9), Short{0, 2, 0})
	checkNeeded(t, o, 3, bound(2, 2))
	direct := must(t, graph(3, row{0, 1, 0}, row{1, 2, 0}, row{0, 2, 0}))
	for _, opts := range someOptions() {
		checkNeeded(t, direct, 1, opts)
	}
}

// Options count as they are brought between 0 and MaxBound.
func TestP13_1Options(t *testing.T) {
	for p := range laid.Some() {
		if p.Graph.N < 3 || len(p.Graph.Arcs) > 40 {
			continue
		}
		o := must(t, p)
		for v := range p.Graph.N {
			for _, pair := range [][2]api.Options{{bound(-1, 5), bound(0, 5)}, {bound(5, math.MinInt), bound(5, 0)}, {bound(full+1, math.MaxInt), bound(full, full)}, {{Hops: 2, Settles: 3}, bound(2, 3)}} {
				one, err := Needed(o, v, pair[0])
				two, otherErr := Needed(o, v, pair[1])
				if !slices.Equal(one, two) || !sample.SameError(err, otherErr) {
					t.Errorf("%v: Needed(%d) of %v: %v, of %v: %v", p, v, pair[0], one, pair[1], two)
				}
			}
		}
	}
}

// All three against the model, with the overlay's changes.
func TestAsTheModel(t *testing.T) {
	count, saved := 0, 0
	for p := range laid.Some() {
		o := must(t, p)
		told := laid.Tell(o, p.Graph.N)
		for v := range p.Graph.N {
			if !told.Alive[v] {
				continue
			}
			ways := 0
			for i, opts := range someOptions() {
				want := model(told, v, opts)
				checkNeeded(t, o, v, opts, want...)
				checkDiff(t, o, v, opts, len(want)-len(told.Out[v])-len(told.In[v]))
				if i == 0 {
					ways = len(want)
				}
				count += len(want)
				saved += ways - len(want)
			}
			opts := someOptions()[v%len(someOptions())]
			want := model(told, v, opts)
			other := must(t, p)
			checkContract(t, other, v, opts, want...)
			checkTold(t, other, contracted(told, v, want))
		}
		checkTold(t, o, told)
	}
	if count < 5000 || saved < 1000 {
		t.Errorf("only %d shortcuts, only %d saved by witnesses", count, saved)
	}
}

func TestP13_2Diff(t *testing.T) {
	o := must(t, example())
	for v, want := range []int{-2, -1, -1, -1} {
		checkDiff(t, o, v, bound(5, 5), want)
	}
	for _, n := range []int{1, 2, 3, 10, 50} {
		leaves := n - 1
		checkDiff(t, must(t, star(n)), 0, bound(5, 5), leaves*(leaves-1)-2*leaves)
		if n > 1 {
			checkDiff(t, must(t, star(n)), 1, bound(5, 5), -2)
		}
	}
}

// A node with many arcs: as many shortcuts as there are pairs of its neighbours.
func TestP13_2ManyArcs(t *testing.T) {
	const n = 400
	o := must(t, star(n))
	checkDiff(t, o, 0, bound(5, 5), (n-1)*(n-2)-2*(n-1))
	list, err := Contract(o, 0, bound(5, 5))
	if err != nil || len(list) != (n-1)*(n-2) || o.Arcs() != len(list) || o.Len() != n-1 {
		t.Fatalf("Contract: %d shortcuts, %v; %d nodes and %d arcs are left", len(list), err, o.Len(), o.Arcs())
	}
	place := 0
	for u := 1; u < n; u++ {
		for w := 1; w < n; w++ {
			if u == w {
				continue
			}
			if want := (Short{u, w, uint64(2*u + w)}); list[place] != want {
				t.Fatalf("the shortcut %d: %v, wanted %v", place, list[place], want)
			}
			place++
		}
	}
}

func TestP13_3Examples(t *testing.T) {
	o := must(t, example())
	checkContract(t, o, 1, bound(5, 5), Short{0, 2, 5})
	if out := o.Out(0); !slices.Equal(out, []overlay.Half{{Node: 2, Weight: 5, Via: 1}}) {
		t.Errorf("Out(0): %v", out)
	}
	if in := o.In(2); !slices.Equal(in, []overlay.Half{{Node: 0, Weight: 5, Via: 1}}) {
		t.Errorf("In(2): %v", in)
	}
	if o.Alive(1) || o.Len() != 3 || o.Arcs() != 2 {
		t.Errorf("%d nodes and %d arcs are left", o.Len(), o.Arcs())
	}
	checkRefused(t, o, 1, bound(5, 5), api.ErrNode)
	checkContract(t, o, 2, bound(5, 5), Short{0, 3, 7})
	if out := o.Out(0); !slices.Equal(out, []overlay.Half{{Node: 3, Weight: 7, Via: 2}}) {
		t.Errorf("Out(0): %v", out)
	}
	checkContract(t, o, 0, bound(5, 5))
	checkContract(t, o, 3, bound(5, 5))
	if o.Len() != 0 || o.Arcs() != 0 {
		t.Errorf("%d nodes and %d arcs are left", o.Len(), o.Arcs())
	}
}

// Long runs, each step as the model has it.
func TestP13_3AsTheModelAtLength(t *testing.T) {
	dice := sample.Dice{Seed: 133}
	for round := range 60 {
		n := 2 + dice.Below(20)
		o := must(t, laid.Plan{Graph: dice.Graph(n, dice.Below(5*n), 1+dice.Below(30))})
		opts := someOptions()[round%len(someOptions())]
		for _, v := range dice.Shuffled(n) {
			told := laid.Tell(o, n)
			want := model(told, v, opts)
			checkContract(t, o, v, opts, want...)
			checkTold(t, o, contracted(told, v, want))
		}
	}
}

// checkDistances: between the nodes that are alive they are those of the graph.
func checkDistances(t *testing.T, o *overlay.Overlay, want [][]uint64) {
	t.Helper()
	told := laid.Tell(o, len(want))
	dist := told.Distances(-1)
	for u := range want {
		for w := range want {
			if told.Alive[u] && told.Alive[w] && dist[u][w] != want[u][w] {
				t.Fatalf("the distance from %d to %d is %d, wanted %d", u, w, dist[u][w], want[u][w])
			}
		}
	}
}

func TestP13_4Distances(t *testing.T) {
	dice := sample.Dice{Seed: 134}
	choice := 0
	for g := range sample.Some() {
		want := sample.Distances(g)
		o := must(t, laid.Plan{Graph: g})
		for _, v := range dice.Shuffled(g.N) {
			opts := someOptions()[choice%len(someOptions())]
			choice++
			if _, err := Contract(o, v, opts); err != nil {
				t.Fatalf("%v: Contract(%d): %v", g, v, err)
			}
			checkDistances(t, o, want)
		}
	}
}

func TestP13_4DistancesAtLength(t *testing.T) {
	dice := sample.Dice{Seed: 1344}
	const n = 100
	for _, g := range []api.Graph{grid(&dice, 10, 50), grid(&dice, 10, 2), grid(&dice, 10, 0), dice.Graph(n, 300, api.MaxWeight), dice.Graph(n, 250, 10)} {
		want := sample.Distances(g)
		for _, opts := range []api.Options{bound(0, 0), bound(3, 8), bound(5, 40), bound(full, full)} {
			o := must(t, laid.Plan{Graph: g})
			for place, v := range dice.Shuffled(n) {
				if _, err := Contract(o, v, opts); err != nil {
					t.Fatalf("Contract(%d): %v", v, err)
				}
				if place%10 == 0 || place > n-10 {
					checkDistances(t, o, want)
				}
			}
		}
	}
}

// Along the dearest paths of a graph the sums stay below MaxTotal, so that every shortcut comes that must.
func TestP13_4DearestPath(t *testing.T) {
	const n = 2000
	p := laid.Plan{Graph: api.Graph{N: n}}
	for v := range n - 1 {
		p.Graph.Arcs = append(p.Graph.Arcs, api.Arc{From: v, To: v + 1, Weight: api.MaxWeight})
	}
	o := must(t, p)
	dice := sample.Dice{Seed: 2000}
	for _, v := range dice.Shuffled(n) {
		if v == 0 || v == n-1 {
			continue
		}
		if list, err := Contract(o, v, bound(5, 5)); err != nil || len(list) != 1 {
			t.Fatalf("Contract(%d): %v, %v", v, list, err)
		}
	}
	if weight, ok := o.Weight(0, n-1); !ok || weight != (n-1)*api.MaxWeight {
		t.Errorf("Weight(0, %d): %d, %v", n-1, weight, ok)
	}
}

// ways: all pairs of an arc to v and an arc from v, as shortcuts, but those back and those above MaxTotal.
func ways(told laid.Told, v int) []Short {
	var list []Short
	for _, in := range told.In[v] {
		for _, out := range told.Out[v] {
			if short := (Short{in.Node, out.Node, in.Weight + out.Weight}); in.Node != out.Node && short.Weight <= api.MaxTotal {
				list = append(list, short)
			}
		}
	}
	return list
}

// Without a search every way needs a shortcut, unless an arc is as cheap; with a whole one, unless a walk is as short.
func TestP13_4Bounds(t *testing.T) {
	for p := range laid.Some() {
		o := must(t, p)
		told := laid.Tell(o, p.Graph.N)
		for v := range p.Graph.N {
			if !told.Alive[v] {
				continue
			}
			dist := told.Distances(v)
			var plain, least []Short
			for _, way := range ways(told, v) {
				if told.Weight(way.From, way.To) > way.Weight {
					plain = append(plain, way)
				}
				if dist[way.From][way.To] > way.Weight {
					least = append(least, way)
				}
			}
			for _, opts := range []api.Options{bound(0, full), bound(full, 0), bound(0, 0), bound(-5, 7), bound(7, -5)} {
				checkNeeded(t, o, v, opts, plain...)
			}
			for _, opts := range []api.Options{bound(full, full), bound(full+1, full+1), bound(math.MaxInt, math.MaxInt)} {
				checkNeeded(t, o, v, opts, least...)
			}
		}
	}
}

// P2: the same question has the same answer, whatever was asked before.
func TestQuestionsChangeNothing(t *testing.T) {
	o, other := must(t, example()), must(t, star(5))
	for range 3 {
		checkNeeded(t, o, 2, bound(5, 5), Short{0, 3, 11}, Short{1, 3, 3})
		checkDiff(t, other, 0, bound(5, 5), 4)
		checkRefused(t, o, 4, bound(5, 5), api.ErrNode)
		checkDiff(t, o, 2, bound(5, 5), -1)
	}
	checkTold(t, o, laid.Tell(must(t, example()), 4))
	checkTold(t, other, laid.Tell(must(t, star(5)), 5))
}

// Writing over an answer, spare room too, changes neither another one nor the overlay.
func TestMemoryOfAnswers(t *testing.T) {
	odd := Short{-7, -7, 7}
	for p := range laid.Some() {
		if p.Graph.N < 3 {
			continue
		}
		for v := range p.Graph.N {
			o := must(t, p)
			told := laid.Tell(o, p.Graph.N)
			if !told.Alive[v] {
				continue
			}
			want := model(told, v, bound(2, 2))
			one, err := Needed(o, v, bound(2, 2))
			if err != nil {
				t.Fatal(err)
			}
			two, err := Needed(o, v, bound(2, 2))
			if err != nil {
				t.Fatal(err)
			}
			sample.SpoilList(one, odd)
			checkTold(t, o, told)
			three, err := Contract(o, v, bound(2, 2))
			if err != nil {
				t.Fatal(err)
			}
			sample.SpoilList(three, odd)
			if !slices.Equal(two, want) {
				t.Errorf("%v: an answer is now %v, wanted %v", p, two, want)
			}
			checkTold(t, o, contracted(told, v, want))
		}
	}
}

// Answers stay as they are, whatever becomes of the overlay.
func TestMemoryOfEarlierAnswers(t *testing.T) {
	const n = 30
	dice := sample.Dice{Seed: 30}
	o := must(t, laid.Plan{Graph: dice.Graph(n, 120, 40)})
	var lists, copies [][]Short
	for _, v := range dice.Shuffled(n) {
		needed, err := Needed(o, v, bound(3, 3))
		if err != nil {
			t.Fatal(err)
		}
		done, err := Contract(o, v, bound(3, 3))
		if err != nil || !slices.Equal(done, needed) {
			t.Fatalf("Contract(%d): %v, %v, wanted %v", v, done, err, needed)
		}
		for _, list := range [][]Short{needed, done} {
			lists = append(lists, list)
			copies = append(copies, sample.RoomOf(list))
		}
	}
	for i, list := range lists {
		if !slices.Equal(list[:cap(list)], copies[i]) {
			t.Errorf("a list changed from %v to %v", copies[i], list)
		}
	}
}

// Two overlays of one graph have nothing in common.
func TestOverlaysAreApart(t *testing.T) {
	one, other := must(t, example()), must(t, example())
	checkContract(t, one, 1, bound(5, 5), Short{0, 2, 5})
	checkContract(t, one, 0, bound(5, 5))
	checkTold(t, other, laid.Tell(must(t, example()), 4))
}
