package order

import (
	"math"
	"slices"
	"testing"

	"viaduct/api"
	"viaduct/fault"
	"viaduct/hier"
	"viaduct/rank"
	"viaduct/sample"
)

func atNode(i int) error {
	return fault.At(api.AtNode, i, api.ErrOrder)
}

func TestP15_1Examples(t *testing.T) {
	g := example()
	checkOrder(t, g, five(), 0, 1, 2, 3)
	along := api.Hier{
		Node:      []uint32{1, 0, 2, 3},
		UpFirst:   []uint32{0, 1, 2, 3, 3},
		Up:        []api.Link{sample.Plain(2, 1), {To: 2, Weight: 5, Left: 3, Right: 0}, sample.Plain(3, 2)},
		DownFirst: []uint32{0, 1, 1, 1, 1},
		Down:      []api.Link{sample.Plain(1, 4)},
	}
	checkAlong(t, g, ints{1, 0, 2, 3}, five(), along)
	made, err := hier.Graph(along)
	if want := sample.Graph(4, row{0, 1, 4}, row{1, 2, 1}, row{2, 3, 2}); err != nil || !sample.SameGraph(made, want) {
		t.Errorf("Graph: %v, %v", made, err)
	}
	checkAlongRefused(t, g, ints{0, 1, 2}, five(), api.ErrOrder)
	checkAlongRefused(t, g, ints{0, 1, 1, 2}, five(), atNode(2))
	checkAlongRefused(t, g, ints{0, 4, 1, 2}, five(), atNode(1))
	checkBuild(t, g, five(), api.Hier{
		Node:      []uint32{0, 1, 2, 3},
		UpFirst:   []uint32{0, 2, 3, 4, 4},
		Up:        []api.Link{sample.Plain(1, 4), sample.Plain(2, 9), sample.Plain(2, 1), sample.Plain(3, 2)},
		DownFirst: []uint32{0, 0, 0, 0, 0},
	})
}

func TestP15_1FewNodes(t *testing.T) {
	none := api.Hier{UpFirst: []uint32{0}, DownFirst: []uint32{0}}
	one := api.Hier{Node: []uint32{0}, UpFirst: []uint32{0, 0}, DownFirst: []uint32{0, 0}}
	for _, opts := range someOptions() {
		checkOrder(t, api.Graph{}, opts)
		checkAlong(t, api.Graph{}, nil, opts, none)
		checkAlong(t, api.Graph{Arcs: []api.Arc{}}, ints{}, opts, none)
		checkBuild(t, api.Graph{}, opts, none)
		for _, g := range []api.Graph{sample.Graph(1), sample.Graph(1, row{0, 0, 0}), sample.Graph(1, row{0, 0, 7}, row{0, 0, api.MaxWeight})} {
			checkOrder(t, g, opts, 0)
			checkAlong(t, g, ints{0}, opts, one)
			checkBuild(t, g, opts, one)
		}
	}
}

// Nodes of the same priority go by their numbers.
func TestP15_1AlikePriorities(t *testing.T) {
	for _, opts := range someOptions() {
		checkOrder(t, sample.Graph(7), opts, rising(7)...)
		checkOrder(t, sample.Graph(3, row{0, 0, 1}, row{2, 2, 5}), opts, 0, 1, 2)
	}
	ring := sample.Graph(4, row{0, 1, 1}, row{1, 2, 1}, row{2, 3, 1}, row{3, 0, 1})
	checkOrder(t, ring, api.Options{}, 0, 1, 2, 3)
	checkOrder(t, ring, options(5, 5, 1, 0, 0), 0, 1, 2, 3)
	checkOrder(t, ring, options(5, 5, 0, 1, 0), 0, 2, 1, 3)
	checkOrder(t, ring, options(5, 5, 0, -1, 0), 0, 1, 2, 3)
}

// A key that is no longer true: the node waits again behind others with keys like its own, if their numbers are lower.
func TestP15_1KeysNotTrueAnyMore(t *testing.T) {
	checkOrder(t, sample.Graph(4, row{0, 1, 1}, row{2, 3, 1}), five(), 0, 2, 1, 3)
	checkOrder(t, sample.Graph(4, row{0, 3, 1}, row{1, 2, 1}), five(), 0, 1, 2, 3)
	checkOrder(t, sample.Graph(4, row{3, 0, 1}), five(), 0, 1, 2, 3)
	checkOrder(t, sample.Graph(4, row{0, 1, 1}), five(), 0, 1, 2, 3)
	checkOrder(t, sample.Graph(4, row{0, 2, 1}), five(), 0, 1, 2, 3)
	// A key that has become too great is not seen till its node is taken: 2 has the priority -9 once 0 has gone, and still waits behind 1.
	checkOrder(t, sample.Graph(3, row{0, 2, 1}), options(5, 5, 0, -9, 0), 0, 1, 2)
}

// Each neighbour is counted once, whether an arc leads to it, from it or both ways, and whatever is parallel.
func TestP15_1Counts(t *testing.T) {
	deleted := options(5, 5, 0, 10, 1)
	one := sample.Graph(4, row{0, 1, 1}, row{1, 0, 1}, row{0, 1, 5}, row{2, 3, 1})
	checkOrder(t, one, deleted, 0, 2, 1, 3)
	// 3 loses two neighbours, 4 one with arcs both ways and doubled.
	g := sample.Graph(5, row{0, 3, 1}, row{3, 1, 1}, row{2, 4, 1}, row{4, 2, 1}, row{2, 4, 3})
	checkOrder(t, g, deleted, 0, 1, 2, 4, 3)
}

// The depth is one more than that of the deepest neighbour that has gone, not the count of those.
func TestP15_1Depths(t *testing.T) {
	depth := options(5, 5, 0, 0, 1)
	// 4 has the depth 1, however many of its neighbours go, and so stays ahead of 5.
	checkOrder(t, sample.Graph(6, row{0, 4, 1}, row{1, 4, 1}, row{2, 4, 1}, row{3, 5, 1}), depth, 0, 1, 2, 3, 4, 5)
	checkOrder(t, sample.Graph(5, row{0, 1, 1}, row{1, 2, 1}, row{2, 3, 1}, row{3, 4, 1}), depth, 0, 2, 4, 1, 3)
}

func TestP15_1OrderAsTheModel(t *testing.T) {
	orders, again := map[string]bool{}, 0
	for i, g := range someGraphs() {
		for j, opts := range someOptions() {
			if g.N < 4 && (i+j)%5 > 0 {
				continue
			}
			want, more := modelOrder(t, g, opts)
			checkOrder(t, g, opts, want...)
			again += more
			orders[brief(want)] = true
		}
	}
	if again < 10000 || len(orders) < 1000 {
		t.Errorf("only %d keys were no longer true, only %d unlike orders", again, len(orders))
	}
}

func TestP15_1OrderAsTheModelAtLength(t *testing.T) {
	dice := sample.Dice{Seed: 151}
	for _, g := range []api.Graph{grid(&dice, 12, 50), dice.Graph(150, 450, 1000), dice.Graph(40, 1200, 100)} {
		for _, opts := range []api.Options{options(5, 20, 2, 1, 1), options(3, 9, 1, -1, 2), options(0, 0, 1, 2, 3), options(16, 100, 190, 120, 70)} {
			want, _ := modelOrder(t, g, opts)
			checkOrder(t, g, opts, want...)
		}
	}
}

// A path, its middle contracted first: each further link is a shortcut of a shortcut.
func TestP15_1ShortcutOfAShortcut(t *testing.T) {
	path := sample.Graph(5, row{0, 1, 1}, row{1, 2, 2}, row{2, 3, 4}, row{3, 4, 8})
	want := api.Hier{
		Node:      []uint32{1, 2, 3, 0, 4},
		UpFirst:   []uint32{0, 1, 2, 3, 4, 4},
		Up:        []api.Link{sample.Plain(1, 2), sample.Plain(2, 4), sample.Plain(4, 8), {To: 4, Weight: 15, Left: 6, Right: 2}},
		DownFirst: []uint32{0, 1, 2, 3, 3, 3},
		Down:      []api.Link{sample.Plain(3, 1), {To: 3, Weight: 3, Left: 4, Right: 0}, {To: 3, Weight: 7, Left: 5, Right: 1}},
	}
	for _, opts := range someOptions() {
		checkAlong(t, path, ints{1, 2, 3, 0, 4}, opts, want)
	}
}

// Links stand by the ranks of their other ends, not by those nodes' numbers.
func TestP15_1LinksByRanks(t *testing.T) {
	g := sample.Graph(4, row{0, 1, 1}, row{0, 2, 2}, row{0, 3, 3}, row{1, 0, 4}, row{2, 0, 5}, row{3, 0, 6})
	h := mustAlong(t, g, ints{0, 3, 1, 2}, api.Options{})
	up, down := h.Up[:h.UpFirst[1]], h.Down[:h.DownFirst[1]]
	if !slices.Equal(up, []api.Link{sample.Plain(1, 3), sample.Plain(2, 1), sample.Plain(3, 2)}) {
		t.Errorf("up links of the rank 0: %v", up)
	}
	if !slices.Equal(down, []api.Link{sample.Plain(1, 6), sample.Plain(2, 4), sample.Plain(3, 5)}) {
		t.Errorf("down links of the rank 0: %v", down)
	}
}

// With a search that sees a witness there is no shortcut, without one there is.
func TestP15_1Bounds(t *testing.T) {
	g := sample.Graph(4, row{0, 1, 2}, row{1, 2, 2}, row{0, 3, 1}, row{3, 2, 3})
	list := ints{1, 0, 2, 3}
	for _, c := range []struct{ hops, settles, links int }{{2, 2, 4}, {full, full, 4}, {full + 9, math.MaxInt, 4}, {1, 9, 5}, {9, 1, 5}, {0, 0, 5}, {0, full, 5}, {full, 0, 5}, {-1, 9, 5}, {9, math.MinInt, 5}} {
		h := mustAlong(t, g, list, options(c.hops, c.settles, 1, 1, 1))
		if len(h.Up)+len(h.Down) != c.links {
			t.Errorf("Hops %d, Settles %d: %v, wanted %d links", c.hops, c.settles, h, c.links)
		}
	}
}

func TestP15_1AlongAsTheModel(t *testing.T) {
	dice := sample.Dice{Seed: 1510}
	shortcuts, nested := 0, 0
	for i, g := range someGraphs() {
		for j, opts := range someOptions() {
			if g.N < 4 && (i+j)%5 > 0 {
				continue
			}
			list := dice.Shuffled(g.N)
			want := modelAlong(t, g, list, opts)
			checkAlong(t, g, list, opts, want)
			count, deep := shortcutsOf(want)
			shortcuts += count
			nested += deep
		}
	}
	if shortcuts < 10000 || nested < 2000 {
		t.Errorf("only %d shortcuts, %d of shortcuts", shortcuts, nested)
	}
}

// Without searches it is the plainest contraction of all.
func TestP15_1PlainestContraction(t *testing.T) {
	dice := sample.Dice{Seed: 1511}
	for _, g := range someGraphs() {
		list := dice.Shuffled(g.N)
		want := sample.Contracted(g, list)
		checkAlong(t, g, list, api.Options{}, want)
		checkAlong(t, g, list, options(0, full, 3, 3, 3), want)
		checkAlong(t, g, list, options(full, -1, -3, 0, 0), want)
	}
}

func TestP15_1BuildIsAlongTheOrder(t *testing.T) {
	for i, g := range someGraphs() {
		opts := someOptions()[i%len(someOptions())]
		checkBuild(t, g, opts, modelAlong(t, g, mustOrder(t, g, opts), opts))
	}
}

func TestErrorsOfGraphs(t *testing.T) {
	for _, w := range sample.Wrong() {
		for _, opts := range []api.Options{{}, five(), options(-1, -1, math.MaxInt, math.MinInt, 0)} {
			checkRefused(t, w.Graph, opts, w.Err)
			for _, list := range []ints{nil, {0}, {0, 1}, {-1, -1}, rising(5)} {
				checkAlongRefused(t, w.Graph, list, opts, w.Err)
			}
		}
	}
}

func TestErrorsOfLists(t *testing.T) {
	g := example()
	for _, c := range []struct {
		list ints
		want error
	}{
		{nil, api.ErrOrder},
		{ints{}, api.ErrOrder},
		{ints{0}, api.ErrOrder},
		{ints{3, 2, 1}, api.ErrOrder},
		{ints{0, 1, 2, 3, 3}, api.ErrOrder},
		{ints{0, 1, 2, 3, 4}, api.ErrOrder},
		{ints{7, 7, 7}, api.ErrOrder},
		{ints{-1, 0, 0, 1, 2}, api.ErrOrder},
		{ints{0, 1, 2, 4}, atNode(3)},
		{ints{4, 1, 2, 3}, atNode(0)},
		{ints{-1, 1, 2, 3}, atNode(0)},
		{ints{0, -4, 2, 3}, atNode(1)},
		{ints{0, 1, math.MinInt, 3}, atNode(2)},
		{ints{0, 1, math.MaxInt, 3}, atNode(2)},
		{ints{0, 1 << 32, 2, 3}, atNode(1)},
		{ints{0, 1, 2, 2}, atNode(3)},
		{ints{0, 0, 2, 3}, atNode(1)},
		{ints{3, 1, 2, 3}, atNode(3)},
		{ints{0, 0, 0, 0}, atNode(1)},
		{ints{0, 1, 0, 9}, atNode(2)},
		{ints{0, 9, 0, 1}, atNode(1)},
		{ints{5, 5, 0, 1}, atNode(0)},
		{ints{1, 2, -3, -3}, atNode(2)},
	} {
		for _, opts := range someOptions() {
			checkAlongRefused(t, g, c.list, opts, c.want)
		}
	}
	checkAlongRefused(t, api.Graph{}, ints{0}, five(), api.ErrOrder)
	checkAlongRefused(t, sample.Graph(1), nil, five(), api.ErrOrder)
	checkAlongRefused(t, sample.Graph(1), ints{1}, five(), atNode(0))
}

// Each list of four numbers around the nodes of a graph of three or four.
func TestErrorsOfAllLists(t *testing.T) {
	for n := 3; n <= 4; n++ {
		g := sample.Graph(n, row{0, 1, 4}, row{1, 2, 1})
		for code := range 7 * 7 * 7 * 7 {
			list := ints{code%7 - 1, code/7%7 - 1, code/49%7 - 1, code/343 - 1}
			h, err := Along(g, list, five())
			want := errorOf(list, n)
			if !sample.SameError(err, want) || isZero(h) != (want != nil) {
				t.Fatalf("Along(%v, %v): %v, %v, wanted %v", g, list, h, err, want)
			}
		}
	}
}

func errorOf(list ints, n int) error {
	if len(list) != n {
		return api.ErrOrder
	}
	for i, v := range list {
		if v < 0 || v >= n || slices.Contains(list[:i], v) {
			return atNode(i)
		}
	}
	return nil
}

// A funnel of 16 and 61680 arcs, its middle contracted, has just MaxLinks links.
func TestErrorsMaxLinks(t *testing.T) {
	const in, out = 16, 61680
	if in+out+in*out != api.MaxLinks {
		t.Fatal("the funnel is too wide or too narrow")
	}
	g := funnel(in, out)
	g.N += 2
	list := rising(g.N)
	early := options(5, 5, -1, 0, 0) // by these the middle goes first
	if first := mustOrder(t, g, early)[0]; first != 0 {
		t.Errorf("the first node is %d", first)
	}
	for _, h := range []api.Hier{mustAlong(t, g, list, five()), mustBuild(t, g, early)} {
		if err := hier.Check(h); err != nil || len(h.Up)+len(h.Down) != api.MaxLinks || h.Node[0] != 0 {
			t.Errorf("%d links, the node %d at the rank 0, %v", len(h.Up)+len(h.Down), h.Node[0], err)
		}
	}

	g.Arcs = append(g.Arcs, api.Arc{From: g.N - 1, To: g.N - 2, Weight: 1})
	checkAlongRefused(t, g, list, five(), api.ErrLimit)
	checkRefused(t, g, early, api.ErrLimit)
	checkAlongRefused(t, g, append(list, 0), five(), api.ErrOrder)
	list[g.N-1] = 0
	checkAlongRefused(t, g, list, five(), atNode(g.N-1))
	g.Arcs[0].Weight = -1
	checkAlongRefused(t, g, list, five(), fault.At(api.AtArc, 0, api.ErrWeight))

	// It is the order that makes the difference: with the middle last there is no shortcut.
	g = funnel(in, out)
	if h := mustAlong(t, g, append(rising(g.N)[1:], 0), five()); len(h.Up)+len(h.Down) != in+out {
		t.Errorf("%d links, wanted %d", len(h.Up)+len(h.Down), in+out)
	}
}

// The links that ranks have got count, not the arcs alone: the middle of the same funnel goes when other nodes have gone.
func TestErrorsMaxLinksLater(t *testing.T) {
	g := funnel(16, 61680)
	middle := g.N
	for v := range 3 { // a path beside it, which goes first
		g.Arcs = append(g.Arcs, api.Arc{From: middle + v, To: middle + v + 1, Weight: 1})
	}
	g.N += 4
	beside := ints{middle, middle + 1, middle + 2, middle + 3}
	checkAlongRefused(t, g, append(beside, rising(middle)...), five(), api.ErrLimit)
}

// Shortcuts in the place of dearer arcs make the number no greater.
func TestErrorsMaxLinksReplacedArcs(t *testing.T) {
	const in, out = 16, 61680
	g := funnel(in, out)
	for w := 1 + in; w < g.N; w++ {
		g.Arcs = append(g.Arcs, api.Arc{From: 1, To: w, Weight: 9}, api.Arc{From: 2, To: w, Weight: 3})
	}
	h := mustAlong(t, g, rising(g.N), api.Options{})
	if err := hier.Check(h); err != nil || len(h.Up)+len(h.Down) != api.MaxLinks {
		t.Errorf("%d links, %v", len(h.Up)+len(h.Down), err)
	}
}

// A node through which more ways lead than there may be links: all of them are needed, or none, or some.
func TestErrorsManyWays(t *testing.T) {
	const side = 1100
	g := funnel(side, side)
	checkAlongRefused(t, g, rising(g.N), five(), api.ErrLimit)
	checkRefused(t, g, options(5, 5, -1, 0, 0), api.ErrLimit)

	// Another middle by which all ways are as short, but for those to some nodes at the end: then the first one may go.
	for _, lacking := range []int{0, 1, 5} {
		g := funnel(side, side)
		second := g.N
		for v := 1; v < second-lacking; v++ {
			if v <= side {
				g.Arcs = append(g.Arcs, api.Arc{From: v, To: second, Weight: 1})
			} else {
				g.Arcs = append(g.Arcs, api.Arc{From: second, To: v, Weight: 2})
			}
		}
		g.N++
		h := mustAlong(t, g, rising(g.N), five())
		if err := hier.Check(h); err != nil || len(h.Up)+len(h.Down) != 4*side-lacking+side*lacking {
			t.Errorf("%d links, %v", len(h.Up)+len(h.Down), err)
		}
		checkAlongRefused(t, g, rising(g.N), options(1, 5, 1, 0, 0), api.ErrLimit)
	}
}

// At most 1024 nodes never have too many links: a star both ways, its middle first, has all that there may be.
func TestErrorsNoneForFewNodes(t *testing.T) {
	const n = 400
	g := api.Graph{N: n}
	for v := 1; v < n; v++ {
		g.Arcs = append(g.Arcs, api.Arc{From: v, To: 0, Weight: v}, api.Arc{From: 0, To: v, Weight: 2 * v})
	}
	h := mustAlong(t, g, rising(n), api.Options{})
	if err := hier.Check(h); err != nil || len(h.Up) != n*(n-1)/2 || len(h.Down) != n*(n-1)/2 {
		t.Errorf("%d and %d links, %v", len(h.Up), len(h.Down), err)
	}
}

func TestP15_2Made(t *testing.T) {
	dice := sample.Dice{Seed: 152}
	for i, g := range someGraphs() {
		for j, opts := range someOptions() {
			if (i+j)%5 > 0 {
				continue
			}
			checkMade(t, g, mustBuild(t, g, opts))
			checkMade(t, g, mustAlong(t, g, dice.Shuffled(g.N), opts))
		}
	}
}

// P8, and every order of a small graph.
func TestP15_2EveryOrder(t *testing.T) {
	dice := sample.Dice{Seed: 1520}
	for round := range 20 {
		g := dice.Graph(5, 14, 1+dice.Below(9))
		for i, list := range orders(rising(5)) {
			checkMade(t, g, mustAlong(t, g, list, someOptions()[(round+i)%len(someOptions())]))
		}
	}
}

// orders: all orders of a list.
func orders(list ints) []ints {
	if len(list) == 0 {
		return []ints{nil}
	}
	var all []ints
	for i, v := range list {
		for _, rest := range orders(slices.Concat(list[:i], list[i+1:])) {
			all = append(all, append(ints{v}, rest...))
		}
	}
	return all
}

func TestP15_2MadeAtLength(t *testing.T) {
	dice := sample.Dice{Seed: 1521}
	for _, g := range []api.Graph{grid(&dice, 10, 50), grid(&dice, 10, 0), dice.Graph(100, 300, api.MaxWeight), dice.Graph(60, 1500, 10), funnel(30, 40)} {
		for _, opts := range []api.Options{{}, five(), options(5, 30, 2, 1, 1), options(full, full, 190, 120, 70), options(3, 8, -1, 1, 0)} {
			checkMade(t, g, mustBuild(t, g, opts))
			checkMade(t, g, mustAlong(t, g, dice.Shuffled(g.N), opts))
		}
	}
}

// A graph makes what its normal graph makes, in whatever order its arcs stand.
func TestP15_2NormalGraph(t *testing.T) {
	dice := sample.Dice{Seed: 1522}
	for i, g := range someGraphs() {
		opts := someOptions()[i%len(someOptions())]
		list, h := mustOrder(t, g, opts), mustBuild(t, g, opts)
		along := dice.Shuffled(g.N)
		other := mustAlong(t, g, along, opts)
		mixed := api.Graph{N: g.N}
		for _, place := range dice.Shuffled(len(g.Arcs)) {
			mixed.Arcs = append(mixed.Arcs, g.Arcs[place])
		}
		more := api.Graph{N: g.N, Arcs: slices.Clone(g.Arcs)}
		for _, arc := range g.Arcs {
			more.Arcs = append(more.Arcs, api.Arc{From: arc.To, To: arc.To, Weight: 0}, api.Arc{From: arc.From, To: arc.To, Weight: min(arc.Weight+1, api.MaxWeight)})
		}
		for _, like := range []api.Graph{sample.Normal(g), mixed, more} {
			checkOrder(t, like, opts, list...)
			checkBuild(t, like, opts, h)
			checkAlong(t, like, along, opts, other)
		}
	}
}

// Options make what the plain ones make.
func TestP15_2PlainOptions(t *testing.T) {
	dice := sample.Dice{Seed: 1523}
	odd := ints{math.MinInt, -full - 1, -1001, -1000, -1, 0, 1, 3, 1000, 1001, full, full + 1, math.MaxInt}
	pick := func() int { return odd[dice.Below(len(odd))] }
	for _, g := range someGraphs() {
		opts := options(pick(), pick(), pick(), pick(), pick())
		plain := rank.Plain(opts)
		list := mustOrder(t, g, plain)
		checkOrder(t, g, opts, list...)
		checkBuild(t, g, opts, mustBuild(t, g, plain))
		slices.Reverse(list)
		checkAlong(t, g, list, opts, mustAlong(t, g, list, plain))
		// Along a list the factors don't count.
		checkAlong(t, g, list, options(opts.Hops, opts.Settles, 3, -2, 1), mustAlong(t, g, list, plain))
	}
}

// The longest path of the dearest arcs, its ends contracted last: one link stands for all of it.
func TestP15_2GreatestPath(t *testing.T) {
	const n = api.MaxNodes
	g := api.Graph{N: n}
	for v := range n - 1 {
		g.Arcs = append(g.Arcs, api.Arc{From: v, To: v + 1, Weight: api.MaxWeight})
	}
	dice := sample.Dice{Seed: 1524}
	list := slices.DeleteFunc(dice.Shuffled(n), func(v int) bool { return v == 0 || v == n-1 })
	h := mustAlong(t, g, append(list, n-1, 0), five())
	if err := hier.Check(h); err != nil {
		t.Error(err)
	}
	last := h.Down[h.DownFirst[n-2]:]
	if len(last) != 1 || last[0].To != n-1 || last[0].Weight != (n-1)*api.MaxWeight {
		t.Errorf("the last links are %v", brief(last))
	}
	made, err := hier.Graph(h)
	if err != nil || !sample.SameGraph(made, g) {
		t.Errorf("Graph: %v, %v", brief(made), err)
	}
}

// Graphs at the limits: MaxNodes without arcs; MaxArcs between few nodes.
func TestP15_2Limits(t *testing.T) {
	empty := api.Graph{N: api.MaxNodes}
	checkOrder(t, empty, five(), rising(empty.N)...)
	h := mustBuild(t, empty, five())
	if err := hier.Check(h); err != nil || len(h.Node) != empty.N || len(h.Up)+len(h.Down) != 0 {
		t.Errorf("%d nodes, %d links, %v", len(h.Node), len(h.Up)+len(h.Down), err)
	}
	dice := sample.Dice{Seed: 1525}
	many := dice.Graph(30, api.MaxArcs, api.MaxWeight)
	checkBuild(t, many, five(), mustBuild(t, sample.Normal(many), five()))
}

// P2: the same question has the same answer, whatever was asked before.
func TestQuestionsChangeNothing(t *testing.T) {
	dice := sample.Dice{Seed: 2}
	g := dice.Graph(20, 70, 9)
	opts := options(4, 9, 2, 1, 1)
	list, h := mustOrder(t, g, opts), mustBuild(t, g, opts)
	for range 3 {
		checkOrder(t, example(), five(), 0, 1, 2, 3)
		checkOrder(t, g, opts, list...)
		checkAlongRefused(t, g, list[1:], opts, api.ErrOrder)
		checkBuild(t, g, opts, h)
		checkAlong(t, g, list, opts, h)
		checkRefused(t, sample.Graph(-1), opts, api.ErrLimit)
	}
}

// Graphs and lists stay as they are, spare room too, and what lies there doesn't count.
func TestMemoryOfArguments(t *testing.T) {
	const odd = -7
	for i, g := range someGraphs() {
		opts := someOptions()[i%len(someOptions())]
		list, h := mustOrder(t, g, opts), mustBuild(t, g, opts)
		roomy, along := sample.Roomy(g), sample.RoomyList(list, odd)
		arcs, numbers := sample.Room(roomy), sample.RoomOf(along)
		checkOrder(t, roomy, opts, list...)
		checkBuild(t, roomy, opts, h)
		checkAlong(t, roomy, along, opts, h)
		if g.N > 0 {
			checkAlongRefused(t, roomy, along[:g.N-1], opts, api.ErrOrder)
		}
		if !slices.Equal(sample.Room(roomy), arcs) || !slices.Equal(sample.RoomOf(along), numbers) {
			t.Errorf("%v, %v have changed", brief(g), brief(list))
		}
	}
	for _, list := range []ints{{1, 0, 7}, {2, 2, 2}, {0, 1}} {
		g, along := sample.Roomy(sample.Graph(3, row{0, 1, 4})), sample.RoomyList(list, odd)
		arcs, numbers := sample.Room(g), sample.RoomOf(along)
		checkAlongRefused(t, g, along, five(), errorOf(list, 3))
		if !slices.Equal(sample.Room(g), arcs) || !slices.Equal(sample.RoomOf(along), numbers) {
			t.Errorf("%v, %v have changed", g, list)
		}
	}
}

// Writing over an answer, or over what was handed in, spare room too, changes no other answer.
func TestMemoryOfAnswers(t *testing.T) {
	const odd = -7
	for i, g := range someGraphs() {
		opts := someOptions()[i%len(someOptions())]
		list, h := mustOrder(t, g, opts), mustBuild(t, g, opts)
		sample.SpoilList(mustOrder(t, g, opts), odd)
		sample.SpoilHier(mustBuild(t, g, opts))
		sample.SpoilHier(mustAlong(t, g, list, opts))

		roomy, along := sample.Roomy(g), sample.RoomyList(list, odd)
		again, made, built := mustOrder(t, roomy, opts), mustAlong(t, roomy, along, opts), mustBuild(t, roomy, opts)
		sample.Spoil(roomy.Arcs)
		sample.SpoilList(along, odd)
		if !slices.Equal(again, list) || !sample.SameHier(made, h) || !sample.SameHier(built, h) {
			t.Errorf("%v: an answer has changed", brief(g))
		}
	}
}

// No two lists of one answer have memory in common.
func TestMemoryOfListsApart(t *testing.T) {
	for i, g := range someGraphs() {
		if g.N < 3 && i%20 > 0 {
			continue
		}
		if !sample.ListsApart(mustBuild(t, g, someOptions()[i%len(someOptions())])) {
			t.Fatalf("%v: two lists have memory in common", brief(g))
		}
	}
}
