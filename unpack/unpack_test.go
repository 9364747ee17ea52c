package unpack

import (
	"fmt"
	"math"
	"slices"
	"testing"

	"viaduct/api"
	"viaduct/fault"
	"viaduct/hier"
	"viaduct/order"
	"viaduct/query"
	"viaduct/sample"
)

type ints = []int

// brief: what a failure tells of a thing, which may have a million links.
func brief(thing any) string {
	text := fmt.Sprint(thing)
	return text[:min(len(text), 300)]
}

func nodeAt(place int) error {
	return fault.At(api.AtNode, place, api.ErrNode)
}

// checkLink: the answers of the three calls about a link.
func checkLink(t *testing.T, h api.Hier, i int, links, nodes ints) {
	t.Helper()
	if list, err := Links(h, i); !slices.Equal(list, links) || err != nil {
		t.Errorf("Links(%s, %d): %s, %v, wanted %s", brief(h), i, brief(list), err, brief(links))
	}
	if n, err := Count(h, i); n != len(links) || err != nil {
		t.Errorf("Count(%s, %d): %d, %v, wanted %d", brief(h), i, n, err, len(links))
	}
	if list, err := Nodes(h, i); !slices.Equal(list, nodes) || err != nil {
		t.Errorf("Nodes(%s, %d): %s, %v, wanted %s", brief(h), i, brief(list), err, brief(nodes))
	}
}

func checkLinkRefused(t *testing.T, h api.Hier, i int, want error) {
	t.Helper()
	if list, err := Links(h, i); len(list) > 0 || !sample.SameError(err, want) {
		t.Errorf("Links(%s, %d): %s, %v, wanted %v", brief(h), i, brief(list), err, want)
	}
	if n, err := Count(h, i); n != 0 || !sample.SameError(err, want) {
		t.Errorf("Count(%s, %d): %d, %v, wanted %v", brief(h), i, n, err, want)
	}
	if list, err := Nodes(h, i); len(list) > 0 || !sample.SameError(err, want) {
		t.Errorf("Nodes(%s, %d): %s, %v, wanted %v", brief(h), i, brief(list), err, want)
	}
}

func checkPathIs(t *testing.T, h api.Hier, s, v int, want ints, wantErr error) {
	t.Helper()
	if path, err := Path(h, s, v); !slices.Equal(path, want) || !sample.SameError(err, wantErr) {
		t.Errorf("Path(%s, %d, %d): %s, %v, wanted %s, %v", brief(h), s, v, brief(path), err, brief(want), wantErr)
	}
}

// arcs: the weights of a graph's arcs, by their ends.
type arcs map[[2]int]uint64

func arcsOf(t *testing.T, h api.Hier) arcs {
	t.Helper()
	g, err := hier.Graph(h)
	if err != nil {
		t.Fatal(err)
	}
	all := arcs{}
	for _, a := range g.Arcs {
		all[[2]int{a.From, a.To}] = uint64(a.Weight)
	}
	return all
}

// length: that of a list of nodes; false, if it is no walk.
func (a arcs) length(list ints) (uint64, bool) {
	sum := uint64(0)
	for i := range list[1:] {
		weight, joined := a[[2]int{list[i], list[i+1]}]
		if !joined {
			return 0, false
		}
		sum += weight
	}
	return sum, true
}

// checkPath: is what Path answers a path from s to v, no longer than that?
func (a arcs) checkPath(t *testing.T, h api.Hier, s, v int, most uint64) ints {
	t.Helper()
	path, err := Path(h, s, v)
	if err != nil || len(path) == 0 || path[0] != s || path[len(path)-1] != v {
		t.Errorf("Path(%s, %d, %d): %s, %v", brief(h), s, v, brief(path), err)
		return nil
	}
	seen := map[int]int{}
	for _, node := range path {
		seen[node]++
	}
	if length, is := a.length(path); !is || length > most || len(seen) != len(path) {
		t.Errorf("Path(%s, %d, %d): %s: a walk: %t, of the length %d, wanted at most %d", brief(h), s, v, brief(path), is, length, most)
	}
	return path
}

// checkPaths: those between all nodes, held against query.Distance.
func checkPaths(t *testing.T, h api.Hier) {
	t.Helper()
	a := arcsOf(t, h)
	for s := range h.Node {
		for v := range h.Node {
			dist, err := query.Distance(h, s, v)
			if err != nil {
				checkPathIs(t, h, s, v, nil, err)
			} else {
				a.checkPath(t, h, s, v, dist)
			}
		}
	}
}

func TestP22_1Examples(t *testing.T) {
	h := sample.Three()
	checkLink(t, h, 0, ints{0}, ints{1, 2})
	checkLink(t, h, 1, ints{2, 0}, ints{0, 1, 2})
	checkLink(t, h, 2, ints{2}, ints{0, 1})
	checkLinkRefused(t, h, 3, api.ErrArg)
	checkLinkRefused(t, h, -1, api.ErrArg)
}

// The same turned about: a shortcut that leads down.
func TestP22_1Down(t *testing.T) {
	h, err := hier.Turn(sample.Three())
	if err != nil {
		t.Fatal(err)
	}
	checkLink(t, h, 0, ints{0}, ints{1, 0})
	checkLink(t, h, 1, ints{1}, ints{2, 1})
	checkLink(t, h, 2, ints{1, 0}, ints{2, 1, 0})
}

// Ranks without links, at the ends and between, don't mislead.
func TestP22_1EmptyRows(t *testing.T) {
	h := sample.PlainHier(9, [3]int{2, 5, 1}, [3]int{2, 8, 2}, [3]int{5, 6, 3}, [3]int{8, 3, 4}, [3]int{4, 3, 5}, [3]int{7, 6, 6})
	for i, ends := range [][2]int{{2, 5}, {2, 8}, {5, 6}, {4, 3}, {8, 3}, {7, 6}} {
		checkLink(t, h, i, ints{i}, ends[:])
	}
	slices.Reverse(h.Node)
	for i, ends := range [][2]int{{6, 3}, {6, 0}, {3, 2}, {4, 5}, {0, 5}, {1, 2}} {
		checkLink(t, h, i, ints{i}, ends[:])
	}
}

// checkAsModel: the answers of all links, and that their weights add up (P22.3).
func checkAsModel(t *testing.T, h api.Hier) {
	t.Helper()
	a := arcsOf(t, h)
	for i := range len(h.Up) + len(h.Down) {
		links, nodes := modelLinks(h, i), modelNodes(t, h, i)
		checkLink(t, h, i, links, nodes)
		sum := uint64(0)
		for _, number := range links {
			sum += linkAt(h, number).Weight
		}
		if length, is := a.length(nodes); !is || sum != linkAt(h, i).Weight || length != sum {
			t.Errorf("%s: the link %d: %d along its links, %d along its nodes (a walk: %t)", brief(h), i, sum, length, is)
		}
		tail, head, err := hier.Ends(h, i)
		if err != nil || nodes[0] != int(h.Node[tail]) || nodes[len(nodes)-1] != int(h.Node[head]) {
			t.Errorf("%s: the link %d from %d to %d, %v: %v", brief(h), i, tail, head, err, nodes)
		}
	}
}

func TestP22_1P22_3AsTheModel(t *testing.T) {
	for h := range sample.Hiers() {
		if len(h.Node) < 10 {
			checkAsModel(t, h)
		}
	}
	for h := range sample.LooseHiers(221, 400, 10) {
		checkAsModel(t, h)
	}
	checkAsModel(t, sample.Doubling(8, 3))
}

// A link at the rank r stands for 2^r plain ones.
func TestP22_1LimitOfLinks(t *testing.T) {
	h := sample.Doubling(20, 1)
	for rank := range 19 {
		for _, i := range []int{int(h.UpFirst[rank]), len(h.Up) + int(h.DownFirst[rank])} {
			if rank == 18 {
				checkLinkRefused(t, h, i, api.ErrLong)
				continue
			}
			n, err := Count(h, i)
			list, errLinks := Links(h, i)
			nodes, errNodes := Nodes(h, i)
			if n != 1<<rank || len(list) != n || len(nodes) != n+1 || err != nil || errLinks != nil || errNodes != nil {
				t.Errorf("the link %d: %d, %v, %d links, %v, %d nodes, %v", i, n, err, len(list), errLinks, len(nodes), errNodes)
			}
		}
	}
}

// One more than MaxPath, whichever side the one stands on; just MaxPath from sides that are unlike.
func TestP22_1OneBeyond(t *testing.T) {
	plain, shortcuts := doubled(19, alike(1))
	plain = append(plain, sample.BothWays(17, 19, 1)...)
	shortcuts = append(shortcuts, sample.BothWays(18, 19, 17)...)
	h := sample.ByHand(20, plain, shortcuts)
	checkLinkRefused(t, h, int(h.UpFirst[18]), api.ErrLong)
	checkLinkRefused(t, h, len(h.Up)+int(h.DownFirst[18]), api.ErrLong)
	// One less: the lowest shortcut of one side is a plain link.
	plain, shortcuts = doubled(18, alike(1))
	plain = append(plain, sample.BothWays(0, 18, 1)...)
	plain = append(plain, sample.BothWays(1, 18, 1)...)
	for rank := 2; rank < 18; rank++ {
		shortcuts = append(shortcuts, sample.BothWays(rank, 18, rank-1)...)
	}
	h = sample.ByHand(19, plain, shortcuts)
	for _, i := range []int{int(h.UpFirst[17]), len(h.Up) + int(h.DownFirst[17])} {
		if n, err := Count(h, i); n != api.MaxPath-1 || err != nil {
			t.Errorf("the link %d: %d, %v", i, n, err)
		}
	}
}

// deep: from each rank up to the last one, and back, a shortcut that goes down over all ranks below, one by one.
func deep(n int) api.Hier {
	var plain, shortcuts [][3]int
	last := n - 1
	plain = append(plain, sample.BothWays(0, last, 1)...)
	for rank := 1; rank < last; rank++ {
		plain = append(plain, sample.BothWays(rank-1, rank, 1)...)
		shortcuts = append(shortcuts, sample.BothWays(rank, last, rank-1)...)
	}
	return sample.ByHand(n, plain, shortcuts)
}

// falling: the nodes from first down to 0, then the last one of n.
func falling(first, n int) ints {
	var list ints
	for v := first; v >= 0; v-- {
		list = append(list, v)
	}
	return append(list, n-1)
}

func TestP22_1Deepest(t *testing.T) {
	const n = api.MaxNodes
	h := deep(n)
	want := falling(n-2, n)
	up, down := len(h.Up)-1, len(h.Up)+len(h.Down)-1
	if list, err := Nodes(h, up); !slices.Equal(list, want) || err != nil {
		t.Errorf("Nodes of the last link up: %s, %v", brief(list), err)
	}
	checkPathIs(t, h, n-2, n-1, want, nil)
	slices.Reverse(want)
	if list, err := Nodes(h, down); !slices.Equal(list, want) || err != nil {
		t.Errorf("Nodes of the last link down: %s, %v", brief(list), err)
	}
	checkPathIs(t, h, n-1, n-2, want, nil)
	if count, err := Count(h, up); count != n-1 || err != nil {
		t.Errorf("Count of the last link up: %d, %v", count, err)
	}
}

// In a hierarchy made by hand a link may stand for more than any memory holds.
func TestP22_1MoreThanMemory(t *testing.T) {
	h := sample.Doubling(100, 0)
	for rank := 18; rank < 99; rank += 8 {
		checkLinkRefused(t, h, int(h.UpFirst[rank]), api.ErrLong)
		checkLinkRefused(t, h, len(h.Up)+int(h.DownFirst[rank+1])-1, api.ErrLong)
	}
}

func TestP22_2Examples(t *testing.T) {
	h := sample.Three()
	checkPathIs(t, h, 0, 2, ints{0, 1, 2}, nil)
	checkPathIs(t, h, 1, 1, ints{1}, nil)
	checkPathIs(t, h, 2, 0, nil, api.ErrNoWalk)
	checkPathIs(t, h, 0, 3, nil, nodeAt(1))
	// The other pairs.
	checkPathIs(t, h, 0, 0, ints{0}, nil)
	checkPathIs(t, h, 0, 1, ints{0, 1}, nil)
	checkPathIs(t, h, 1, 2, ints{1, 2}, nil)
	checkPathIs(t, h, 1, 0, nil, api.ErrNoWalk)
}

// Where just one path is shortest.
func TestP22_2OnePath(t *testing.T) {
	h := sample.PlainHier(6,
		[3]int{0, 1, 1}, [3]int{1, 3, 1}, [3]int{0, 3, 9}, [3]int{3, 5, 1}, [3]int{0, 5, 4}, [3]int{1, 5, 3},
		[3]int{5, 4, 1}, [3]int{4, 2, 1}, [3]int{5, 2, 3}, [3]int{3, 2, 9})
	h.Node = []uint32{5, 4, 3, 2, 1, 0}
	checkPathIs(t, h, 5, 3, ints{5, 4, 2, 0, 1, 3}, nil)
	checkPathIs(t, h, 5, 1, ints{5, 4, 2, 0, 1}, nil)
	checkPathIs(t, h, 4, 3, ints{4, 2, 0, 1, 3}, nil)
	checkPathIs(t, h, 0, 3, ints{0, 1, 3}, nil)
	checkPathIs(t, h, 3, 5, nil, api.ErrNoWalk)
}

// A path may go through nodes that both searches have seen, or that weigh nothing.
func TestP22_2Weightless(t *testing.T) {
	checkPaths(t, sample.Flat(6, 99, 0))
	checkPaths(t, sample.Chain(7, 0))
	checkPaths(t, sample.Doubling(7, 0))
	for h := range weightless {
		checkPaths(t, h)
	}
}

func weightless(yield func(api.Hier) bool) {
	dice := sample.Dice{Seed: 222}
	for range 300 {
		n := 1 + dice.Below(9)
		if !yield(dice.Loose(dice.Graph(n, dice.Below(5*n), dice.Below(2)), dice.Shuffled(n), 30)) {
			return
		}
	}
}

func TestP22_2AnyInForm(t *testing.T) {
	for h := range sample.Hiers() {
		if len(h.Node) < 10 {
			checkPaths(t, h)
		}
	}
	for h := range sample.LooseHiers(223, 600, 12) {
		checkPaths(t, h)
	}
	for h := range sample.LooseHiers(224, 10, 40) {
		checkPaths(t, h)
	}
}

// In a true hierarchy paths are shortest ones.
func TestP22_2TrueOnes(t *testing.T) {
	trueOnes := 0
	for h := range sample.LooseHiers(225, 600, 12) {
		if sample.FirstFalse(h) >= 0 {
			continue
		}
		trueOnes++
		g, err := hier.Graph(h)
		if err != nil {
			t.Fatal(err)
		}
		checkShortest(t, h, sample.Distances(g))
	}
	if trueOnes < 200 {
		t.Errorf("only %d true ones", trueOnes)
	}
}

// checkShortest: have all paths the lengths of a table?
func checkShortest(t *testing.T, h api.Hier, dist [][]uint64) {
	t.Helper()
	a := arcsOf(t, h)
	for s, row := range dist {
		for v, least := range row {
			if least == api.Unreached {
				checkPathIs(t, h, s, v, nil, api.ErrNoWalk)
			} else {
				a.checkPath(t, h, s, v, least)
			}
		}
	}
}

// The way laid out has loops: it comes twice through 0.
func TestP22_2Loops(t *testing.T) {
	plain := [][3]int{{3, 0, 1}, {0, 1, 2}, {1, 0, 4}, {0, 4, 8}, {1, 2, 16}, {4, 2, 32}}
	// From 3 to 1 by way of 0, from 1 to 4 by way of 0; from 3 to 4 by way of 1.
	h := sample.ByHand(5, plain, [][3]int{{3, 1, 0}, {1, 4, 0}, {3, 4, 1}})
	checkLink(t, h, len(h.Up)-1, ints{6, 0, 5, 1}, ints{3, 0, 1, 0, 4})
	checkPathIs(t, h, 3, 4, ints{3, 0, 4}, nil)
	checkPathIs(t, h, 3, 2, ints{3, 0, 4, 2}, nil)
	checkPathIs(t, h, 1, 4, ints{1, 0, 4}, nil)
}

// Ways up and down that cross: both come through a rank below the one where they meet.
func TestP22_2CrossingWays(t *testing.T) {
	h := sample.ByHand(4, [][3]int{{1, 0, 1}, {0, 3, 1}, {3, 0, 1}, {0, 2, 1}}, [][3]int{{1, 3, 0}, {3, 2, 0}})
	if dist, err := query.Distance(h, 1, 2); dist != 4 || err != nil {
		t.Fatalf("the distance: %d, %v", dist, err)
	}
	checkPathIs(t, h, 1, 2, ints{1, 0, 2}, nil)
}

// Ways that are too long to be laid out have paths too.
func TestP22_2TooLong(t *testing.T) {
	dice := sample.Dice{Seed: 226}
	for _, weight := range []func(int, int) int{alike(0), alike(1), alike(1 << 29), func(int, int) int { return dice.Below(10) }} {
		plain, shortcuts := doubled(20, weight)
		checkPaths(t, sample.ByHand(20, plain, shortcuts))
	}
	h := sample.Doubling(100, 0)
	a := arcsOf(t, h)
	for s := 15; s < 100; s += 12 {
		for v := 17; v < 100; v += 9 {
			a.checkPath(t, h, s, v, 0)
		}
	}
}

// All of the way's links together are too long; none of them is.
func TestP22_2TooLongTogether(t *testing.T) {
	plain, shortcuts := doubled(19, alike(1))
	for rank := 18; rank < 21; rank++ {
		plain = append(plain, sample.BothWays(rank, rank+1, 1)...)
	}
	h := sample.ByHand(22, plain, shortcuts)
	for i := range len(h.Up) + len(h.Down) {
		if _, err := Count(h, i); err != nil {
			t.Fatalf("the link %d: %v", i, err)
		}
	}
	checkPaths(t, h)
}

// The graph has more arcs than csr's arrays take, and the way is too long.
func TestP22_2MoreThanMaxArcs(t *testing.T) {
	plain, shortcuts := doubled(40, alike(0))
	for low := 40; low < 600; low++ {
		for high := low + 1; high < 600; high++ {
			plain = append(plain, sample.BothWays(low, high, 1)...)
		}
	}
	if len(plain) <= api.MaxArcs {
		t.Fatalf("only %d plain links", len(plain))
	}
	h := sample.ByHand(600, plain, shortcuts)
	a := arcsOf(t, h)
	a.checkPath(t, h, 38, 39, 0)
	a.checkPath(t, h, 39, 38, 0)
	a.checkPath(t, h, 30, 35, 0)
	a.checkPath(t, h, 599, 40, 1)
	checkPathIs(t, h, 38, 50, nil, api.ErrNoWalk)
}

func TestP4Roads(t *testing.T) {
	dice, all := sample.Dice{Seed: 227}, sample.Options()
	i := 0
	for g := range sample.Some() {
		if i++; i%3 != 0 {
			continue
		}
		h, err := order.Build(g, all[i%len(all)])
		if err != nil {
			t.Fatal(err)
		}
		checkShortest(t, h, sample.Distances(g))
	}
	for range 10 {
		n := 1 + dice.Below(14)
		g := dice.Graph(n, dice.Below(4*n), []int{1, 30, api.MaxWeight}[dice.Below(3)])
		for _, opts := range all {
			h, err := order.Along(g, dice.Shuffled(n), opts)
			if err != nil {
				t.Fatal(err)
			}
			checkShortest(t, h, sample.Distances(g))
		}
	}
}

func TestP4Streets(t *testing.T) {
	dice := sample.Dice{Seed: 228}
	g := dice.Streets(14)
	want := sample.Distances(g)
	for _, opts := range sample.Options()[1:3] {
		h, err := order.Build(g, opts)
		if err != nil {
			t.Fatal(err)
		}
		a := arcsOf(t, h)
		for range 2000 {
			s, v := dice.Below(g.N), dice.Below(g.N)
			if want[s][v] != api.Unreached {
				a.checkPath(t, h, s, v, want[s][v])
			}
		}
	}
}

func TestErrors(t *testing.T) {
	h := sample.Three()
	odds := ints{math.MinInt, -1 << 32, -1, 3, 4, 1 << 16, 1 << 32, 1<<32 + 1, math.MaxInt}
	for _, odd := range odds {
		checkLinkRefused(t, h, odd, api.ErrArg)
		for node := range 3 {
			checkPathIs(t, h, odd, node, nil, nodeAt(0))
			checkPathIs(t, h, node, odd, nil, nodeAt(1))
		}
		for _, other := range odds {
			checkPathIs(t, h, odd, other, nil, nodeAt(0))
		}
	}
	for _, few := range []api.Hier{sample.PlainHier(0), sample.PlainHier(1), sample.PlainHier(5)} {
		checkLinkRefused(t, few, 0, api.ErrArg)
		checkLinkRefused(t, few, -1, api.ErrArg)
	}
	checkPathIs(t, sample.PlainHier(0), 0, 0, nil, nodeAt(0))
	checkPathIs(t, sample.PlainHier(1), 0, 0, ints{0}, nil)
	checkPathIs(t, sample.PlainHier(1), 0, 1, nil, nodeAt(1))
	for _, w := range sample.WrongHiers() {
		for _, i := range []int{0, 1, 2, 3, -1, math.MaxInt} {
			checkLinkRefused(t, w.Hier, i, w.Err)
			checkPathIs(t, w.Hier, i, 0, nil, w.Err)
			checkPathIs(t, w.Hier, 0, i, nil, w.Err)
		}
	}
}

// A false hierarchy: what isn't found by searches up has no path, though the graph has one.
func TestNoWalkAsDistance(t *testing.T) {
	h := sample.PlainHier(3, [3]int{1, 0, 4}, [3]int{0, 2, 1})
	checkPathIs(t, h, 1, 2, nil, api.ErrNoWalk)
	h = sample.PlainHier(3, [3]int{1, 0, 4}, [3]int{0, 2, 1}, [3]int{1, 2, 9})
	arcsOf(t, h).checkPath(t, h, 1, 2, 9)
}

func TestLimits(t *testing.T) {
	const n = api.MaxNodes
	rising := make(ints, n)
	for v := range rising {
		rising[v] = v
	}
	h := sample.Chain(n, api.MaxWeight)
	checkPathIs(t, h, 0, n-1, rising, nil)
	slices.Reverse(h.Node)
	checkPathIs(t, h, 0, n-1, rising, nil)
	slices.Reverse(rising)
	checkPathIs(t, h, n-1, 0, rising, nil)
	checkPathIs(t, h, 0, n, nil, nodeAt(1))
	checkPathIs(t, h, n, 0, nil, nodeAt(0))
	checkPathIs(t, h, 7, 7, ints{7}, nil)
	checkLink(t, h, 0, ints{0}, ints{n - 1, n - 2})
	checkLink(t, h, 2*n-3, ints{2*n - 3}, ints{0, 1})
	checkLinkRefused(t, h, 2*n-2, api.ErrArg)
}

func TestGreatestHierarchies(t *testing.T) {
	full := sample.Flat(1500, api.MaxLinks/2, api.MaxLinks/2)
	checkLink(t, full, 0, ints{0}, ints{0, 1})
	checkLink(t, full, api.MaxLinks/2, ints{api.MaxLinks / 2}, ints{1, 0})
	if list, err := Links(full, api.MaxLinks-1); !slices.Equal(list, ints{api.MaxLinks - 1}) || err != nil {
		t.Errorf("the last link: %v, %v", list, err)
	}
	checkLinkRefused(t, full, api.MaxLinks, api.ErrArg)
	arcsOf(t, full).checkPath(t, full, 300, 200, 200)
	// The longest lengths: nearly 2^63, and far more plain links than MaxPath.
	const n, low = 1000, sample.DearestFrom
	dearest := sample.Dearest(n)
	a := arcsOf(t, dearest)
	a.checkPath(t, dearest, low, n-1, (n-1-low)*api.MaxTotal)
	a.checkPath(t, dearest, n-1, low, (n-1-low)*api.MaxTotal)
}
