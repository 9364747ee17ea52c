package sound

import (
	"fmt"
	"math"
	"slices"
	"testing"

	"viaduct/api"
	"viaduct/csr"
	"viaduct/fault"
	"viaduct/hier"
	"viaduct/order"
	"viaduct/sample"
	"viaduct/search"
)

const far = api.Unreached

type (
	numbers = []uint32
	links   = []api.Link
	table   = [][]uint64
)

// brief: what a failure tells of a thing, which may have a million links.
func brief(thing any) string {
	text := fmt.Sprint(thing)
	return text[:min(len(text), 300)]
}

func falseAt(rank int) error {
	return fault.At(api.AtNode, rank, api.ErrFalse)
}

func checkTrue(t *testing.T, h api.Hier, want error) {
	t.Helper()
	if err := Check(h); !sample.SameError(err, want) {
		t.Errorf("Check(%s): %v, wanted %v", brief(h), err, want)
	}
}

// checkFirstFalse: the rank at which it is false, or -1.
func checkFirstFalse(t *testing.T, h api.Hier, rank int) {
	t.Helper()
	if rank < 0 {
		checkTrue(t, h, nil)
	} else {
		checkTrue(t, h, falseAt(rank))
	}
}

func checkAbove(t *testing.T, h api.Hier, r, u, w int, want uint64) {
	t.Helper()
	if dist, err := Above(h, r, u, w); dist != want || err != nil {
		t.Errorf("Above(%s, %d, %d, %d): %d, %v, wanted %d", brief(h), r, u, w, dist, err, want)
	}
}

func checkAboveRefused(t *testing.T, h api.Hier, r, u, w int, want error) {
	t.Helper()
	if dist, err := Above(h, r, u, w); dist != 0 || !sample.SameError(err, want) {
		t.Errorf("Above(%s, %d, %d, %d): %d, %v, wanted %v", brief(h), r, u, w, dist, err, want)
	}
}

func checkMatrix(t *testing.T, h api.Hier, want table) {
	t.Helper()
	if rows, err := Matrix(h); err != nil || !slices.EqualFunc(rows, want, slices.Equal) {
		t.Errorf("Matrix(%s): %s, %v, wanted %s", brief(h), brief(rows), err, brief(want))
	}
}

func checkMatrixRefused(t *testing.T, h api.Hier, want error) {
	t.Helper()
	if rows, err := Matrix(h); len(rows) != 0 || !sample.SameError(err, want) {
		t.Errorf("Matrix(%s): %s, %v, wanted %v", brief(h), brief(rows), err, want)
	}
}

// without: the hierarchy of the document's examples without its shortcut.
func without() api.Hier {
	h := sample.Three()
	h.UpFirst, h.Up = numbers{0, 1, 1, 1}, h.Up[:1]
	return h
}

// arc: a plain link by the ranks of its ends.
type arc = [3]int

// arcsAbove: the links both ends of which lie above r, as arcs between ranks.
func arcsAbove(h api.Hier, r int) api.Graph {
	g := api.Graph{N: len(h.Node)}
	for low := r + 1; low < g.N; low++ {
		for _, link := range h.Up[h.UpFirst[low]:h.UpFirst[low+1]] {
			g.Arcs = append(g.Arcs, api.Arc{From: low, To: int(link.To), Weight: int(link.Weight)})
		}
		for _, link := range h.Down[h.DownFirst[low]:h.DownFirst[low+1]] {
			g.Arcs = append(g.Arcs, api.Arc{From: int(link.To), To: low, Weight: int(link.Weight)})
		}
	}
	return g
}

func TestP16_1Examples(t *testing.T) {
	checkTrue(t, sample.Three(), nil)
	checkTrue(t, without(), falseAt(0))
}

func TestP16_1FewNodes(t *testing.T) {
	checkTrue(t, sample.PlainHier(0), nil)
	checkTrue(t, sample.PlainHier(1), nil)
	checkTrue(t, sample.PlainHier(2), nil)
	checkTrue(t, sample.PlainHier(2, sample.BothWays(0, 1, 9)...), nil)
	checkTrue(t, api.Hier{Node: numbers{1, 0}, UpFirst: numbers{0, 0, 0}, DownFirst: numbers{0, 1, 1}, Down: links{sample.Plain(1, 0)}}, nil)
}

// A way that comes back to where it began needs no walk; each other one needs one that is no longer.
func TestP16_1Walks(t *testing.T) {
	way := []arc{{1, 0, 4}, {0, 2, 5}}
	for _, c := range []struct {
		name string
		n    int
		arcs []arc
		want int
	}{
		{"no walk", 3, nil, 0},
		{"a link, shorter", 3, []arc{{1, 2, 8}}, -1},
		{"a link, as long", 3, []arc{{1, 2, 9}}, -1},
		{"a link, longer", 3, []arc{{1, 2, 10}}, 0},
		{"a link the other way", 3, []arc{{2, 1, 1}}, 0},
		{"two links over a higher rank, as long", 4, []arc{{1, 3, 3}, {3, 2, 6}}, -1},
		{"two links over a higher rank, longer", 4, []arc{{1, 3, 4}, {3, 2, 6}}, 0},
		{"the second link lacks", 4, []arc{{1, 3, 1}}, 0},
		{"the first link lacks", 4, []arc{{3, 2, 1}}, 0},
		{"a dear link beside a cheap way", 4, []arc{{1, 2, 99}, {1, 3, 1}, {3, 2, 1}}, -1},
		{"a cheap link beside a dear way", 4, []arc{{1, 2, 9}, {1, 3, 90}, {3, 2, 90}}, -1},
		{"up twice, down once", 5, []arc{{1, 3, 3}, {3, 4, 3}, {4, 2, 3}}, -1},
		{"up twice, down once, longer", 5, []arc{{1, 3, 3}, {3, 4, 3}, {4, 2, 4}}, 0},
		{"up once, down twice", 5, []arc{{1, 4, 3}, {4, 3, 3}, {3, 2, 3}}, -1},
		{"up once, down twice, longer", 5, []arc{{1, 4, 3}, {4, 3, 4}, {3, 2, 3}}, 0},
	} {
		h := sample.PlainHier(c.n, append(slices.Clone(way), c.arcs...)...)
		if err := Check(h); (c.want < 0) != (err == nil) || c.want == 0 && !sample.SameError(err, falseAt(0)) {
			t.Errorf("%s: %v", c.name, err)
		}
		if first := sample.FirstFalse(h); first != c.want {
			t.Errorf("%s: false at %d", c.name, first)
		}
	}
	checkTrue(t, sample.PlainHier(4, slices.Concat(sample.BothWays(0, 3, 1), sample.BothWays(1, 3, 1), sample.BothWays(2, 3, 1))...), nil)
}

// A walk over a rank that lies below the two ends, but above the rank that is asked, counts; the ranks in between are asked by themselves.
func TestP16_1FalseAbove(t *testing.T) {
	valley := []arc{{2, 0, 5}, {0, 3, 5}, {2, 1, 1}, {1, 3, 1}}
	checkTrue(t, sample.PlainHier(4, valley...), falseAt(1))
	checkTrue(t, sample.PlainHier(4, append(valley, arc{2, 3, 2})...), nil)
	checkTrue(t, sample.PlainHier(4, append(valley, arc{2, 3, 3})...), falseAt(1))
	// A walk over the rank itself, or over one below it, doesn't count.
	checkTrue(t, sample.PlainHier(4, arc{2, 1, 5}, arc{1, 3, 5}, arc{2, 0, 1}, arc{0, 3, 1}), falseAt(0))
	checkTrue(t, sample.PlainHier(4, arc{2, 0, 5}, arc{0, 3, 5}, arc{2, 3, 10}, arc{2, 1, 5}, arc{1, 3, 4}), falseAt(1))
	// Of several ranks the first one is told.
	checkTrue(t, sample.PlainHier(6, arc{3, 2, 1}, arc{2, 4, 1}, arc{4, 3, 1}, arc{3, 5, 1}), falseAt(2))
	checkTrue(t, sample.PlainHier(6, arc{3, 2, 1}, arc{2, 4, 1}, arc{3, 1, 1}, arc{1, 4, 1}, arc{5, 3, 1}), falseAt(2))
	checkTrue(t, sample.PlainHier(6, arc{3, 2, 1}, arc{2, 4, 1}, arc{3, 1, 1}, arc{1, 5, 1}), falseAt(1))
}

// Each hierarchy of three nodes with plain links of few weights.
func TestP16_1AllOfThree(t *testing.T) {
	pairs := [][2]int{{0, 1}, {0, 2}, {1, 0}, {1, 2}, {2, 0}, {2, 1}}
	seen := map[int]int{}
	for code := range 5 * 5 * 5 * 5 * 5 * 5 {
		var arcs []arc
		for _, p := range pairs {
			if weight := code % 5; weight > 0 {
				arcs = append(arcs, arc{p[0], p[1], weight - 1})
			}
			code /= 5
		}
		h := sample.PlainHier(3, arcs...)
		first := sample.FirstFalse(h)
		checkFirstFalse(t, h, first)
		seen[first]++
	}
	if seen[-1] < 1000 || seen[0] < 1000 {
		t.Errorf("by the ranks at which they are false: %v", seen)
	}
}

func TestP16_1AsTheModel(t *testing.T) {
	seen, dispelled := map[int]int{}, 0
	for h := range sample.LooseHiers(161, 20000, 12) {
		first := sample.FirstFalse(h)
		checkFirstFalse(t, h, first)
		seen[first]++
		// Where ways over don't tell, though a walk above is short enough.
		if all := doubts(newNet(h)); len(all) > 0 && int(all[0].rank) < first {
			dispelled++
		}
	}
	if seen[-1] < 5000 || seen[0] < 1000 || seen[1] < 500 || seen[5] < 50 || dispelled < 100 {
		t.Errorf("by the ranks at which they are false: %v; %d doubts were dispelled", seen, dispelled)
	}
	for h := range sample.Hiers() {
		checkFirstFalse(t, h, sample.FirstFalse(h))
	}
}

func TestP16_1AsTheModelAtLength(t *testing.T) {
	for h := range sample.LooseHiers(1610, 150, 60) {
		checkFirstFalse(t, h, sample.FirstFalse(h))
	}
}

// Ways over tell of every true hierarchy that it is, so that no search above single ranks is made.
func TestP16_1NoDoubtOfTrueOnes(t *testing.T) {
	for h := range sample.LooseHiers(1611, 5000, 12) {
		all := doubts(newNet(h))
		if first := sample.FirstFalse(h); (first < 0) != (len(all) == 0) {
			t.Errorf("%s is false at %d, the doubts %v", brief(h), first, all)
		}
	}
	// A rank to which a link leads that is too dear, and then a way up that is not.
	h := sample.PlainHier(6, arc{1, 0, 5}, arc{0, 2, 5}, arc{1, 4, 99}, arc{1, 3, 1}, arc{3, 4, 1}, arc{4, 5, 1}, arc{5, 2, 1})
	if all := doubts(newNet(h)); len(all) > 0 || sample.FirstFalse(h) >= 0 {
		t.Errorf("%s: the doubts %v", brief(h), all)
	}
}

// What is made is true, by whatever order and options; with one link cheaper it may not be.
func TestP16_1Made(t *testing.T) {
	dice := sample.Dice{Seed: 1612}
	for i := range 60 {
		n := 2 + dice.Below(40)
		g := dice.Graph(n, dice.Below(4*n), 50)
		opts := []api.Options{{}, {Hops: 5, Settles: 50, Edge: 2, Deleted: 1, Depth: 1}, {Hops: 1, Settles: 9, Edge: -1}, {Hops: 99, Settles: 999, Depth: 1}}[i%4]
		made, err := order.Build(g, opts)
		if err != nil {
			t.Fatal(err)
		}
		along, err := order.Along(g, dice.Shuffled(n), opts)
		if err != nil {
			t.Fatal(err)
		}
		for _, h := range []api.Hier{made, along} {
			checkTrue(t, h, nil)
			if len(h.Up) > 0 {
				h.Up[dice.Below(len(h.Up))].Weight /= 2
			}
			// A link that is a shortcut, or part of one, can't be changed alone.
			if hier.Check(h) == nil {
				checkFirstFalse(t, h, sample.FirstFalse(h))
			}
		}
	}
}

func TestP16_1Weights(t *testing.T) {
	// The weights double from rank to rank, up to MaxTotal; the links at the rank 0 are cheaper by far.
	for _, weight := range []int{0, 1, api.MaxWeight} {
		h := sample.Doubling(17, weight)
		checkFirstFalse(t, h, sample.FirstFalse(h))
	}
	h := sample.PlainHier(4, arc{1, 0, api.MaxWeight}, arc{0, 2, api.MaxWeight}, arc{1, 3, api.MaxWeight}, arc{3, 2, api.MaxWeight})
	checkTrue(t, h, nil)
	h.Down[0].Weight--
	checkTrue(t, h, falseAt(0))
	// Of nothing but weights 0 all walks are as long as there are.
	for h := range sample.Hiers() {
		h = sample.CopyHier(h)
		for i := range h.Up {
			h.Up[i].Weight = 0
		}
		for i := range h.Down {
			h.Down[i].Weight = 0
		}
		checkFirstFalse(t, h, sample.FirstFalse(h))
	}
}

func TestP16_2Examples(t *testing.T) {
	h := sample.Three()
	checkAbove(t, h, 0, 1, 2, 5)
	checkAbove(t, h, -1, 1, 2, 5)
	checkAboveRefused(t, h, 0, 2, 1, api.ErrNoWalk)
	checkAboveRefused(t, h, 1, 1, 2, api.ErrNode)
	checkAboveRefused(t, h, 0, 1, 3, api.ErrNode)
	checkAboveRefused(t, h, 3, 0, 0, api.ErrArg)
	checkAboveRefused(t, h, 2, 2, 2, api.ErrNode)
	checkAbove(t, h, 1, 2, 2, 0)
	checkAboveRefused(t, without(), 0, 1, 2, api.ErrNoWalk)
	checkAbove(t, without(), -1, 1, 2, 5)
}

// Each rank at or below r is gone, with its links; ranks are asked, not nodes.
func TestP16_2Ranks(t *testing.T) {
	h := sample.PlainHier(5, slices.Concat(sample.BothWays(0, 4, 1), sample.BothWays(0, 3, 1), sample.BothWays(1, 4, 2), sample.BothWays(1, 3, 2), sample.BothWays(2, 4, 3), sample.BothWays(2, 3, 3), sample.BothWays(3, 4, 9))...)
	for r, want := range []uint64{4, 6, 9} {
		checkAbove(t, h, r, 3, 4, want)
		checkAbove(t, h, r, 4, 3, want)
	}
	checkAbove(t, h, -1, 3, 4, 2)
	h.Node = numbers{4, 3, 2, 1, 0}
	checkAbove(t, h, -1, 0, 1, 3)
	checkAbove(t, h, -1, 3, 4, 2)
}

func TestP16_2AsTheModel(t *testing.T) {
	walks, none := 0, 0
	for h := range sample.LooseHiers(162, 300, 9) {
		n := len(h.Node)
		for r := -1; r < n; r++ {
			dist := sample.Distances(arcsAbove(h, r))
			for u := r + 1; u < n; u++ {
				for w := r + 1; w < n; w++ {
					if dist[u][w] == far {
						checkAboveRefused(t, h, r, u, w, api.ErrNoWalk)
						none++
					} else {
						checkAbove(t, h, r, u, w, dist[u][w])
						walks++
					}
				}
			}
		}
	}
	if walks < 5000 || none < 5000 {
		t.Errorf("%d walks, none %d times", walks, none)
	}
}

// The longest way there may be: each link the dearest of all.
func TestP16_2LongWays(t *testing.T) {
	h := sample.Doubling(17, api.MaxWeight)
	checkAbove(t, h, 14, 15, 16, api.MaxWeight<<15)
	checkAbove(t, h, -1, 15, 16, 2*api.MaxWeight)
	const n = api.MaxNodes
	checkAbove(t, sample.Chain(n, api.MaxWeight), -1, 0, n-1, (n-1)*api.MaxWeight)
	checkAbove(t, sample.Chain(n, api.MaxWeight), 3, n-1, 4, (n-5)*api.MaxWeight)
	checkAbove(t, sample.Chain(n, 0), -1, n-1, 0, 0)
}

func TestErrorsOfAbove(t *testing.T) {
	h := sample.Three()
	for r := -3; r <= 5; r++ {
		for u := -3; u <= 5; u++ {
			for w := -3; w <= 5; w++ {
				dist, err := Above(h, r, u, w)
				var want error
				switch {
				case r < -1 || r > 2:
					want = api.ErrArg
				case u <= r || u > 2 || w <= r || w > 2:
					want = api.ErrNode
				case sample.Distances(arcsAbove(h, r))[u][w] == far:
					want = api.ErrNoWalk
				}
				if !sample.SameError(err, want) || err != nil && dist != 0 {
					t.Errorf("Above(%d, %d, %d): %d, %v, wanted %v", r, u, w, dist, err, want)
				}
			}
		}
	}
	for _, odd := range []int{math.MinInt, -1 << 32, -2, 3, 1 << 32, math.MaxInt} {
		checkAboveRefused(t, h, odd, 0, 0, api.ErrArg)
		checkAboveRefused(t, h, odd, odd, odd, api.ErrArg)
		checkAboveRefused(t, h, -1, odd, 0, api.ErrNode)
		checkAboveRefused(t, h, -1, 0, odd, api.ErrNode)
		checkAboveRefused(t, h, -1, odd, odd, api.ErrNode)
	}
	checkAboveRefused(t, h, -1, -1, 2, api.ErrNode)
	checkAboveRefused(t, h, -1, 2, -1, api.ErrNode)
	checkAboveRefused(t, sample.PlainHier(0), -1, 0, 0, api.ErrNode)
	checkAboveRefused(t, sample.PlainHier(0), 0, 0, 0, api.ErrArg)
	checkAbove(t, sample.PlainHier(1), -1, 0, 0, 0)
	checkAboveRefused(t, sample.PlainHier(1), 0, 0, 0, api.ErrNode)
	checkAboveRefused(t, sample.PlainHier(1), 1, 0, 0, api.ErrArg)
}

func TestErrorsOfForm(t *testing.T) {
	for _, w := range sample.WrongHiers() {
		checkTrue(t, w.Hier, w.Err)
		checkMatrixRefused(t, w.Hier, w.Err)
		checkAboveRefused(t, w.Hier, 0, 1, 2, w.Err)
		checkAboveRefused(t, w.Hier, -9, 1, 2, w.Err)
		checkAboveRefused(t, w.Hier, 1, 1, 99, w.Err)
		checkAboveRefused(t, w.Hier, 0, 2, 1, w.Err)
	}
	// Ahead of what is false, and of what is too much for a table.
	h := without()
	h.Node[2] = 3
	checkTrue(t, h, fault.At(api.AtNode, 2, api.ErrOrder))
	h = sample.PlainHier(2000)
	h.Node[7] = 6
	checkMatrixRefused(t, h, fault.At(api.AtNode, 7, api.ErrOrder))
}

func TestP16_3Examples(t *testing.T) {
	checkMatrix(t, sample.Three(), table{{0, 4, 5}, {far, 0, 1}, {far, far, 0}})
	checkMatrix(t, without(), table{{0, 4, 5}, {far, 0, 1}, {far, far, 0}})
	checkMatrix(t, sample.PlainHier(0), nil)
	checkMatrix(t, sample.PlainHier(1), table{{0}})
	checkMatrix(t, sample.PlainHier(2), table{{0, far}, {far, 0}})
}

func TestP16_3AsTheModel(t *testing.T) {
	for h := range sample.LooseHiers(163, 2000, 10) {
		dist := sample.Distances(arcsAbove(h, -1))
		want := make(table, len(h.Node))
		for r, node := range h.Node {
			want[node] = make([]uint64, len(h.Node))
			for q, other := range h.Node {
				want[node][other] = dist[r][q]
			}
		}
		checkMatrix(t, h, want)
	}
}

func TestP16_3Limit(t *testing.T) {
	const n = 1024
	if n*n != api.MaxTable {
		t.Fatal("the table is too wide or too narrow")
	}
	rows, err := Matrix(sample.Chain(n, 3))
	if err != nil || len(rows) != n || rows[1][n-1] != 3*(n-2) || rows[n-1][0] != 3*(n-1) || rows[5][5] != 0 {
		t.Errorf("%d rows, %v", len(rows), err)
	}
	checkMatrixRefused(t, sample.Chain(n+1, 3), api.ErrLimit)
	checkMatrixRefused(t, sample.PlainHier(n+1), api.ErrLimit)
	checkMatrixRefused(t, sample.PlainHier(api.MaxNodes), api.ErrLimit)
}

func TestP16_4MatrixOfGraph(t *testing.T) {
	for h := range sample.LooseHiers(164, 1000, 15) {
		g, err := hier.Graph(h)
		if err != nil {
			t.Fatal(err)
		}
		c, err := csr.Build(g)
		if err != nil {
			t.Fatal(err)
		}
		want, err := search.Matrix(c)
		if err != nil {
			t.Fatal(err)
		}
		checkMatrix(t, h, want)
	}
}

func TestP16_4Turned(t *testing.T) {
	falseOnes := 0
	for h := range sample.LooseHiers(165, 3000, 10) {
		turned, err := hier.Turn(h)
		if err != nil {
			t.Fatal(err)
		}
		// The ways at a rank are the same ones, turned about.
		err = Check(h)
		checkTrue(t, turned, err)
		if err != nil {
			falseOnes++
		}
	}
	if falseOnes < 300 {
		t.Errorf("only %d false ones", falseOnes)
	}
}

// hubs: each rank has links both ways to the last one; the first ranks have dearer ones to all others.
func hubs(n, low int) api.Hier {
	var arcs []arc
	for rank := range n - 1 {
		for to := rank + 1; rank < low && to < n-1; to++ {
			arcs = append(arcs, sample.BothWays(rank, to, 9)...)
		}
		arcs = append(arcs, sample.BothWays(rank, n-1, 9)...)
	}
	return sample.PlainHier(n, arcs...)
}

func TestGreatestHierarchies(t *testing.T) {
	const n = api.MaxNodes
	checkTrue(t, sample.PlainHier(n), nil)
	checkTrue(t, sample.Chain(n, api.MaxWeight), nil)
	checkTrue(t, sample.Chain(n, 0), nil)
	checkTrue(t, hubs(n, 0), nil)
	checkTrue(t, hubs(2000, 3), nil)
	h := hubs(n, 1)
	h.Up[0].Weight = 0
	checkTrue(t, h, falseAt(0))
	full := sample.Flat(1024, api.MaxLinks/2, api.MaxLinks/2)
	checkTrue(t, full, nil)
	checkTrue(t, sample.Flat(n, api.MaxLinks/2, api.MaxLinks/2), falseAt(0))
}

// A way over that goes up by the odd ranks and down by the even ones, through all of them.
func TestGreatestWaysOver(t *testing.T) {
	const n = api.MaxNodes
	arcs := []arc{{1, 0, 2}, {0, 2, n - 4}, {n - 1, n - 2, 1}}
	for rank := 1; rank+2 < n; rank++ {
		if rank%2 == 1 {
			arcs = append(arcs, arc{rank, rank + 2, 1})
		} else {
			arcs = append(arcs, arc{rank + 2, rank, 1})
		}
	}
	checkJustTrue(t, sample.PlainHier(n, arcs...), n-2)

	// Up at once, then down through all ranks; and turned about.
	arcs = []arc{{1, 0, 2}, {0, 2, n - 4}, {1, n - 1, 1}}
	for rank := 2; rank+1 < n; rank++ {
		arcs = append(arcs, arc{rank + 1, rank, 1})
	}
	h := sample.PlainHier(n, arcs...)
	checkJustTrue(t, h, n-2)
	turned, err := hier.Turn(h)
	if err != nil {
		t.Fatal(err)
	}
	checkTrue(t, turned, nil)
	turned.Up[0].Weight--
	checkTrue(t, turned, falseAt(0))
}

// checkJustTrue: by way of the rank 0 it is as far from 1 to 2 as above it.
func checkJustTrue(t *testing.T, h api.Hier, dist uint64) {
	t.Helper()
	checkAbove(t, h, 0, 1, 2, dist)
	checkTrue(t, h, nil)
	h = sample.CopyHier(h)
	h.Up[0].Weight--
	checkTrue(t, h, falseAt(0))
}

func TestMemory(t *testing.T) {
	for _, h := range []api.Hier{sample.Three(), without(), sample.Doubling(5, 3), sample.Flat(6, 99, 99)} {
		roomy := sample.RoomyHier(h)
		before := sample.RoomOfHier(roomy)
		err := Check(roomy)
		dist, aboveErr := Above(roomy, 0, 1, 2)
		rows, matrixErr := Matrix(roomy)
		if !sample.SameHier(sample.RoomOfHier(roomy), before) {
			t.Errorf("%s is now %s", brief(before), brief(sample.RoomOfHier(roomy)))
		}
		checkTrue(t, h, err)
		if again, err := Above(h, 0, 1, 2); again != dist || !sample.SameError(err, aboveErr) {
			t.Errorf("Above: %d, %v, wanted %d, %v", again, err, dist, aboveErr)
		}
		if matrixErr != nil {
			t.Fatal(matrixErr)
		}
		sample.SpoilHier(roomy)
		checkMatrix(t, h, rows)
	}
}

// No row of a matrix shares memory with another one, spare room too, nor with one of another answer.
func TestMemoryOfMatrix(t *testing.T) {
	h := sample.Doubling(4, 1)
	want, err := Matrix(h)
	if err != nil {
		t.Fatal(err)
	}
	want = slices.Clone(want)
	for s := range want {
		want[s] = slices.Clone(want[s])
	}
	for s := range want {
		rows, err := Matrix(h)
		if err != nil {
			t.Fatal(err)
		}
		sample.SpoilList(rows[s], 77)
		for v := range rows {
			if v != s && !slices.Equal(rows[v], want[v]) {
				t.Errorf("the rows %d and %d share memory", s, v)
			}
		}
		sample.SpoilList(rows, nil)
	}
	checkMatrix(t, h, want)
}

// What was asked before, of whichever hierarchy, is not seen in an answer.
func TestQuestionsChangeNothing(t *testing.T) {
	for range 3 {
		checkTrue(t, without(), falseAt(0))
		checkTrue(t, sample.Three(), nil)
		checkAbove(t, sample.Three(), 0, 1, 2, 5)
		checkAboveRefused(t, without(), 0, 1, 2, api.ErrNoWalk)
		checkMatrix(t, sample.PlainHier(1), table{{0}})
		checkTrue(t, api.Hier{}, api.ErrShape)
		checkMatrix(t, sample.Three(), table{{0, 4, 5}, {far, 0, 1}, {far, far, 0}})
	}
}
