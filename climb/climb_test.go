package climb

import (
	"fmt"
	"iter"
	"math"
	"slices"
	"testing"

	"viaduct/api"
	"viaduct/hier"
	"viaduct/order"
	"viaduct/sample"
)

type list = []Seen

// brief: what a failure tells of a thing, which may have a million links.
func brief(thing any) string {
	text := fmt.Sprint(thing)
	return text[:min(len(text), 300)]
}

func checkUp(t *testing.T, h api.Hier, s int, want list, wantErr error) {
	t.Helper()
	if all, err := Up(h, s); !slices.Equal(all, want) || !sample.SameError(err, wantErr) {
		t.Errorf("Up(%s, %d): %s, %v, wanted %s, %v", brief(h), s, brief(all), err, brief(want), wantErr)
	}
}

func checkDown(t *testing.T, h api.Hier, v int, want list, wantErr error) {
	t.Helper()
	if all, err := Down(h, v); !slices.Equal(all, want) || !sample.SameError(err, wantErr) {
		t.Errorf("Down(%s, %d): %s, %v, wanted %s, %v", brief(h), v, brief(all), err, brief(want), wantErr)
	}
}

func checkRefused(t *testing.T, h api.Hier, rank int, want error) {
	t.Helper()
	checkUp(t, h, rank, nil, want)
	checkDown(t, h, rank, nil, want)
}

// checkAsModel: the answers of all ranks, both ways.
func checkAsModel(t *testing.T, h api.Hier) {
	t.Helper()
	for rank := range h.Node {
		checkUp(t, h, rank, modelUp(h, rank), nil)
		checkDown(t, h, rank, modelDown(h, rank), nil)
	}
}

func mustUp(t *testing.T, h api.Hier, s int) list {
	t.Helper()
	all, err := Up(h, s)
	if err != nil {
		t.Fatalf("Up(%s, %d): %v", brief(h), s, err)
	}
	return all
}

func mustDown(t *testing.T, h api.Hier, v int) list {
	t.Helper()
	all, err := Down(h, v)
	if err != nil {
		t.Fatalf("Down(%s, %d): %v", brief(h), v, err)
	}
	return all
}

func mustTurn(t *testing.T, h api.Hier) api.Hier {
	t.Helper()
	turned, err := hier.Turn(h)
	if err != nil {
		t.Fatal(err)
	}
	return turned
}

// distances: those between ranks, over all links.
func distances(h api.Hier) [][]uint64 {
	g := api.Graph{N: len(h.Node)}
	for _, up := range spans(h.UpFirst, h.Up) {
		g.Arcs = append(g.Arcs, api.Arc{From: up.low, To: up.high, Weight: int(up.weight)})
	}
	for _, down := range spans(h.DownFirst, h.Down) {
		g.Arcs = append(g.Arcs, api.Arc{From: down.high, To: down.low, Weight: int(down.weight)})
	}
	return sample.Distances(g)
}

// ofThree: each hierarchy of three ranks with plain links of few weights.
func ofThree() iter.Seq[api.Hier] {
	pairs := [][2]int{{0, 1}, {0, 2}, {1, 0}, {1, 2}, {2, 0}, {2, 1}}
	return func(yield func(api.Hier) bool) {
		for code := range 4 * 4 * 4 * 4 * 4 * 4 {
			var arcs [][3]int
			for _, p := range pairs {
				if weight := code % 4; weight > 0 {
					arcs = append(arcs, [3]int{p[0], p[1], weight - 1})
				}
				code /= 4
			}
			if !yield(sample.PlainHier(3, arcs...)) {
				return
			}
		}
	}
}

// example: the third example of the chapter.
func example() api.Hier {
	return sample.PlainHier(3, [3]int{0, 2, 1}, [3]int{0, 1, 9}, [3]int{1, 2, 5}, [3]int{1, 0, 4}, [3]int{2, 1, 3})
}

func TestP20_1Examples(t *testing.T) {
	h := sample.Three()
	checkUp(t, h, 1, list{{1, 0, false}, {2, 5, false}}, nil)
	checkUp(t, h, 0, list{{0, 0, false}, {2, 1, false}}, nil)
	checkUp(t, h, 2, list{{2, 0, false}}, nil)
	checkUp(t, example(), 0, list{{0, 0, false}, {1, 9, true}, {2, 1, false}}, nil)
}

func TestP20_2Examples(t *testing.T) {
	h := sample.Three()
	checkDown(t, h, 0, list{{0, 0, false}, {1, 4, false}}, nil)
	checkDown(t, h, 1, list{{1, 0, false}}, nil)
	checkDown(t, h, 2, list{{2, 0, false}}, nil)
	checkDown(t, mustTurn(t, example()), 0, list{{0, 0, false}, {1, 9, true}, {2, 1, false}}, nil)
}

func TestFewRanks(t *testing.T) {
	checkUp(t, sample.PlainHier(1), 0, list{{0, 0, false}}, nil)
	checkDown(t, sample.PlainHier(1), 0, list{{0, 0, false}}, nil)
	h := sample.PlainHier(2, sample.BothWays(0, 1, 7)...)
	checkUp(t, h, 0, list{{0, 0, false}, {1, 7, false}}, nil)
	checkUp(t, h, 1, list{{1, 0, false}}, nil)
	checkDown(t, h, 0, list{{0, 0, false}, {1, 7, false}}, nil)
	checkDown(t, h, 1, list{{1, 0, false}}, nil)
}

// Ranks are told, whatever the nodes are that have them.
func TestRanksNotNodes(t *testing.T) {
	h := sample.PlainHier(3, [3]int{0, 1, 2}, [3]int{1, 2, 3}, [3]int{2, 0, 9})
	for _, nodes := range [][]uint32{{0, 1, 2}, {2, 1, 0}, {1, 2, 0}} {
		h.Node = nodes
		checkUp(t, h, 0, list{{0, 0, false}, {1, 2, false}, {2, 5, false}}, nil)
		checkDown(t, h, 0, list{{0, 0, false}, {2, 9, false}}, nil)
	}
}

// The least way counts, whichever link comes first; one that comes down again is none.
func TestP20_1LeastWays(t *testing.T) {
	h := sample.PlainHier(5, [3]int{0, 1, 1}, [3]int{0, 2, 9}, [3]int{0, 4, 20}, [3]int{1, 2, 1}, [3]int{2, 3, 1}, [3]int{3, 4, 1})
	checkUp(t, h, 0, list{{0, 0, false}, {1, 1, false}, {2, 2, false}, {3, 3, false}, {4, 4, false}}, nil)
	h = sample.PlainHier(5, [3]int{0, 1, 9}, [3]int{0, 2, 1}, [3]int{0, 4, 3}, [3]int{1, 4, 1}, [3]int{2, 4, 2})
	checkUp(t, h, 0, list{{0, 0, false}, {1, 9, false}, {2, 1, false}, {4, 3, false}}, nil)
	h = sample.PlainHier(4, [3]int{0, 3, 1}, [3]int{3, 1, 1}, [3]int{3, 2, 1}, [3]int{0, 2, 5})
	checkUp(t, h, 0, list{{0, 0, false}, {2, 5, true}, {3, 1, false}}, nil)
}

// A rank is stalled by one link down to it that makes it shorter; not by one that makes it as long, nor by one from where the search didn't come, nor by a way of several links.
func TestP20_1Stalled(t *testing.T) {
	type arc = [3]int
	base := []arc{{1, 2, 10}, {1, 3, 4}, {1, 5, 1}}
	for _, c := range []struct {
		name    string
		arcs    []arc
		stalled []bool // of the ranks 1, 2, 3, 5
	}{
		{"no link down", nil, []bool{false, false, false, false}},
		{"shorter", []arc{{3, 2, 5}}, []bool{false, true, false, false}},
		{"as long", []arc{{3, 2, 6}}, []bool{false, false, false, false}},
		{"longer", []arc{{3, 2, 7}}, []bool{false, false, false, false}},
		{"the second of three", []arc{{3, 2, 9}, {5, 2, 8}}, []bool{false, true, false, false}},
		{"the first of three", []arc{{3, 2, 0}, {4, 2, 0}, {5, 2, 90}}, []bool{false, true, false, false}},
		{"from a rank that isn't reached", []arc{{4, 2, 0}}, []bool{false, false, false, false}},
		{"by a way of two links", []arc{{5, 4, 0}, {4, 2, 0}}, []bool{false, false, false, false}},
		{"from one that is stalled itself", []arc{{5, 3, 2}, {3, 2, 5}}, []bool{false, true, true, false}},
		{"from one that is stalled, by its own length", []arc{{5, 3, 2}, {3, 2, 6}}, []bool{false, false, true, false}},
		{"the rank itself", []arc{{2, 1, 0}, {3, 1, 0}, {5, 1, 0}}, []bool{false, false, false, false}},
		{"from the rank itself to a lower one", []arc{{1, 0, 0}}, []bool{false, false, false, false}},
	} {
		h := sample.PlainHier(6, append(slices.Clone(base), c.arcs...)...)
		want := list{{1, 0, c.stalled[0]}, {2, 10, c.stalled[1]}, {3, 4, c.stalled[2]}, {5, 1, c.stalled[3]}}
		if all := mustUp(t, h, 1); !slices.Equal(all, want) {
			t.Errorf("%s: %v, wanted %v", c.name, all, want)
		}
		if all := mustDown(t, mustTurn(t, h), 1); !slices.Equal(all, want) {
			t.Errorf("%s, turned about: %v, wanted %v", c.name, all, want)
		}
	}
}

func TestAsTheModel(t *testing.T) {
	for h := range ofThree() {
		checkAsModel(t, h)
	}
	stalled := 0
	for h := range sample.LooseHiers(201, 3000, 14) {
		checkAsModel(t, h)
		for rank := range h.Node {
			for _, seen := range modelUp(h, rank) {
				if seen.Stalled {
					stalled++
				}
			}
		}
	}
	if stalled < 1000 {
		t.Errorf("only %d are stalled", stalled)
	}
	for h := range sample.Hiers() {
		checkAsModel(t, h)
	}
	for h := range sample.LooseHiers(202, 60, 60) {
		checkAsModel(t, h)
	}
}

func TestP20_3Turned(t *testing.T) {
	for h := range sample.LooseHiers(203, 1500, 12) {
		turned := mustTurn(t, h)
		for rank := range h.Node {
			checkDown(t, h, rank, mustUp(t, turned, rank), nil)
			checkUp(t, h, rank, mustDown(t, turned, rank), nil)
		}
	}
}

func TestP20_3NeverBelowTheDistance(t *testing.T) {
	above, stalled := 0, 0
	for h := range sample.LooseHiers(204, 1500, 12) {
		dist := distances(h)
		for rank := range h.Node {
			for _, seen := range mustUp(t, h, rank) {
				least := dist[rank][seen.Rank]
				if seen.Dist < least || seen.Dist == least && seen.Stalled {
					t.Errorf("Up(%s, %d): %v, the distance is %d", brief(h), rank, seen, least)
				}
				if seen.Dist > least {
					above++
				}
				if seen.Stalled {
					stalled++
				}
			}
			for _, seen := range mustDown(t, h, rank) {
				least := dist[seen.Rank][rank]
				if seen.Dist < least || seen.Dist == least && seen.Stalled {
					t.Errorf("Down(%s, %d): %v, the distance is %d", brief(h), rank, seen, least)
				}
			}
		}
	}
	if stalled < 500 || above <= stalled {
		t.Errorf("%d above the distance, %d stalled", above, stalled)
	}
}

// meets: is there a rank, stalled in neither, the sum of whose lengths is this?
func meets(up, down list, dist uint64) bool {
	return slices.ContainsFunc(up, func(a Seen) bool {
		return !a.Stalled && slices.ContainsFunc(down, func(b Seen) bool {
			return !b.Stalled && a.Rank == b.Rank && a.Dist+b.Dist == dist
		})
	})
}

func checkMeets(t *testing.T, h api.Hier) {
	t.Helper()
	dist := distances(h)
	var ups, downs []list
	for rank := range h.Node {
		ups, downs = append(ups, mustUp(t, h, rank)), append(downs, mustDown(t, h, rank))
	}
	for s, up := range ups {
		for v, down := range downs {
			if dist[s][v] != api.Unreached && !meets(up, down, dist[s][v]) {
				t.Errorf("%s: from %d to %d nothing meets at %d", brief(h), s, v, dist[s][v])
			}
		}
	}
}

func TestP20_3TrueOnesMeet(t *testing.T) {
	trueOnes := 0
	for h := range sample.LooseHiers(205, 1500, 12) {
		if sample.FirstFalse(h) < 0 {
			checkMeets(t, h)
			trueOnes++
		}
	}
	if trueOnes < 300 {
		t.Errorf("only %d true ones", trueOnes)
	}
	dice := sample.Dice{Seed: 206}
	for i := range 60 {
		n := 2 + dice.Below(30)
		opts := []api.Options{{}, {Hops: 5, Settles: 50, Edge: 2, Deleted: 1, Depth: 1}, {Hops: 1, Settles: 9, Edge: -1}, {Hops: 99, Settles: 999, Depth: 1}}[i%4]
		g := dice.Graph(n, dice.Below(4*n), 50)
		made, err := order.Build(g, opts)
		if err != nil {
			t.Fatal(err)
		}
		along, err := order.Along(g, dice.Shuffled(n), opts)
		if err != nil {
			t.Fatal(err)
		}
		checkMeets(t, made)
		checkMeets(t, along)
	}
}

func TestErrors(t *testing.T) {
	h := sample.Three()
	for _, odd := range []int{math.MinInt, -1 << 32, -1, 3, 4, 1 << 16, 1 << 32, 1<<32 + 1, math.MaxInt} {
		checkRefused(t, h, odd, api.ErrNode)
	}
	checkRefused(t, sample.PlainHier(0), 0, api.ErrNode)
	checkRefused(t, sample.PlainHier(0), -1, api.ErrNode)
	checkRefused(t, sample.PlainHier(1), 1, api.ErrNode)
	for _, w := range sample.WrongHiers() {
		for _, rank := range []int{0, 2, -1, 3, math.MaxInt} {
			checkRefused(t, w.Hier, rank, w.Err)
		}
	}
}

// The longest ways there may be, and the dearest links.
func TestLimits(t *testing.T) {
	const n = api.MaxNodes
	h := sample.Chain(n, api.MaxWeight)
	all := mustUp(t, h, 0)
	if len(all) != n || all[n-1] != (Seen{Rank: n - 1, Dist: (n - 1) * api.MaxWeight}) {
		t.Errorf("Up: %d ranks, %v", len(all), all[len(all)-1])
	}
	checkDown(t, h, 0, all, nil)
	checkUp(t, h, n-1, list{{n - 1, 0, false}}, nil)
	checkDown(t, h, n-2, list{{n - 2, 0, false}, {n - 1, api.MaxWeight, false}}, nil)
	checkRefused(t, h, n, api.ErrNode)

	dear := sample.Doubling(17, api.MaxWeight)
	checkAsModel(t, dear)
	checkUp(t, dear, 15, list{{15, 0, false}, {16, api.MaxWeight << 15, false}}, nil)
	most := sample.Doubling(49, 1)
	if last := most.Up[len(most.Up)-1].Weight; last != api.MaxTotal {
		t.Fatalf("the dearest link weighs %d", last)
	}
	checkAsModel(t, most)
	checkUp(t, most, 47, list{{47, 0, false}, {48, api.MaxTotal, false}}, nil)

	for _, h := range []api.Hier{sample.Flat(1024, api.MaxLinks/2, api.MaxLinks/2), sample.Flat(1500, api.MaxLinks, 0), sample.Flat(1500, 0, api.MaxLinks)} {
		checkFlat(t, h, 0)
		checkFlat(t, h, 700)
	}
}

// checkFlat: in a flat hierarchy a link leads from a rank to each higher one, weighing as much as that one has; those down to a rank weigh as much as that rank has. So no way of several links is shorter than one link is.
func checkFlat(t *testing.T, h api.Hier, start int) {
	t.Helper()
	up, down := list{{start, 0, false}}, list{{start, 0, false}}
	for _, link := range h.Up[h.UpFirst[start]:h.UpFirst[start+1]] {
		up = append(up, Seen{int(link.To), uint64(link.To), false})
	}
	for _, link := range h.Down[h.DownFirst[start]:h.DownFirst[start+1]] {
		down = append(down, Seen{int(link.To), uint64(start), false})
	}
	checkUp(t, h, start, up, nil)
	checkDown(t, h, start, down, nil)
}

// A chain all links of which are the dearest ones that there may be: lengths of nearly 2^63.
func TestLongestLengths(t *testing.T) {
	const n, start = api.MaxNodes, sample.DearestFrom
	h := sample.Dearest(n)
	var want list
	for rank := start; rank < n; rank++ {
		want = append(want, Seen{Rank: rank, Dist: uint64(rank-start) * api.MaxTotal})
	}
	checkUp(t, h, start, want, nil)
	checkDown(t, h, start, want, nil)
}

func TestMemory(t *testing.T) {
	odd := Seen{Rank: -7, Dist: 7, Stalled: true}
	for h := range sample.LooseHiers(207, 300, 9) {
		roomy := sample.RoomyHier(h)
		was := sample.RoomOfHier(roomy)
		for rank := range h.Node {
			for _, call := range []func(api.Hier, int) ([]Seen, error){Up, Down} {
				first, err := call(roomy, rank)
				second, err2 := call(roomy, rank)
				if err != nil || err2 != nil {
					t.Fatal(err, err2)
				}
				want := slices.Clone(second)
				sample.SpoilList(first, odd)
				if !slices.Equal(second, want) {
					t.Errorf("two answers of %s have memory in common", brief(h))
				}
			}
		}
		if !sample.SameHier(sample.RoomOfHier(roomy), was) {
			t.Errorf("%s has changed", brief(h))
		}
		up, down := mustUp(t, roomy, 0), mustDown(t, roomy, 0)
		sample.SpoilHier(roomy)
		checkUp(t, h, 0, up, nil)
		checkDown(t, h, 0, down, nil)
	}
	for _, w := range sample.WrongHiers() {
		roomy := sample.RoomyHier(w.Hier)
		was := sample.RoomOfHier(roomy)
		Up(roomy, 0)
		Down(roomy, 0)
		if !sample.SameHier(sample.RoomOfHier(roomy), was) {
			t.Errorf("%s: the hierarchy has changed", w.Name)
		}
	}
}

// P2: the same answers, whatever was asked between.
func TestQuestionsChangeNothing(t *testing.T) {
	for range 3 {
		checkUp(t, example(), 0, list{{0, 0, false}, {1, 9, true}, {2, 1, false}}, nil)
		checkUp(t, sample.Three(), 1, list{{1, 0, false}, {2, 5, false}}, nil)
		checkRefused(t, sample.Three(), 3, api.ErrNode)
		checkDown(t, sample.Three(), 0, list{{0, 0, false}, {1, 4, false}}, nil)
		checkRefused(t, api.Hier{}, 0, api.ErrShape)
		checkUp(t, sample.PlainHier(9), 8, list{{8, 0, false}}, nil)
	}
}
