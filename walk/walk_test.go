package walk

import (
	"fmt"
	"math"
	"slices"
	"testing"

	"viaduct/api"
	"viaduct/csr"
	"viaduct/fault"
	"viaduct/sample"
)

// row: the numbers of an arc.
type row = [3]int

// ints: a list of nodes, or of any numbers.
type ints = []int

// brief: what a failure tells of a thing, which may have many thousands of numbers.
func brief(thing any) string {
	text := fmt.Sprint(thing)
	return text[:min(len(text), 300)]
}

func atNode(i int) error { return fault.At(api.AtNode, i, api.ErrNode) }
func atStep(i int) error { return fault.At(api.AtArc, i, api.ErrNoWalk) }

// build: the arrays of a graph that is right.
func build(t *testing.T, g api.Graph) csr.Csr {
	t.Helper()
	c, err := csr.Build(g)
	if err != nil {
		t.Fatalf("the graph %v: %v", brief(g), err)
	}
	return c
}

func exampleGraph() api.Graph {
	return sample.Graph(4, row{0, 1, 4}, row{1, 2, 1}, row{0, 2, 9}, row{2, 1, 0})
}

func checkLength(t *testing.T, c csr.Csr, list ints, want uint64, wantErr error) {
	t.Helper()
	if length, err := Length(c, list); length != want || !sample.SameError(err, wantErr) {
		t.Errorf("Length(%v, %v): %d, %v, wanted %d, %v", brief(c), brief(list), length, err, want, wantErr)
	}
}

func checkShortest(t *testing.T, c csr.Csr, list ints, want bool, wantErr error) {
	t.Helper()
	if is, err := Shortest(c, list); is != want || !sample.SameError(err, wantErr) {
		t.Errorf("Shortest(%v, %v): %v, %v, wanted %v, %v", brief(c), brief(list), is, err, want, wantErr)
	}
}

func checkSimple(t *testing.T, list, want ints) {
	t.Helper()
	if simple := Simple(list); !slices.Equal(simple, want) {
		t.Errorf("Simple(%v): %v, wanted %v", brief(list), brief(simple), brief(want))
	}
}

func checkJoin(t *testing.T, a, b, want ints, wantErr error) {
	t.Helper()
	if list, err := Join(a, b); !slices.Equal(list, want) || !sample.SameError(err, wantErr) {
		t.Errorf("Join(%v, %v): %v, %v, wanted %v, %v", brief(a), brief(b), brief(list), err, brief(want), wantErr)
	}
}

func checkBack(t *testing.T, list, want ints) {
	t.Helper()
	if back := Back(list); !slices.Equal(back, want) {
		t.Errorf("Back(%v): %v, wanted %v", brief(list), brief(back), brief(want))
	}
}

// modelLength: Length in a normal graph, as the document's words have it.
func modelLength(g api.Graph, list ints) (uint64, error) {
	if len(list) == 0 {
		return 0, api.ErrMissing
	}
	for i, v := range list {
		if v < 0 || v > g.N-1 {
			return 0, atNode(i)
		}
	}
	length := uint64(0)
	for i := range len(list) - 1 {
		arc := slices.IndexFunc(g.Arcs, func(a api.Arc) bool { return a.From == list[i] && a.To == list[i+1] })
		if arc < 0 {
			return 0, atStep(i)
		}
		length += uint64(g.Arcs[arc].Weight)
	}
	return length, nil
}

// modelSimple: Simple, as the chapter's words have it.
func modelSimple(list ints) ints {
	var kept ints
	for _, number := range list {
		if place := slices.Index(kept, number); place >= 0 {
			kept = kept[:place]
		}
		kept = append(kept, number)
	}
	return kept
}

// lists: all lists of at most that many numbers, from least to most.
func lists(longest, least, most int) []ints {
	all := []ints{nil}
	for begin := 0; longest > 0; longest-- {
		end := len(all)
		for _, list := range all[begin:end] {
			for number := least; number <= most; number++ {
				all = append(all, append(slices.Clone(list), number))
			}
		}
		begin = end
	}
	return all
}

// roam: a walk of at most that many steps, wherever the dice lead.
func roam(g api.Graph, steps int, dice *sample.Dice) ints {
	list := ints{dice.Below(g.N)}
	for range steps {
		var next ints
		for _, arc := range g.Arcs {
			if arc.From == list[len(list)-1] {
				next = append(next, arc.To)
			}
		}
		if len(next) == 0 {
			break
		}
		list = append(list, next[dice.Below(len(next))])
	}
	return list
}

// graphs: normal graphs of many kinds, with at least one node.
func graphs(yield func(api.Graph) bool) {
	for _, weights := range []ints{{0}, {0, 1, 5}, {api.MaxWeight}} {
		for g := range sample.All(2, 2, weights...) {
			if !yield(sample.Normal(g)) {
				return
			}
		}
	}
	dice := sample.Dice{Seed: 9}
	for range 100 {
		for _, most := range []int{0, 3, api.MaxWeight} {
			if !yield(sample.Normal(dice.Graph(1+dice.Below(6), dice.Below(25), most))) {
				return
			}
		}
	}
}

func TestP9_1Examples(t *testing.T) {
	c := build(t, exampleGraph())
	checkLength(t, c, ints{0, 1, 2}, 5, nil)
	checkLength(t, c, ints{0, 2, 1, 2}, 10, nil)
	checkLength(t, c, ints{3}, 0, nil)
	checkLength(t, c, nil, 0, api.ErrMissing)
	checkLength(t, c, ints{}, 0, api.ErrMissing)
	checkLength(t, c, ints{0, 4}, 0, atNode(1))
	checkLength(t, c, ints{0, 1, 0}, 0, atStep(1))
	checkLength(t, c, ints{1, 1}, 0, atStep(0))
	checkShortest(t, c, ints{0, 2}, false, nil)
	checkShortest(t, c, ints{0, 1, 2}, true, nil)
	checkShortest(t, c, ints{3}, true, nil)
	checkShortest(t, c, ints{0, 2, 1}, false, nil)
	checkShortest(t, c, ints{2, 1}, true, nil)
	checkShortest(t, c, ints{2, 1, 2}, false, nil)
}

// TestP9_1Order: all nodes are asked ahead of the steps, and the arrays ahead of all.
func TestP9_1Order(t *testing.T) {
	c := build(t, exampleGraph())
	for _, x := range []struct {
		list ints
		want error
	}{
		{nil, api.ErrMissing},
		{ints{-1}, atNode(0)},
		{ints{4}, atNode(0)},
		{ints{math.MaxInt}, atNode(0)},
		{ints{0, 1, math.MinInt}, atNode(2)},
		{ints{1, 1, 4}, atNode(2)},
		{ints{3, 0, -1, 4}, atNode(2)},
		{ints{0, 4, -1}, atNode(1)},
		{ints{0, 3, 0}, atStep(0)},
		{ints{0, 1, 2, 2, 2}, atStep(2)},
		{ints{0, 1, 2, 0, 3}, atStep(2)},
		{ints{3, 3}, atStep(0)},
	} {
		checkLength(t, c, x.list, 0, x.want)
		checkShortest(t, c, x.list, false, x.want)
	}
}

func TestP9_1WrongArrays(t *testing.T) {
	for _, w := range sample.WrongArrays() {
		for _, list := range []ints{nil, {0}, {-1}, {0, 1}, {0, 0, 99}, {math.MaxInt, math.MinInt}} {
			checkLength(t, csr.Csr(w.Arrays), list, 0, w.Err)
			checkShortest(t, csr.Csr(w.Arrays), list, false, w.Err)
		}
	}
	empty := build(t, api.Graph{})
	checkLength(t, empty, nil, 0, api.ErrMissing)
	checkShortest(t, empty, nil, false, api.ErrMissing)
	checkLength(t, empty, ints{0}, 0, atNode(0))
	checkShortest(t, empty, ints{0}, false, atNode(0))
}

func TestP9_1Model(t *testing.T) {
	short := lists(4, -1, 2)
	for g := range graphs {
		c := build(t, g)
		far := sample.Distances(g)
		for _, list := range short {
			want, err := modelLength(g, list)
			checkLength(t, c, list, want, err)
			checkShortest(t, c, list, err == nil && want == far[list[0]][list[len(list)-1]], err)
		}
	}
}

func TestP9_1Walks(t *testing.T) {
	dice := sample.Dice{Seed: 91}
	for g := range graphs {
		c := build(t, g)
		far := sample.Distances(g)
		for range 10 {
			list := roam(g, dice.Below(12), &dice)
			want, err := modelLength(g, list)
			if err != nil {
				t.Fatalf("%v is no walk of %v: %v", list, g, err)
			}
			checkLength(t, c, list, want, nil)
			checkShortest(t, c, list, want == far[list[0]][list[len(list)-1]], nil)
		}
	}
}

// ring: MaxNodes nodes, from each an arc of MaxWeight to the next one, from the last to the first.
func ring() api.Graph {
	g := api.Graph{N: api.MaxNodes}
	for v := range g.N {
		g.Arcs = append(g.Arcs, api.Arc{From: v, To: (v + 1) % g.N, Weight: api.MaxWeight})
	}
	return g
}

func TestP9_1Long(t *testing.T) {
	c := build(t, ring())
	var list ints
	for i := range 10*api.MaxNodes + 1 {
		list = append(list, i%api.MaxNodes)
	}
	checkLength(t, c, list, 10*api.MaxNodes*api.MaxWeight, nil)
	checkShortest(t, c, list, false, nil)
	checkLength(t, c, list[:api.MaxNodes], (api.MaxNodes-1)*api.MaxWeight, nil)
	checkShortest(t, c, list[:api.MaxNodes], true, nil)
	checkShortest(t, c, list[:api.MaxNodes+1], false, nil)
	list[len(list)-1] = api.MaxNodes - 1
	checkLength(t, c, list, 0, atStep(len(list)-2))
	list[len(list)-1] = api.MaxNodes
	checkLength(t, c, list, 0, atNode(len(list)-1))
}

// TestP9_1Loops: a walk round arcs of weight 0 is as short as to stay.
func TestP9_1Loops(t *testing.T) {
	c := build(t, sample.Graph(3, row{0, 1, 0}, row{1, 0, 0}, row{1, 2, 1}, row{2, 1, 0}))
	checkShortest(t, c, ints{0, 1, 0}, true, nil)
	checkShortest(t, c, ints{0, 1, 0, 1, 2}, true, nil)
	checkShortest(t, c, ints{1, 2, 1}, false, nil)
	checkShortest(t, c, ints{2, 1, 0}, true, nil)
}

func TestP9_2Simple(t *testing.T) {
	checkSimple(t, nil, nil)
	checkSimple(t, ints{}, nil)
	checkSimple(t, ints{7}, ints{7})
	checkSimple(t, ints{0, 2, 1, 2, 5}, ints{0, 2, 5})
	checkSimple(t, ints{1, 2, 3, 1, 4, 2, 4}, ints{1, 4})
	checkSimple(t, ints{3, 3, 3}, ints{3})
	checkSimple(t, ints{1, 2, 3, 1}, ints{1})
	checkSimple(t, ints{1, 2, 3, 2, 3, 4}, ints{1, 2, 3, 4})
	checkSimple(t, ints{1, 2, 3, 2, 1, 3, 2}, ints{1, 3, 2})
	checkSimple(t, ints{math.MinInt, -1, math.MaxInt, -1, 1 << 40, math.MinInt, -5}, ints{math.MinInt, -5})
	for _, list := range lists(7, 0, 3) {
		checkSimple(t, list, modelSimple(list))
	}
	dice := sample.Dice{Seed: 92}
	for range 2000 {
		var list ints
		most := 2 + dice.Below(40)
		for range dice.Below(60) {
			list = append(list, dice.Below(most)-most/2)
		}
		checkSimple(t, list, modelSimple(list))
	}
}

// TestP9_2Long: as long as paths get, and with loops as long, over and over.
func TestP9_2Long(t *testing.T) {
	const n = 1 << 18
	var list ints
	for v := range n {
		list = append(list, v)
	}
	checkSimple(t, list, list)
	round := slices.Concat(list, list, list)
	checkSimple(t, round, list)
	checkSimple(t, append(round, 0), ints{0})
	checkSimple(t, slices.Concat(list, Back(list)), ints{0})
}

func TestP9_3Join(t *testing.T) {
	checkJoin(t, ints{0, 1}, ints{1, 2}, ints{0, 1, 2}, nil)
	checkJoin(t, ints{0, 1}, ints{2}, nil, api.ErrNoWalk)
	checkJoin(t, ints{5}, ints{5}, ints{5}, nil)
	checkJoin(t, ints{5}, ints{5, 6, 5}, ints{5, 6, 5}, nil)
	checkJoin(t, ints{5, 6, 5}, ints{5}, ints{5, 6, 5}, nil)
	checkJoin(t, ints{5, 5}, ints{5, 5}, ints{5, 5, 5}, nil)
	checkJoin(t, ints{math.MinInt, -1}, ints{-1, math.MaxInt}, ints{math.MinInt, -1, math.MaxInt}, nil)
	checkJoin(t, ints{0, 1}, ints{0, 1}, nil, api.ErrNoWalk)
	checkJoin(t, ints{1, 2}, ints{0, 1}, nil, api.ErrNoWalk)
	checkJoin(t, nil, nil, nil, api.ErrMissing)
	checkJoin(t, ints{0}, nil, nil, api.ErrMissing)
	checkJoin(t, nil, ints{0}, nil, api.ErrMissing)
	checkJoin(t, ints{}, ints{1, 0}, nil, api.ErrMissing)
	checkJoin(t, ints{1, 0}, ints{}, nil, api.ErrMissing)
}

func TestP9_3JoinAll(t *testing.T) {
	all := lists(3, -1, 1)
	for _, a := range all {
		for _, b := range all {
			switch {
			case len(a) == 0 || len(b) == 0:
				checkJoin(t, a, b, nil, api.ErrMissing)
			case a[len(a)-1] != b[0]:
				checkJoin(t, a, b, nil, api.ErrNoWalk)
			default:
				var want ints
				for i := range len(a) + len(b) - 1 {
					if i < len(a) {
						want = append(want, a[i])
					} else {
						want = append(want, b[i-len(a)+1])
					}
				}
				checkJoin(t, a, b, want, nil)
			}
		}
	}
}

func TestP9_3Back(t *testing.T) {
	checkBack(t, nil, nil)
	checkBack(t, ints{}, nil)
	checkBack(t, ints{0, 1, 2}, ints{2, 1, 0})
	checkBack(t, ints{math.MaxInt, -1}, ints{-1, math.MaxInt})
	for _, list := range lists(5, 0, 2) {
		var want ints
		for i := range list {
			want = append(want, list[len(list)-1-i])
		}
		checkBack(t, list, want)
	}
}

// checkLoopless asks Simple what P9.4 says of it.
func checkLoopless(t *testing.T, list ints) {
	t.Helper()
	simple := Simple(list)
	if sorted := slices.Sorted(slices.Values(simple)); len(slices.Compact(sorted)) < len(simple) {
		t.Errorf("Simple(%v): %v has a number twice", list, simple)
	}
	if len(list) > 0 && (simple[0] != list[0] || simple[len(simple)-1] != list[len(list)-1]) {
		t.Errorf("Simple(%v): %v has other ends", list, simple)
	}
	for i := range max(len(simple), 1) - 1 {
		stands := false
		for j := range len(list) - 1 {
			stands = stands || slices.Equal(list[j:j+2], simple[i:i+2])
		}
		if !stands {
			t.Errorf("Simple(%v): %v has neighbours at %d that the list hasn't", list, simple, i)
		}
	}
	checkSimple(t, simple, simple)
}

func TestP9_4Simple(t *testing.T) {
	for _, list := range lists(6, 0, 3) {
		checkLoopless(t, list)
	}
}

func TestP9_4Walks(t *testing.T) {
	dice := sample.Dice{Seed: 94}
	for g := range graphs {
		c := build(t, g)
		back, err := csr.Back(g)
		if err != nil {
			t.Fatal(err)
		}
		for range 10 {
			list := roam(g, dice.Below(15), &dice)
			length, err := Length(c, list)
			if err != nil {
				t.Errorf("Length(%v, %v): %v", c, list, err)
			}
			checkLength(t, back, Back(list), length, nil)
			if simple, err := Length(c, Simple(list)); err != nil || simple > length {
				t.Errorf("Simple(%v) in %v: %d, %v, wanted at most %d", list, c, simple, err, length)
			}
			checkLoopless(t, list)
			checkParts(t, c, list, 1+dice.Below(len(list)), length)
		}
	}
}

// checkParts cuts a walk in two, and asks both parts joined.
func checkParts(t *testing.T, c csr.Csr, list ints, cut int, length uint64) {
	t.Helper()
	a, b := list[:cut], list[cut-1:]
	checkJoin(t, a, b, list, nil)
	first, err := Length(c, a)
	second, err2 := Length(c, b)
	if err := fault.First(err, err2); err != nil || first+second != length {
		t.Errorf("%v and %v in %v: %d, %d, %v, wanted %d together", a, b, c, first, second, err, length)
	}
}

// TestP2Memory: what is handed in stays as it is, spare room too, and answers are new memory.
func TestP2Memory(t *testing.T) {
	arrays := sample.RoomyArrays(sample.Arrays(build(t, exampleGraph())))
	flat := sample.RoomOfArrays(arrays)
	for _, list := range lists(4, -1, 3) {
		roomy := sample.RoomyList(list, 9)
		before := sample.RoomOf(roomy)
		Length(csr.Csr(arrays), roomy)
		Shortest(csr.Csr(arrays), roomy)
		sample.SpoilList(Simple(roomy), -7)
		sample.SpoilList(Back(roomy), -7)
		if !slices.Equal(sample.RoomOf(roomy), before) {
			t.Fatalf("the list %v has become %v", before, sample.RoomOf(roomy))
		}
		simple, back := Simple(roomy), Back(roomy)
		sample.SpoilList(roomy, -7)
		checkSimple(t, list, simple)
		checkBack(t, list, back)
	}
	if !slices.EqualFunc(sample.RoomOfArrays(arrays), flat, slices.Equal) {
		t.Errorf("the arrays have become %v", arrays)
	}
}

func TestP2MemoryOfJoin(t *testing.T) {
	for _, x := range [][2]ints{{{0, 1}, {1, 2}}, {{1}, {1}}, {{0, 1}, {1}}, {{1}, {1, 0}}, {{1}, {2}}, {{1}, {}}, {{}, {1}}} {
		a, b := sample.RoomyList(x[0], 9), sample.RoomyList(x[1], 9)
		roomA, roomB := sample.RoomOf(a), sample.RoomOf(b)
		joined, _ := Join(a, b)
		want, err := Join(x[0], x[1])
		sample.SpoilList(joined, -7)
		if !slices.Equal(sample.RoomOf(a), roomA) || !slices.Equal(sample.RoomOf(b), roomB) {
			t.Errorf("Join(%v, %v) changes its lists", x[0], x[1])
		}
		again, _ := Join(a, b)
		sample.SpoilList(a, -7)
		sample.SpoilList(b, -7)
		if !slices.Equal(again, want) {
			t.Errorf("Join(%v, %v): %v, wanted %v, %v", x[0], x[1], again, want, err)
		}
	}
	// A list joined to itself.
	same := sample.RoomyList(ints{4, 4}, 9)
	room := sample.RoomOf(same)
	checkJoin(t, same, same, ints{4, 4, 4}, nil)
	if !slices.Equal(sample.RoomOf(same), room) {
		t.Errorf("the list has become %v", sample.RoomOf(same))
	}
}
