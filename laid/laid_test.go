package laid

import (
	"slices"
	"testing"

	"viaduct/api"
	"viaduct/overlay"
	"viaduct/sample"
)

const none = api.Unreached

// example: the graph of the document's examples, with a node more that goes, and an arc that comes.
func example() Plan {
	g := sample.Graph(5, [3]int{0, 1, 4}, [3]int{1, 2, 1}, [3]int{0, 2, 9}, [3]int{2, 3, 2}, [3]int{2, 4, 0})
	return Plan{Graph: g, Gone: []int{4}, Puts: []Arc{{From: 3, To: 0, Weight: api.MaxTotal}}}
}

func tell(t *testing.T, p Plan) Told {
	t.Helper()
	o := p.Overlay()
	if o == nil {
		t.Fatalf("no overlay of %v", p)
	}
	return Tell(o, p.Graph.N)
}

func half(node int, weight uint64) overlay.Half {
	return overlay.Half{Node: node, Weight: weight, Via: -1}
}

func TestTell(t *testing.T) {
	told := tell(t, example())
	want := Told{
		Nodes: 4,
		Arcs:  5,
		Alive: []bool{true, true, true, true, false},
		Out:   [][]overlay.Half{{half(1, 4), half(2, 9)}, {half(2, 1)}, {half(3, 2)}, {half(0, api.MaxTotal)}, nil},
		In:    [][]overlay.Half{{half(3, api.MaxTotal)}, {half(0, 4)}, {half(0, 9), half(1, 1)}, {half(2, 2)}, nil},
	}
	if !Same(told, want) {
		t.Errorf("Tell: %v", told)
	}
	if told.Weight(0, 2) != 9 || told.Weight(2, 0) != none || told.Weight(2, 4) != none {
		t.Errorf("Weight: %d, %d, %d", told.Weight(0, 2), told.Weight(2, 0), told.Weight(2, 4))
	}
}

func TestSame(t *testing.T) {
	told := tell(t, example())
	for i, change := range []func(*Told){
		func(x *Told) { x.Nodes++ },
		func(x *Told) { x.Arcs++ },
		func(x *Told) { x.Alive[4] = true },
		func(x *Told) { x.Out[0][1].Weight++ },
		func(x *Told) { x.In[3][0].Via = 4 },
		func(x *Told) { x.In[3] = nil },
	} {
		other := tell(t, example())
		if !Same(told, other) {
			t.Errorf("the same plan tells %v, then %v", told, other)
		}
		change(&other)
		if Same(told, other) {
			t.Errorf("change %d isn't seen", i)
		}
	}
}

func TestWrongPlans(t *testing.T) {
	for _, p := range []Plan{
		{Graph: api.Graph{N: -1}},
		{Graph: api.Graph{N: 2}, Gone: []int{1, 1}},
		{Graph: api.Graph{N: 2}, Puts: []Arc{{From: 0, To: 2}}},
	} {
		if p.Overlay() != nil {
			t.Errorf("an overlay of %v", p)
		}
	}
}

func TestSeen(t *testing.T) {
	told := tell(t, example())
	for _, c := range []struct {
		u, skip int
		b       Bounds
		want    []uint64
	}{
		{0, -1, Bounds{99, 5, 5}, []uint64{0, 4, 5, 7, none}},
		{0, 1, Bounds{99, 5, 5}, []uint64{0, none, 9, 11, none}},
		{0, -1, Bounds{99, 1, 5}, []uint64{0, 4, 9, none, none}},
		{0, -1, Bounds{99, 5, 2}, []uint64{0, 4, 5, none, none}},
		{0, -1, Bounds{99, 5, 0}, []uint64{0, none, none, none, none}},
		{0, -1, Bounds{99, 5, -3}, []uint64{0, none, none, none, none}},
		{0, -1, Bounds{99, -3, 5}, []uint64{0, none, none, none, none}},
		{0, -1, Bounds{4, 5, 5}, []uint64{0, 4, 5, none, none}},
		{0, -1, Bounds{3, 5, 5}, []uint64{0, 4, 9, none, none}},
		{0, 0, Bounds{99, 5, 5}, []uint64{0, 4, 5, 7, none}},
		{3, -1, Bounds{none, 5, 5}, []uint64{api.MaxTotal, api.MaxTotal + 4, api.MaxTotal + 5, 0, none}},
	} {
		if seen := told.Seen(c.u, c.skip, c.b); !slices.Equal(seen, c.want) {
			t.Errorf("Seen(%d, %d, %v): %v, wanted %v", c.u, c.skip, c.b, seen, c.want)
		}
	}
}

func TestDistances(t *testing.T) {
	const far = api.MaxTotal
	told := tell(t, example())
	dead := slices.Repeat([]uint64{none}, 5)
	for skip, want := range map[int][][]uint64{
		-1: {{0, 4, 5, 7, none}, {far + 3, 0, 1, 3, none}, {far + 2, far + 6, 0, 2, none}, {far, far + 4, far + 5, 0, none}, dead},
		2:  {{0, 4, none, none, none}, {none, 0, none, none, none}, dead, {far, far + 4, none, 0, none}, dead},
	} {
		if all := told.Distances(skip); !slices.EqualFunc(all, want, slices.Equal) {
			t.Errorf("Distances(%d): %v, wanted %v", skip, all, want)
		}
	}
}

func TestPaths(t *testing.T) {
	told := tell(t, example())
	if all := told.Paths(0, -1); !slices.EqualFunc(all, [][]uint64{{0}, {4}, {5, 9}, {7, 11}, nil}, slices.Equal) {
		t.Errorf("Paths(0, -1): %v", all)
	}
	if all := told.Paths(0, 1); !slices.EqualFunc(all, [][]uint64{{0}, nil, {9}, {11}, nil}, slices.Equal) {
		t.Errorf("Paths(0, 1): %v", all)
	}
}

// Without bounds all reckonings tell the same distances.
func TestReckoningsAgree(t *testing.T) {
	plans, gone, dear := 0, 0, 0
	for p := range Some() {
		plans++
		told := tell(t, p)
		gone += len(p.Gone)
		for _, arc := range p.Puts {
			if arc.Weight >= api.MaxTotal/2 {
				dear++
			}
		}
		for u := range p.Graph.N {
			if !told.Alive[u] {
				continue
			}
			skip := (u + 1) % (p.Graph.N + 1)
			far := told.Distances(skip)[u]
			if seen := told.Seen(u, skip, Bounds{none, api.MaxBound, api.MaxBound}); !slices.Equal(seen, far) {
				t.Errorf("%v: Seen(%d, %d): %v, wanted %v", p, u, skip, seen, far)
			}
			if p.Graph.N > 5 {
				continue
			}
			for w, lengths := range told.Paths(u, skip) {
				if slices.Min(append(lengths, none)) != far[w] {
					t.Errorf("%v: Paths(%d, %d): %v, wanted %v", p, u, skip, lengths, far[w])
				}
			}
		}
	}
	if plans < 1000 || gone < 100 || dear < 100 {
		t.Errorf("%d plans, %d nodes gone, %d dear arcs", plans, gone, dear)
	}
}

func TestSomeCanStop(t *testing.T) {
	all := 0
	for range Some() {
		all++
	}
	for _, end := range []int{1, 5, 100, all - 1} {
		seen := 0
		for range Some() {
			seen++
			if seen == end {
				break
			}
		}
	}
}
