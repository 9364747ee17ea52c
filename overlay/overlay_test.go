package overlay

import (
	"fmt"
	"math"
	"slices"
	"testing"

	"viaduct/api"
	"viaduct/sample"
)

// brief: what a failure tells of a thing, which may have many arcs.
func brief(thing any) string {
	text := fmt.Sprint(thing)
	return text[:min(len(text), 300)]
}

func must(t *testing.T, g api.Graph) *Overlay {
	t.Helper()
	o, err := New(g)
	if err != nil || o == nil {
		t.Fatalf("New(%v): %v", brief(g), err)
	}
	return o
}

func checkError(t *testing.T, name string, err, want error) {
	t.Helper()
	if !sample.SameError(err, want) {
		t.Errorf("%s: %v, wanted %v", name, err, want)
	}
}

func checkPut(t *testing.T, o *Overlay, u, w int, weight uint64, via int, want bool, wantErr error) {
	t.Helper()
	if done, err := o.Put(u, w, weight, via); done != want || !sample.SameError(err, wantErr) {
		t.Errorf("Put(%d, %d, %d, %d): %v, %v, wanted %v, %v", u, w, weight, via, done, err, want, wantErr)
	}
}

func checkRemove(t *testing.T, o *Overlay, v int, want error) {
	t.Helper()
	if err := o.Remove(v); !sample.SameError(err, want) {
		t.Errorf("Remove(%d): %v, wanted %v", v, err, want)
	}
}

func checkWeight(t *testing.T, o *Overlay, u, w int, want uint64, wantOk bool) {
	t.Helper()
	if weight, ok := o.Weight(u, w); weight != want || ok != wantOk {
		t.Errorf("Weight(%d, %d): %d, %v, wanted %d, %v", u, w, weight, ok, want, wantOk)
	}
}

func checkOut(t *testing.T, o *Overlay, v int, want ...Half) {
	t.Helper()
	if list := o.Out(v); !slices.Equal(list, want) {
		t.Errorf("Out(%d): %v, wanted %v", v, brief(list), brief(want))
	}
}

func checkIn(t *testing.T, o *Overlay, v int, want ...Half) {
	t.Helper()
	if list := o.In(v); !slices.Equal(list, want) {
		t.Errorf("In(%d): %v, wanted %v", v, brief(list), brief(want))
	}
}

func checkAlive(t *testing.T, o *Overlay, v int, want bool) {
	t.Helper()
	if alive := o.Alive(v); alive != want {
		t.Errorf("Alive(%d): %v", v, alive)
	}
}

func checkCounts(t *testing.T, o *Overlay, nodes, arcs int) {
	t.Helper()
	if o.Len() != nodes || o.Arcs() != arcs {
		t.Errorf("Len, Arcs: %d, %d, wanted %d, %d", o.Len(), o.Arcs(), nodes, arcs)
	}
}

// outside are numbers that are no nodes of a graph of n.
func outside(n int) []int {
	return []int{n, n + 1, -1, -2, -n - 1, math.MaxInt, math.MinInt, 1 << 32, -1 << 32}
}

// model is an overlay as a plain list of what there is, all of it gone through for each answer.
type model struct {
	n     int
	alive map[int]bool
	arcs  map[[2]int]Half // by both ends; of the Half the Weight and the Via
}

func newModel(g api.Graph) model {
	m := model{n: g.N, alive: map[int]bool{}, arcs: map[[2]int]Half{}}
	for v := range g.N {
		m.alive[v] = true
	}
	for _, arc := range sample.Normal(g).Arcs {
		m.arcs[[2]int{arc.From, arc.To}] = Half{Weight: uint64(arc.Weight), Via: -1}
	}
	return m
}

func (m model) out(v int) []Half {
	var list []Half
	for x := range m.n {
		if arc, ok := m.arcs[[2]int{v, x}]; ok {
			list = append(list, Half{x, arc.Weight, arc.Via})
		}
	}
	return list
}

func (m model) in(v int) []Half {
	var list []Half
	for x := range m.n {
		if arc, ok := m.arcs[[2]int{x, v}]; ok {
			list = append(list, Half{x, arc.Weight, arc.Via})
		}
	}
	return list
}

func (m model) put(u, w int, weight uint64, via int) (bool, error) {
	if !m.alive[u] || !m.alive[w] {
		return false, api.ErrNode
	}
	if u == w {
		return false, api.ErrArg
	}
	if weight > api.MaxTotal {
		return false, api.ErrWeight
	}
	if via != -1 && (via < 0 || via >= m.n || m.alive[via]) {
		return false, api.ErrArg
	}
	ends := [2]int{u, w}
	if arc, ok := m.arcs[ends]; ok && arc.Weight <= weight {
		return false, nil
	}
	m.arcs[ends] = Half{Weight: weight, Via: via}
	return true, nil
}

func (m model) remove(v int) error {
	if !m.alive[v] {
		return api.ErrNode
	}
	delete(m.alive, v)
	for ends := range m.arcs {
		if ends[0] == v || ends[1] == v {
			delete(m.arcs, ends)
		}
	}
	return nil
}

// checkAsModel: every question has the model's answer.
func checkAsModel(t *testing.T, o *Overlay, m model) {
	t.Helper()
	checkCounts(t, o, len(m.alive), len(m.arcs))
	for u := -1; u <= m.n; u++ {
		checkAlive(t, o, u, m.alive[u])
		checkOut(t, o, u, m.out(u)...)
		checkIn(t, o, u, m.in(u)...)
		for w := -1; w <= m.n; w++ {
			arc, ok := m.arcs[[2]int{u, w}]
			checkWeight(t, o, u, w, arc.Weight, ok)
		}
	}
}

// change is a call that may change something: Remove of u, if it isn't put, else Put.
type change struct {
	isPut  bool
	u, w   int
	weight uint64
	via    int
}

// apply does the same to both, which must answer the same.
func apply(t *testing.T, o *Overlay, m model, c change) {
	t.Helper()
	if !c.isPut {
		checkRemove(t, o, c.u, m.remove(c.u))
		return
	}
	done, err := m.put(c.u, c.w, c.weight, c.via)
	checkPut(t, o, c.u, c.w, c.weight, c.via, done, err)
}

// example: the chapter's graph.
func example() api.Graph {
	return sample.Graph(3, [3]int{0, 1, 4}, [3]int{0, 1, 3}, [3]int{2, 2, 1}, [3]int{1, 2, 1})
}

// full: n nodes with an arc from each to each other one, from u to w of the weight 10u + w.
func full(n int) api.Graph {
	g := api.Graph{N: n}
	for u := range n {
		for w := range n {
			if u != w {
				g.Arcs = append(g.Arcs, api.Arc{From: u, To: w, Weight: 10*u + w})
			}
		}
	}
	return g
}

// star: arcs from the node 0 to each of the n-1 others, and back, their weights the other node's number and twice that.
func star(n int) api.Graph {
	g := api.Graph{N: n}
	for v := 1; v < n; v++ {
		g.Arcs = append(g.Arcs, api.Arc{From: v, To: 0, Weight: 2 * v}, api.Arc{From: 0, To: v, Weight: v})
	}
	return g
}

func TestExamples(t *testing.T) {
	o := must(t, example())
	checkOut(t, o, 0, Half{1, 3, -1})
	checkIn(t, o, 2, Half{1, 1, -1})
	checkCounts(t, o, 3, 2)

	checkRemove(t, o, 1, nil)
	checkOut(t, o, 0)
	checkAlive(t, o, 1, false)
	checkCounts(t, o, 2, 0)
	checkPut(t, o, 0, 2, 4, 1, true, nil)
	checkPut(t, o, 0, 2, 4, 1, false, nil)
	checkPut(t, o, 0, 2, 5, -1, false, nil)
	checkPut(t, o, 0, 2, 3, -1, true, nil)
	checkOut(t, o, 0, Half{2, 3, -1})

	checkPut(t, o, 0, 1, 1, -1, false, api.ErrNode)
	checkPut(t, o, 0, 0, 1, -1, false, api.ErrArg)
	checkPut(t, o, 0, 2, 1, 2, false, api.ErrArg)
	checkPut(t, o, 0, 2, 140737488355329, 1, false, api.ErrWeight)
	checkRemove(t, o, 1, api.ErrNode)
	checkRemove(t, o, 7, api.ErrNode)
	checkOut(t, o, 0, Half{2, 3, -1})
	checkIn(t, o, 2, Half{0, 3, -1})
	checkCounts(t, o, 2, 1)
}

func TestP11_1New(t *testing.T) {
	for g := range sample.Some() {
		checkAsModel(t, must(t, g), newModel(g))
	}
}

func TestP11_1LoopsAndArcsAlike(t *testing.T) {
	loops := must(t, sample.Graph(2, [3]int{0, 0, 0}, [3]int{1, 1, 5}, [3]int{1, 1, 5}))
	checkCounts(t, loops, 2, 0)
	for v := range 2 {
		checkOut(t, loops, v)
		checkIn(t, loops, v)
		checkWeight(t, loops, v, v, 0, false)
	}
	alike := must(t, sample.Graph(2, [3]int{1, 0, 6}, [3]int{0, 1, 5}, [3]int{0, 1, 5}, [3]int{1, 0, 0}, [3]int{1, 0, 9}))
	checkCounts(t, alike, 2, 2)
	checkOut(t, alike, 0, Half{1, 5, -1})
	checkIn(t, alike, 0, Half{1, 0, -1})
	checkOut(t, alike, 1, Half{0, 0, -1})
	checkIn(t, alike, 1, Half{0, 5, -1})
}

func TestP11_1Refuses(t *testing.T) {
	for _, wrong := range sample.Wrong() {
		o, err := New(wrong.Graph)
		checkError(t, wrong.Name, err, wrong.Err)
		if o != nil {
			t.Errorf("%s: an overlay beside an error", wrong.Name)
		}
	}
}

func TestP11_1NoNode(t *testing.T) {
	for _, g := range []api.Graph{{}, {Arcs: []api.Arc{}}} {
		o := must(t, g)
		checkCounts(t, o, 0, 0)
		for _, v := range append(outside(0), 0) {
			checkAlive(t, o, v, false)
			checkOut(t, o, v)
			checkIn(t, o, v)
			checkWeight(t, o, v, v, 0, false)
			checkRemove(t, o, v, api.ErrNode)
			checkPut(t, o, v, v, api.MaxTotal+1, -2, false, api.ErrNode)
		}
		checkCounts(t, o, 0, 0)
	}
}

// At the limits: MaxNodes nodes in a ring and MaxArcs arcs in all, each of four leading one, two, three, four nodes on.
func TestP11_1GreatestGraph(t *testing.T) {
	const n, hops = api.MaxNodes, api.MaxArcs / api.MaxNodes
	g := api.Graph{N: n}
	for v := range n {
		for hop := hops; hop > 0; hop-- {
			g.Arcs = append(g.Arcs, api.Arc{From: v, To: (v + hop) % n, Weight: api.MaxWeight - hop + 1})
		}
	}
	o := must(t, g)
	checkCounts(t, o, n, api.MaxArcs)
	for v := range n {
		var out, in []Half
		for hop := 1; hop <= hops; hop++ {
			weight := uint64(api.MaxWeight - hop + 1)
			out = append(out, Half{(v + hop) % n, weight, -1})
			in = append(in, Half{(v - hop + n) % n, weight, -1})
		}
		byNode := func(a, b Half) int { return a.Node - b.Node }
		slices.SortFunc(out, byNode)
		slices.SortFunc(in, byNode)
		checkOut(t, o, v, out...)
		checkIn(t, o, v, in...)
	}
	for _, v := range outside(n) {
		checkAlive(t, o, v, false)
	}
	for v := range n {
		checkRemove(t, o, v, nil)
		if o.Len() != n-1-v {
			t.Fatalf("Len behind Remove(%d): %d", v, o.Len())
		}
	}
	checkCounts(t, o, 0, 0)
}

func TestP11_2Counts(t *testing.T) {
	const n = 5
	o := must(t, full(n))
	for gone := range n {
		left := n - gone
		checkCounts(t, o, left, left*(left-1))
		for v := range n {
			checkAlive(t, o, v, v >= gone)
		}
		checkRemove(t, o, gone, nil)
	}
	checkCounts(t, o, 0, 0)
}

// An arc in place of another one doesn't count twice; one that is not put in doesn't count.
func TestP11_2CountsOfPut(t *testing.T) {
	o := must(t, sample.Graph(3, [3]int{0, 1, 5}))
	checkPut(t, o, 0, 1, 4, -1, true, nil)
	checkCounts(t, o, 3, 1)
	checkPut(t, o, 0, 1, 4, -1, false, nil)
	checkCounts(t, o, 3, 1)
	checkPut(t, o, 1, 0, 4, -1, true, nil)
	checkCounts(t, o, 3, 2)
	checkPut(t, o, 1, 1, 4, -1, false, api.ErrArg)
	checkPut(t, o, 1, 2, api.MaxTotal+1, -1, false, api.ErrWeight)
	checkCounts(t, o, 3, 2)
}

func TestP11_3NoSuchNode(t *testing.T) {
	const n = 4
	o := must(t, full(n))
	checkRemove(t, o, 2, nil)
	for _, v := range append(outside(n), 2) {
		checkAlive(t, o, v, false)
		checkOut(t, o, v)
		checkIn(t, o, v)
		checkWeight(t, o, v, 1, 0, false)
		checkWeight(t, o, 1, v, 0, false)
		checkWeight(t, o, v, v, 0, false)
	}
	checkWeight(t, o, 1, 1, 0, false)
	checkWeight(t, o, 1, 3, 13, true)
}

// A weight of 0 is one, and told apart from none.
func TestP11_3WeightOfNought(t *testing.T) {
	o := must(t, sample.Graph(3, [3]int{0, 1, 0}))
	checkWeight(t, o, 0, 1, 0, true)
	checkWeight(t, o, 1, 0, 0, false)
	checkOut(t, o, 0, Half{1, 0, -1})
	checkPut(t, o, 0, 1, 0, -1, false, nil)
	checkPut(t, o, 1, 0, 0, -1, true, nil)
	checkWeight(t, o, 1, 0, 0, true)
}

// However arcs come in, lists rise.
func TestP11_3ListsRise(t *testing.T) {
	const n = 40
	dice := sample.Dice{Seed: 11}
	for range 20 {
		o := must(t, api.Graph{N: n})
		for _, v := range dice.Shuffled(n) {
			if v != 7 {
				checkPut(t, o, 7, v, uint64(v*v), -1, true, nil)
				checkPut(t, o, v, 7, uint64(v), -1, true, nil)
			}
		}
		var out, in []Half
		for v := range n {
			if v != 7 {
				out = append(out, Half{v, uint64(v * v), -1})
				in = append(in, Half{v, uint64(v), -1})
			}
		}
		checkOut(t, o, 7, out...)
		checkIn(t, o, 7, in...)
	}
}

func TestP11_4PutWeights(t *testing.T) {
	for _, c := range []struct {
		first, then uint64
		want        bool
	}{
		{5, 0, true}, {5, 4, true}, {5, 5, false}, {5, 6, false}, {0, 0, false}, {0, 1, false}, {1, 0, true},
		{api.MaxTotal, api.MaxTotal, false}, {api.MaxTotal, api.MaxTotal - 1, true}, {api.MaxTotal - 1, api.MaxTotal, false},
		{1 << 32, 1, true}, {1, 1 << 32, false}, {1<<32 + 1, 1 << 32, true}, {1 << 32, 1<<32 + 1, false},
	} {
		for _, vias := range [][2]int{{-1, -1}, {-1, 3}, {3, -1}, {3, 2}} {
			o := must(t, api.Graph{N: 4})
			checkRemove(t, o, 2, nil)
			checkRemove(t, o, 3, nil)
			checkPut(t, o, 0, 1, c.first, vias[0], true, nil)
			checkPut(t, o, 0, 1, c.then, vias[1], c.want, nil)
			weight, via := c.first, vias[0]
			if c.want {
				weight, via = c.then, vias[1]
			}
			checkOut(t, o, 0, Half{1, weight, via})
			checkIn(t, o, 1, Half{0, weight, via})
			checkWeight(t, o, 0, 1, weight, true)
			checkOut(t, o, 1)
			checkIn(t, o, 0)
			checkCounts(t, o, 2, 1)
		}
	}
}

// Put weighs against arcs of the graph just as against its own.
func TestP11_4PutOverTheGraph(t *testing.T) {
	o := must(t, sample.Graph(3, [3]int{0, 1, api.MaxWeight}, [3]int{1, 0, 7}))
	checkPut(t, o, 0, 1, api.MaxWeight+1, -1, false, nil)
	checkPut(t, o, 0, 1, api.MaxWeight, -1, false, nil)
	checkRemove(t, o, 2, nil)
	checkPut(t, o, 0, 1, api.MaxWeight-1, 2, true, nil)
	checkOut(t, o, 0, Half{1, api.MaxWeight - 1, 2})
	checkIn(t, o, 0, Half{1, 7, -1})
}

func TestP11_4PutVias(t *testing.T) {
	const n = 5
	vias := append(outside(n), 0, 1, 2, 3, 4)
	for _, via := range vias {
		o := must(t, api.Graph{N: n})
		checkRemove(t, o, 0, nil)
		checkRemove(t, o, 4, nil)
		if via == -1 || via == 0 || via == 4 {
			checkPut(t, o, 1, 2, 9, via, true, nil)
			checkOut(t, o, 1, Half{2, 9, via})
			checkIn(t, o, 2, Half{1, 9, via})
		} else {
			checkPut(t, o, 1, 2, 9, via, false, api.ErrArg)
			checkOut(t, o, 1)
			checkIn(t, o, 2)
		}
	}
}

// The first error that applies is answered, even where the arc would be too dear to be put in anyway.
func TestP11_4PutErrorsInOrder(t *testing.T) {
	const n, gone, dear = 5, 4, api.MaxTotal + 1
	bad := append(outside(n), gone)
	for _, weight := range []uint64{0, 9, dear, math.MaxUint64} {
		for _, via := range []int{-1, gone, -2, 0, 1, 2, n, math.MinInt, math.MaxInt} {
			o := must(t, full(n))
			checkRemove(t, o, gone, nil)
			for _, v := range bad {
				checkPut(t, o, v, 1, weight, via, false, api.ErrNode)
				checkPut(t, o, 1, v, weight, via, false, api.ErrNode)
				checkPut(t, o, v, v, weight, via, false, api.ErrNode)
			}
			checkPut(t, o, 1, 1, weight, via, false, api.ErrArg)
			m := newModel(full(n))
			m.remove(gone)
			checkAsModel(t, o, m)
			if weight >= dear {
				checkPut(t, o, 1, 2, weight, via, false, api.ErrWeight)
			} else if via != -1 && via != gone {
				checkPut(t, o, 1, 2, weight, via, false, api.ErrArg)
			}
			checkAsModel(t, o, m)
		}
	}
}

func TestP11_4Remove(t *testing.T) {
	const n = 5
	for first := range n {
		for second := range n {
			o, m := must(t, full(n)), newModel(full(n))
			for _, v := range []int{first, second, first, second} {
				apply(t, o, m, change{u: v})
				checkAsModel(t, o, m)
			}
			for _, v := range outside(n) {
				checkRemove(t, o, v, api.ErrNode)
			}
			checkAsModel(t, o, m)
		}
	}
}

func TestP11_4RemoveTheLast(t *testing.T) {
	o := must(t, sample.Graph(2, [3]int{0, 1, 5}))
	checkRemove(t, o, 1, nil)
	checkOut(t, o, 0)
	checkRemove(t, o, 0, nil)
	checkCounts(t, o, 0, 0)
	for v := range 2 {
		checkAlive(t, o, v, false)
		checkOut(t, o, v)
		checkIn(t, o, v)
		checkRemove(t, o, v, api.ErrNode)
		checkPut(t, o, v, 1-v, 1, -1, false, api.ErrNode)
	}
	checkCounts(t, o, 0, 0)
}

// A node's arcs that were put in go with it; an arc stays when the node goes by way of which it was put in.
func TestP11_4RemoveWhatWasPut(t *testing.T) {
	o := must(t, api.Graph{N: 4})
	checkRemove(t, o, 3, nil)
	checkPut(t, o, 0, 1, 5, 3, true, nil)
	checkPut(t, o, 1, 2, 6, 3, true, nil)
	checkPut(t, o, 2, 0, 7, 3, true, nil)
	checkRemove(t, o, 1, nil)
	checkCounts(t, o, 2, 1)
	checkOut(t, o, 0)
	checkIn(t, o, 0, Half{2, 7, 3})
	checkOut(t, o, 2, Half{0, 7, 3})
	checkIn(t, o, 2)
	checkPut(t, o, 2, 0, 6, 1, true, nil)
	checkOut(t, o, 2, Half{0, 6, 1})
}

// All runs of three calls of a choice on small graphs.
func TestP11_4AllShortRuns(t *testing.T) {
	var choice []change
	for v := -1; v <= 3; v++ {
		choice = append(choice, change{u: v})
	}
	for _, ends := range [][2]int{{0, 1}, {1, 0}, {2, 1}, {1, 1}, {0, 3}} {
		for _, weight := range []uint64{0, 4, api.MaxTotal + 1} {
			for _, via := range []int{-1, 2} {
				choice = append(choice, change{true, ends[0], ends[1], weight, via})
			}
		}
	}
	for _, g := range []api.Graph{{N: 3}, full(3)} {
		for _, first := range choice {
			for _, second := range choice {
				for _, third := range choice {
					o, m := must(t, g), newModel(g)
					apply(t, o, m, first)
					apply(t, o, m, second)
					apply(t, o, m, third)
					checkAsModel(t, o, m)
				}
			}
		}
	}
}

// anyChange: one that is often right, and wrong in each way now and then.
func anyChange(dice *sample.Dice, n int) change {
	if dice.Below(12) == 0 {
		return change{u: dice.Below(n+2) - 1}
	}
	weights := []uint64{0, uint64(dice.Below(50)), uint64(dice.Below(50)), api.MaxTotal, api.MaxTotal + 1}
	vias := []int{-1, -1, dice.Below(n+3) - 2}
	return change{
		isPut:  true,
		u:      dice.Below(n+2) - 1,
		w:      dice.Below(n+2) - 1,
		weight: weights[dice.Below(len(weights))],
		via:    vias[dice.Below(len(vias))],
	}
}

func TestP11_4AsTheModel(t *testing.T) {
	dice := sample.Dice{Seed: 114}
	for range 200 {
		n := 1 + dice.Below(14)
		g := dice.Graph(n, dice.Below(3*n), 50)
		o, m := must(t, g), newModel(g)
		for range 20 * n {
			apply(t, o, m, anyChange(&dice, n))
			if dice.Below(4) == 0 {
				checkAsModel(t, o, m)
			}
		}
		checkAsModel(t, o, m)
	}
}

func TestP11_4AsTheModelAtLength(t *testing.T) {
	const n = 100
	dice := sample.Dice{Seed: 4}
	g := dice.Graph(n, 3000, 1000)
	o, m := must(t, g), newModel(g)
	for gone, v := range dice.Shuffled(n) {
		for range 300 {
			apply(t, o, m, anyChange(&dice, n))
		}
		apply(t, o, m, change{u: v})
		if gone%5 == 0 {
			checkAsModel(t, o, m)
		}
	}
	checkAsModel(t, o, m)
}

// Contracted without any witness, each node in turn: what is put in by way of one goes with the next.
func TestP11_4AsInAContraction(t *testing.T) {
	const n = 30
	dice := sample.Dice{Seed: 30}
	for range 10 {
		g := dice.Graph(n, 90, 100)
		o, m := must(t, g), newModel(g)
		for _, v := range dice.Shuffled(n) {
			in, out := o.In(v), o.Out(v)
			apply(t, o, m, change{u: v})
			for _, a := range in {
				for _, b := range out {
					apply(t, o, m, change{true, a.Node, b.Node, a.Weight + b.Weight, v})
				}
			}
			checkAsModel(t, o, m)
		}
	}
}

// A node with many neighbours sees each go, in whatever order, and others come in between.
func TestP11_4ManyNeighbours(t *testing.T) {
	const n = 60
	dice := sample.Dice{Seed: 60}
	rising := make([]int, n-1)
	for i := range rising {
		rising[i] = i + 1
	}
	falling := slices.Clone(rising)
	slices.Reverse(falling)
	shuffled := dice.Shuffled(n)
	shuffled = slices.DeleteFunc(shuffled, func(v int) bool { return v == 0 })
	for _, order := range [][]int{rising, falling, shuffled} {
		o, m := must(t, star(n)), newModel(star(n))
		for _, v := range order {
			apply(t, o, m, change{u: v})
			checkAsModel(t, o, m)
			apply(t, o, m, change{true, 0, 1 + dice.Below(n-1), uint64(dice.Below(n)), v})
			apply(t, o, m, change{true, 1 + dice.Below(n-1), 0, uint64(dice.Below(n)), -1})
			checkAsModel(t, o, m)
		}
		checkCounts(t, o, 1, 0)
	}
}

// The greatest star loses its leaves one by one from the front, where all that is left of a long row would have to be moved each time.
func TestP11_4GreatestStar(t *testing.T) {
	const n = api.MaxNodes
	o := must(t, star(n))
	checkCounts(t, o, n, 2*(n-1))
	for v := 1; v < n; v++ {
		checkRemove(t, o, v, nil)
		if v%4096 == 0 {
			out, in := o.Out(0), o.In(0)
			if len(out) != n-1-v || len(in) != n-1-v || out[0] != (Half{v + 1, uint64(v + 1), -1}) || in[0] != (Half{v + 1, uint64(2*v + 2), -1}) {
				t.Fatalf("behind Remove(%d): %v, %v", v, brief(out), brief(in))
			}
			checkCounts(t, o, n-v, 2*(n-1-v))
		}
	}
	checkCounts(t, o, 1, 0)
	checkOut(t, o, 0)
	checkIn(t, o, 0)
}

// What can't be seen any more isn't kept for long either.
func TestRowsStayShort(t *testing.T) {
	const n = 60
	dice := sample.Dice{Seed: 59}
	o := must(t, full(n))
	for _, v := range dice.Shuffled(n) {
		checkRemove(t, o, v, nil)
		for x := range n {
			if len(o.out[x].halves) > 2*len(o.Out(x)) || len(o.in[x].halves) > 2*len(o.In(x)) {
				t.Fatalf("behind Remove(%d): %d and %d arcs are kept at %d, where %d and %d are seen", v, len(o.out[x].halves), len(o.in[x].halves), x, len(o.Out(x)), len(o.In(x)))
			}
		}
	}
}

// P2: questions change nothing, however often they are asked, and the same calls have the same answers.
func TestQuestionsChangeNothing(t *testing.T) {
	o, m := must(t, full(4)), newModel(full(4))
	apply(t, o, m, change{u: 1})
	apply(t, o, m, change{true, 0, 2, 1, 1})
	for range 3 {
		checkAsModel(t, o, m)
	}
	apply(t, o, m, change{true, 0, 2, 0, -1})
	checkAsModel(t, o, m)
}

func TestNilOverlay(t *testing.T) {
	var o *Overlay
	checkCounts(t, o, 0, 0)
	for _, v := range append(outside(3), 0, 1, 2) {
		checkAlive(t, o, v, false)
		checkOut(t, o, v)
		checkIn(t, o, v)
		checkWeight(t, o, v, 1, 0, false)
		checkWeight(t, o, 1, v, 0, false)
		checkRemove(t, o, v, api.ErrNil)
		checkPut(t, o, v, 1, 5, -1, false, api.ErrNil)
		checkPut(t, o, v, v, api.MaxTotal+1, v, false, api.ErrNil)
	}
}

// One that New didn't make has no nodes.
func TestUnmadeOverlay(t *testing.T) {
	checkAsModel(t, new(Overlay), newModel(api.Graph{}))
	checkRemove(t, new(Overlay), 0, api.ErrNode)
	checkPut(t, new(Overlay), 0, 1, 5, -1, false, api.ErrNode)
}

// The graph that was handed in stays as it is, spare room too, whatever is done; and writing over it afterwards changes nothing.
func TestMemoryOfNew(t *testing.T) {
	for g := range sample.Some() {
		roomy := sample.Roomy(g)
		before := sample.Room(roomy)
		o, m := must(t, roomy), newModel(g)
		for v := range g.N / 2 {
			apply(t, o, m, change{u: v})
			apply(t, o, m, change{true, g.N - 1, g.N - 2, 0, v})
		}
		if roomy.N != g.N || !slices.Equal(sample.Room(roomy), before) {
			t.Errorf("New(%v) changes its graph to %v", brief(g), brief(roomy))
		}
		sample.Spoil(roomy.Arcs)
		checkAsModel(t, o, m)
	}
}

// Writing over lists that were answered, spare room too, changes no later answer, nor another list.
func TestMemoryOfAnswers(t *testing.T) {
	odd := Half{-7, 7, -7}
	for g := range sample.Some() {
		o, m := must(t, g), newModel(g)
		for range 2 {
			for v := range g.N {
				out, again, in, more := o.Out(v), o.Out(v), o.In(v), o.In(v)
				sample.SpoilList(out, odd)
				sample.SpoilList(in, odd)
				if !slices.Equal(again, m.out(v)) || !slices.Equal(more, m.in(v)) {
					t.Errorf("%v: lists of %d share memory", brief(g), v)
				}
			}
			checkAsModel(t, o, m)
			// Once more with a node gone, of which something may be left within.
			apply(t, o, m, change{u: g.N / 2})
			apply(t, o, m, change{true, 0, g.N - 1, 1, g.N / 2})
		}
	}
}

// Lists that were answered stay as they are, whatever is done afterwards.
func TestMemoryOfEarlierAnswers(t *testing.T) {
	const n = 12
	dice := sample.Dice{Seed: 12}
	for range 20 {
		o, m := must(t, full(n)), newModel(full(n))
		var lists, copies [][]Half
		for range 60 {
			for v := range n {
				for _, list := range [][]Half{o.Out(v), o.In(v)} {
					lists = append(lists, list)
					copies = append(copies, sample.RoomOf(list))
				}
			}
			apply(t, o, m, anyChange(&dice, n))
		}
		for i, list := range lists {
			if !slices.Equal(list[:cap(list)], copies[i]) {
				t.Fatalf("a list changed from %v to %v", copies[i], list)
			}
		}
	}
}

// Two overlays of one graph have nothing in common.
func TestOverlaysAreApart(t *testing.T) {
	g := full(4)
	a, b, m, same := must(t, g), must(t, g), newModel(g), newModel(g)
	apply(t, a, m, change{u: 2})
	apply(t, a, m, change{true, 0, 1, 0, 2})
	checkAsModel(t, a, m)
	checkAsModel(t, b, same)
}
