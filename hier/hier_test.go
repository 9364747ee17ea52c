package hier

import (
	"fmt"
	"math"
	"slices"
	"testing"

	"viaduct/api"
	"viaduct/fault"
	"viaduct/normal"
	"viaduct/sample"
)

// numbers: those of a list of a hierarchy.
type numbers = []uint32

// brief: what a failure tells of a thing, which may have a million links.
func brief(thing any) string {
	text := fmt.Sprint(thing)
	return text[:min(len(text), 300)]
}

func checkForm(t *testing.T, name string, h api.Hier, want error) {
	t.Helper()
	if err := Check(h); !sample.SameError(err, want) {
		t.Errorf("%s: Check(%v): %v, wanted %v", name, brief(h), err, want)
	}
}

func checkEnds(t *testing.T, h api.Hier, i, tail, head int, want error) {
	t.Helper()
	if a, b, err := Ends(h, i); a != tail || b != head || !sample.SameError(err, want) {
		t.Errorf("Ends(%v, %d): %d, %d, %v, wanted %d, %d, %v", brief(h), i, a, b, err, tail, head, want)
	}
}

func checkGraph(t *testing.T, h api.Hier, want api.Graph, wantErr error) {
	t.Helper()
	if g, err := Graph(h); !sample.SameGraph(g, want) || !sample.SameError(err, wantErr) {
		t.Errorf("Graph(%v): %v, %v, wanted %v, %v", brief(h), brief(g), err, brief(want), wantErr)
	}
}

func checkRanks(t *testing.T, h api.Hier, want []int, wantErr error) {
	t.Helper()
	if ranks, err := Ranks(h); !slices.Equal(ranks, want) || !sample.SameError(err, wantErr) {
		t.Errorf("Ranks(%v): %v, %v, wanted %v, %v", brief(h), brief(ranks), err, brief(want), wantErr)
	}
}

func checkTurn(t *testing.T, h, want api.Hier, wantErr error) {
	t.Helper()
	if turned, err := Turn(h); !sample.SameHier(turned, want) || !sample.SameError(err, wantErr) {
		t.Errorf("Turn(%v): %v, %v, wanted %v, %v", brief(h), brief(turned), err, brief(want), wantErr)
	}
}

// turnedThree: the chapter's example turned about, as the chapter has it.
func turnedThree() api.Hier {
	return api.Hier{
		Node:      numbers{1, 0, 2},
		UpFirst:   numbers{0, 1, 1, 1},
		Up:        []api.Link{sample.Plain(1, 4)},
		DownFirst: numbers{0, 1, 2, 2},
		Down:      []api.Link{sample.Plain(2, 1), {To: 2, Weight: 5, Left: 1, Right: 0}},
	}
}

// link: the one with a number, and where it stands, found by going through the Firsts.
func link(h api.Hier, i int) (l api.Link, rank int, isUp bool) {
	list, first := h.Up, h.UpFirst
	isUp = i < len(h.Up)
	if !isUp {
		list, first, i = h.Down, h.DownFirst, i-len(h.Up)
	}
	for int(first[rank+1]) <= i {
		rank++
	}
	return list[i], rank, isUp
}

// ends: tail and head of a link.
func ends(h api.Hier, i int) (int, int) {
	l, rank, isUp := link(h, i)
	if isUp {
		return rank, int(l.To)
	}
	return int(l.To), rank
}

// model: Check as the chapter's words have it, one after the other.
func model(h api.Hier) error {
	n, count := len(h.Node), len(h.Up)+len(h.Down)
	if n > api.MaxNodes || count > api.MaxLinks {
		return api.ErrLimit
	}
	if len(h.UpFirst) != n+1 || len(h.DownFirst) != n+1 {
		return api.ErrShape
	}
	if err := modelFirst(h.UpFirst, len(h.Up)); err != nil {
		return err
	}
	if err := modelFirst(h.DownFirst, len(h.Down)); err != nil {
		return err
	}
	for r, v := range h.Node {
		if int(v) >= n || slices.Contains(h.Node[:r], v) {
			return fault.At(api.AtNode, r, api.ErrOrder)
		}
	}
	for i := range count {
		if e := modelLink(h, i); e != 0 {
			return fault.At(api.AtArc, i, e)
		}
	}
	return nil
}

func modelFirst(first numbers, count int) error {
	if first[0] != 0 {
		return api.ErrShape
	}
	for r := range len(first) - 1 {
		if first[r+1] < first[r] {
			return fault.At(api.AtNode, r, api.ErrShape)
		}
	}
	if first[len(first)-1] != uint32(count) {
		return api.ErrShape
	}
	return nil
}

func modelLink(h api.Hier, i int) api.Errno {
	l, rank, isUp := link(h, i)
	if int(l.To) >= len(h.Node) || int(l.To) <= rank {
		return api.ErrShape
	}
	if i > 0 {
		if ahead, aheadRank, aheadUp := link(h, i-1); aheadRank == rank && aheadUp == isUp && l.To <= ahead.To {
			return api.ErrShape
		}
	}
	if l.Left == api.NoLink && l.Right == api.NoLink {
		if l.Weight > 1<<31-1 {
			return api.ErrWeight
		}
		return 0
	}
	return modelShortcut(h, i)
}

func modelShortcut(h api.Hier, i int) api.Errno {
	l, _, _ := link(h, i)
	count := len(h.Up) + len(h.Down)
	if int(l.Left) >= count || int(l.Right) >= count {
		return api.ErrShape
	}
	left, leftRank, leftUp := link(h, int(l.Left))
	right, rightRank, rightUp := link(h, int(l.Right))
	if leftUp || !rightUp || leftRank != rightRank {
		return api.ErrShape
	}
	if tail, head := ends(h, i); int(left.To) != tail || int(right.To) != head {
		return api.ErrShape
	}
	if l.Weight > 1<<47 || left.Weight > 1<<47 || right.Weight > 1<<47 || l.Weight != left.Weight+right.Weight {
		return api.ErrWeight
	}
	return 0
}

// spoilt: the hierarchy with some of its numbers changed to ones that lie at an edge.
func spoilt(h api.Hier, changes int, dice *sample.Dice) api.Hier {
	h = sample.CopyHier(h)
	for range changes {
		switch dice.Below(8) {
		case 0:
			spoilNumber(h.Node, dice)
		case 1:
			spoilNumber(h.UpFirst, dice)
		case 2:
			spoilNumber(h.DownFirst, dice)
		case 3, 4, 5:
			spoilLink(h.Up, len(h.Up)+len(h.Down), dice)
		default:
			spoilLink(h.Down, len(h.Up)+len(h.Down), dice)
		}
	}
	return h
}

func spoilNumber(list numbers, dice *sample.Dice) {
	if len(list) > 0 {
		i := dice.Below(len(list))
		list[i] = []uint32{list[i] + 1, list[i] - 1, uint32(dice.Below(10)), math.MaxUint32}[dice.Below(4)]
	}
}

func spoilLink(list []api.Link, count int, dice *sample.Dice) {
	if len(list) == 0 {
		return
	}
	l := &list[dice.Below(len(list))]
	number := []uint32{uint32(dice.Below(count + 1)), api.NoLink, uint32(count), l.Left + 1, l.Right - 1}[dice.Below(5)]
	switch dice.Below(6) {
	case 0:
		l.To = []uint32{l.To + 1, l.To - 1, uint32(dice.Below(10))}[dice.Below(3)]
	case 1:
		l.Left = number
	case 2:
		l.Right = number
	case 3:
		l.Left, l.Right = api.NoLink, api.NoLink
	case 4:
		l.Left, l.Right = uint32(dice.Below(count)), uint32(dice.Below(count))
	default:
		l.Weight = []uint64{l.Weight + 1, l.Weight - 1, 0, api.MaxWeight, api.MaxWeight + 1, api.MaxTotal, api.MaxTotal + 1, math.MaxUint64}[dice.Below(8)]
	}
}

func TestP10_1Check(t *testing.T) {
	checkForm(t, "the example", sample.Three(), nil)
	checkForm(t, "the example turned", turnedThree(), nil)
	checkForm(t, "no nodes", api.Hier{UpFirst: numbers{0}, DownFirst: numbers{0}}, nil)
	checkForm(t, "no nodes, empty lists", api.Hier{Node: numbers{}, UpFirst: numbers{0}, Up: []api.Link{}, DownFirst: numbers{0}, Down: []api.Link{}}, nil)
	checkForm(t, "no list", api.Hier{}, api.ErrShape)
	for h := range sample.Hiers() {
		checkForm(t, "in form", h, nil)
	}
	for _, w := range sample.WrongHiers() {
		checkForm(t, w.Name, w.Hier, w.Err)
	}
}

// TestP10_1Examples: the changes of the chapter's example 3.
func TestP10_1Examples(t *testing.T) {
	shape, weight := fault.At(api.AtArc, 1, api.ErrShape), fault.At(api.AtArc, 1, api.ErrWeight)
	for _, c := range []struct {
		name   string
		want   error
		change func(*api.Hier)
	}{
		{"weight 6", weight, func(h *api.Hier) { h.Up[1].Weight = 6 }},
		{"Left 0", shape, func(h *api.Hier) { h.Up[1].Left = 0 }},
		{"To 1", shape, func(h *api.Hier) { h.Up[1].To = 1 }},
		{"Node 1 0 1", fault.At(api.AtNode, 2, api.ErrOrder), func(h *api.Hier) { h.Node = numbers{1, 0, 1} }},
		{"UpFirst 0 1 2", api.ErrShape, func(h *api.Hier) { h.UpFirst = numbers{0, 1, 2} }},
		{"Left NoLink", shape, func(h *api.Hier) { h.Up[1].Left, h.Up[1].Right = api.NoLink, 0 }},
	} {
		h := sample.Three()
		c.change(&h)
		checkForm(t, c.name, h, c.want)
	}
}

func TestP10_1Model(t *testing.T) {
	dice := sample.Dice{Seed: 101}
	counts := map[api.Errno]int{}
	for h := range sample.Hiers() {
		for changes := range 100 {
			wrong := spoilt(h, 1+changes%4, &dice)
			want := model(wrong)
			counts[fault.Code(want)]++
			checkForm(t, "spoilt", wrong, want)
		}
	}
	for _, e := range []api.Errno{0, api.ErrShape, api.ErrOrder, api.ErrWeight} {
		if counts[e] < 300 {
			t.Errorf("only %d spoilt hierarchies of %v", counts[e], e)
		}
	}
}

func TestP10_1LimitOfNodes(t *testing.T) {
	h := sample.Flat(api.MaxNodes, 0, 0)
	checkForm(t, "MaxNodes", h, nil)
	slices.Reverse(h.Node)
	checkForm(t, "MaxNodes the other way round", h, nil)
	h.Node[api.MaxNodes-1] = api.MaxNodes - 1
	checkForm(t, "the last node twice", h, fault.At(api.AtNode, api.MaxNodes-1, api.ErrOrder))
	checkForm(t, "a node too many", sample.Flat(api.MaxNodes+1, 0, 0), api.ErrLimit)
	ring := sample.Flat(api.MaxNodes, api.MaxNodes-1, 0)
	checkForm(t, "links to the last rank", ring, nil)
	ring.Up[api.MaxNodes-2].To = api.MaxNodes
	checkForm(t, "a link beyond the last rank", ring, fault.At(api.AtArc, api.MaxNodes-2, api.ErrShape))
}

func TestP10_1LimitOfLinks(t *testing.T) {
	const half = api.MaxLinks / 2
	checkForm(t, "MaxLinks up", sample.Flat(1500, api.MaxLinks, 0), nil)
	checkForm(t, "MaxLinks down", sample.Flat(1500, 0, api.MaxLinks), nil)
	checkForm(t, "MaxLinks both ways", sample.Flat(1100, half, half), nil)
	checkForm(t, "an up link too many", sample.Flat(1500, api.MaxLinks+1, 0), api.ErrLimit)
	checkForm(t, "a down link too many", sample.Flat(1500, 0, api.MaxLinks+1), api.ErrLimit)
	checkForm(t, "one too many both ways", sample.Flat(1100, half+1, half), api.ErrLimit)
	last := sample.Flat(1100, half, half)
	last.Down[half-1].Weight = api.MaxWeight + 1
	checkForm(t, "the last link too dear", last, fault.At(api.AtArc, api.MaxLinks-1, api.ErrWeight))
}

// TestP10_1LimitOfWeights: plain links up to MaxWeight, shortcuts and their children up to MaxTotal.
func TestP10_1LimitOfWeights(t *testing.T) {
	h := sample.Three()
	h.Up[0].Weight, h.Down[0].Weight, h.Up[1].Weight = api.MaxWeight, api.MaxWeight, 2*api.MaxWeight
	checkForm(t, "children of MaxWeight", h, nil)
	h.Up[0].Weight, h.Down[0].Weight, h.Up[1].Weight = 0, 0, 0
	checkForm(t, "weights 0", h, nil)

	full := sample.Doubling(19, 1<<30)
	if full.Up[len(full.Up)-1].Weight != api.MaxTotal {
		t.Fatalf("the last shortcut weighs %d", full.Up[len(full.Up)-1].Weight)
	}
	checkForm(t, "shortcuts of MaxTotal", full, nil)
	checkForm(t, "a child of MaxTotal", withFreeEnd(0), nil)
	checkForm(t, "a child of MaxTotal, and 1 more", withFreeEnd(1), fault.At(api.AtArc, 19*20/2-1, api.ErrWeight))
}

// withFreeEnd: at the rank 18 a link up to 19 whose left child weighs MaxTotal and whose right child, an arc, weighs this.
func withFreeEnd(weight uint64) api.Hier {
	h := sample.Doubling(20, 1<<30)
	ups := uint32(len(h.Up))
	// At the rank 17 the links up to 19 and down from 19 become plain; then so may the one down from 19 to 18.
	toLast := h.UpFirst[18] - 1
	h.Up[toLast], h.Down[toLast] = sample.Plain(19, weight), sample.Plain(19, 1)
	h.Up[ups-1].Weight = api.MaxTotal + weight
	h.Down[ups-1] = sample.Plain(19, 1)
	return h
}

func TestP10_2Ends(t *testing.T) {
	three := sample.Three()
	checkEnds(t, three, 0, 0, 2, nil)
	checkEnds(t, three, 1, 1, 2, nil)
	checkEnds(t, three, 2, 1, 0, nil)
	for h := range sample.Hiers() {
		count := len(h.Up) + len(h.Down)
		for i := range count {
			tail, head := ends(h, i)
			checkEnds(t, h, i, tail, head, nil)
		}
		for _, i := range []int{-1, count, count + 1, math.MinInt, math.MaxInt, -1 - count, 1 << 32} {
			checkEnds(t, h, i, 0, 0, api.ErrArg)
		}
	}
	for _, w := range sample.WrongHiers() {
		for _, i := range []int{0, -1, math.MaxInt} {
			checkEnds(t, w.Hier, i, 0, 0, w.Err)
		}
	}
}

// plainGraph: the arcs that a hierarchy's plain links are, found pair by pair.
func plainGraph(h api.Hier) api.Graph {
	var g api.Graph
	g.N = len(h.Node)
	for i := range len(h.Up) + len(h.Down) {
		tail, head := ends(h, i)
		if l, _, _ := link(h, i); l.Left == api.NoLink && l.Right == api.NoLink {
			g.Arcs = append(g.Arcs, api.Arc{From: int(h.Node[tail]), To: int(h.Node[head]), Weight: int(l.Weight)})
		}
	}
	return sample.Normal(g)
}

func TestP10_3Graph(t *testing.T) {
	checkGraph(t, sample.Three(), sample.Graph(3, [3]int{0, 1, 4}, [3]int{1, 2, 1}), nil)
	checkGraph(t, turnedThree(), sample.Graph(3, [3]int{1, 0, 4}, [3]int{2, 1, 1}), nil)
	checkGraph(t, sample.Flat(0, 0, 0), api.Graph{}, nil)
	checkGraph(t, sample.Flat(3, 0, 0), api.Graph{N: 3}, nil)
	for h := range sample.Hiers() {
		checkGraph(t, h, plainGraph(h), nil)
	}
	for _, w := range sample.WrongHiers() {
		checkGraph(t, w.Hier, api.Graph{}, w.Err)
	}
}

// TestP10_3Contracted: the arcs of a graph that no shortcut took the place of are told again, by the graph's own nodes.
func TestP10_3Contracted(t *testing.T) {
	dice := sample.Dice{Seed: 103}
	for range 100 {
		g := dice.Graph(6, 12, 9)
		made, err := Graph(sample.Contracted(g, dice.Shuffled(6)))
		if err != nil || !slices.EqualFunc(sample.Distances(made), sample.Distances(g), slices.Equal) {
			t.Errorf("Graph of the hierarchy of %v: %v, %v", g, made, err)
		}
		if is, err := normal.Is(made); !is || err != nil {
			t.Errorf("Graph of the hierarchy of %v: %v is not normal: %v", g, made, err)
		}
	}
}

// TestP10_3ManyArcs: a hierarchy may have more plain links than a graph may have arcs.
func TestP10_3ManyArcs(t *testing.T) {
	for _, ups := range []int{api.MaxArcs, api.MaxArcs + 1, api.MaxLinks} {
		h := sample.Flat(1500, ups, 0)
		g, err := Graph(h)
		if err != nil || g.N != 1500 || len(g.Arcs) != ups {
			t.Errorf("Graph of %d links: %d nodes, %d arcs, %v", ups, g.N, len(g.Arcs), err)
			continue
		}
		for i, arc := range g.Arcs {
			if tail, head, weight := i, int(h.Up[i].To), int(h.Up[i].Weight); arc.To != head || arc.Weight != weight || int(h.UpFirst[arc.From]) > tail || int(h.UpFirst[arc.From+1]) <= tail {
				t.Fatalf("Graph of %d links: the arc %d is %v", ups, i, arc)
			}
		}
	}
}

func TestP10_3Ranks(t *testing.T) {
	checkRanks(t, sample.Three(), []int{1, 0, 2}, nil)
	checkRanks(t, sample.Flat(0, 0, 0), nil, nil)
	for h := range sample.Hiers() {
		var want []int
		for v := range h.Node {
			want = append(want, slices.Index(h.Node, uint32(v)))
		}
		checkRanks(t, h, want, nil)
	}
	for _, w := range sample.WrongHiers() {
		checkRanks(t, w.Hier, nil, w.Err)
	}
}

// TestP10_3RanksOfThree: an order that is not the same the other way round.
func TestP10_3RanksOfThree(t *testing.T) {
	h := sample.Flat(3, 3, 1)
	h.Node = numbers{2, 0, 1}
	checkRanks(t, h, []int{1, 2, 0}, nil)
	checkGraph(t, h, sample.Graph(3, [3]int{0, 1, 2}, [3]int{0, 2, 0}, [3]int{2, 0, 1}, [3]int{2, 1, 2}), nil)
}

func TestP10_4Turn(t *testing.T) {
	checkTurn(t, sample.Three(), turnedThree(), nil)
	checkTurn(t, turnedThree(), sample.Three(), nil)
	checkTurn(t, sample.Flat(0, 0, 0), sample.Flat(0, 0, 0), nil)
	for _, w := range sample.WrongHiers() {
		checkTurn(t, w.Hier, api.Hier{}, w.Err)
	}
}

// turnedLinks: each link turned about, by the ends of what it stands for.
func turnedLinks(list []api.Link, h api.Hier) []api.Link {
	number := func(old uint32) uint32 {
		if int(old) < len(h.Up) {
			return old + uint32(len(h.Down))
		}
		return old - uint32(len(h.Up))
	}
	list = slices.Clone(list)
	for i, l := range list {
		if l.Left != api.NoLink {
			list[i].Left, list[i].Right = number(l.Right), number(l.Left)
		}
	}
	return list
}

func TestP10_4TurnAll(t *testing.T) {
	for h := range sample.Hiers() {
		checkTurn(t, h, api.Hier{Node: h.Node, UpFirst: h.DownFirst, Up: turnedLinks(h.Down, h), DownFirst: h.UpFirst, Down: turnedLinks(h.Up, h)}, nil)
		turned, _ := Turn(h)
		checkForm(t, "turned", turned, nil)
		checkTurn(t, turned, h, nil)
		g, err := Graph(h)
		back, err2 := normal.Reverse(g)
		want, err3 := normal.Of(back)
		if err := fault.First(err, err2, err3); err != nil {
			t.Errorf("the graph of %v turned about: %v", brief(h), err)
		}
		checkGraph(t, turned, want, nil)
	}
}

func TestP10_5Same(t *testing.T) {
	same := func(a, b api.Hier, want bool) {
		t.Helper()
		if Same(a, b) != want || Same(b, a) != want {
			t.Errorf("Same(%v, %v) is not %v", brief(a), brief(b), want)
		}
	}
	same(api.Hier{}, api.Hier{}, true)
	same(api.Hier{}, api.Hier{Node: numbers{}, UpFirst: numbers{}, Up: []api.Link{}, DownFirst: numbers{}, Down: []api.Link{}}, true)
	for h := range sample.Hiers() {
		same(h, sample.CopyHier(h), true)
		same(h, sample.RoomyHier(h), true)
	}
	for _, w := range sample.WrongHiers() {
		same(w.Hier, sample.CopyHier(w.Hier), true)
	}
	same(sample.Three(), turnedThree(), false)
	for _, other := range changedThrees() {
		same(sample.Three(), other, false)
		same(api.Hier{}, other, false)
	}
}

// changedThrees: the chapter's example with one number changed, or with one more or less, each in its turn.
func changedThrees() []api.Hier {
	var all []api.Hier
	add := func(change func(*api.Hier)) {
		h := sample.Three()
		change(&h)
		all = append(all, h)
	}
	lists := []func(*api.Hier) *numbers{
		func(h *api.Hier) *numbers { return &h.Node },
		func(h *api.Hier) *numbers { return &h.UpFirst },
		func(h *api.Hier) *numbers { return &h.DownFirst },
	}
	for _, list := range lists {
		for i := range 3 {
			add(func(h *api.Hier) { (*list(h))[i]++ })
		}
		add(func(h *api.Hier) { *list(h) = (*list(h))[:2] })
		add(func(h *api.Hier) { *list(h) = nil })
		add(func(h *api.Hier) { *list(h) = append(*list(h), 0) })
	}
	for _, change := range []func(*api.Link){
		func(l *api.Link) { l.To++ },
		func(l *api.Link) { l.Weight++ },
		func(l *api.Link) { l.Left++ },
		func(l *api.Link) { l.Right++ },
	} {
		add(func(h *api.Hier) { change(&h.Up[0]) })
		add(func(h *api.Hier) { change(&h.Up[1]) })
		add(func(h *api.Hier) { change(&h.Down[0]) })
	}
	add(func(h *api.Hier) { h.Up = h.Up[:1] })
	add(func(h *api.Hier) { h.Down = nil })
	add(func(h *api.Hier) { h.Up = append(h.Up, api.Link{}) })
	add(func(h *api.Hier) { h.Down = append(h.Down, api.Link{}) })
	return all
}

// TestP10_6Middle: whatever Check lets through, the middle of a shortcut lies below both its ends, and links one after the other lead from the one to the other.
func TestP10_6Middle(t *testing.T) {
	dice := sample.Dice{Seed: 106}
	shortcuts := 0
	for h := range sample.Hiers() {
		for changes := range 40 {
			h := spoilt(h, changes%3, &dice)
			if Check(h) == nil {
				shortcuts += checkMiddles(t, h)
			}
		}
	}
	if shortcuts < 1000 {
		t.Errorf("only %d shortcuts", shortcuts)
	}
}

// checkMiddles asks all shortcuts of a hierarchy, and tells how many they are.
func checkMiddles(t *testing.T, h api.Hier) int {
	t.Helper()
	shortcuts := 0
	for i := range len(h.Up) + len(h.Down) {
		l, rank, _ := link(h, i)
		if l.Left == api.NoLink && l.Right == api.NoLink {
			continue
		}
		shortcuts++
		tail, head := ends(h, i)
		leftTail, middle := ends(h, int(l.Left))
		middleToo, rightHead := ends(h, int(l.Right))
		_, leftRank, _ := link(h, int(l.Left))
		_, rightRank, _ := link(h, int(l.Right))
		if leftTail != tail || rightHead != head || middle != middleToo || middle >= min(tail, head) || max(leftRank, rightRank) >= rank {
			t.Errorf("the link %d of %v, from %d to %d, has the middle %d", i, brief(h), tail, head, middle)
		}
	}
	return shortcuts
}

// TestP2Memory: what is handed in stays as it is, spare room too, and answers are new memory.
func TestP2Memory(t *testing.T) {
	for h := range sample.Hiers() {
		roomy := sample.RoomyHier(h)
		before := sample.RoomOfHier(roomy)
		Check(roomy)
		Ends(roomy, 0)
		Same(roomy, roomy)
		ranks, _ := Ranks(roomy)
		again, _ := Ranks(roomy)
		g, _ := Graph(roomy)
		same, _ := Graph(roomy)
		turned, _ := Turn(roomy)
		twice, _ := Turn(roomy)
		sample.SpoilList(ranks, -7)
		sample.Spoil(g.Arcs)
		sample.SpoilHier(turned)
		if !sample.SameHier(sample.RoomOfHier(roomy), before) {
			t.Fatalf("a hierarchy has changed: %v", brief(roomy))
		}
		sample.SpoilHier(roomy)
		checkRanks(t, h, again, nil)
		checkGraph(t, h, same, nil)
		checkTurn(t, h, twice, nil)
	}
}

// TestP2MemoryOfTurn: the lists of one answer share no memory.
func TestP2MemoryOfTurn(t *testing.T) {
	for h := range sample.Hiers() {
		want, _ := Turn(h)
		if turned, _ := Turn(h); !sample.ListsApart(turned) {
			t.Errorf("Turn(%v): two lists have memory in common", brief(h))
		}
		checkTurn(t, h, want, nil)
	}
}

// TestP2WrongMemory: what is wrong stays as it is, too.
func TestP2WrongMemory(t *testing.T) {
	for _, w := range sample.WrongHiers() {
		roomy := sample.RoomyHier(w.Hier)
		before := sample.RoomOfHier(roomy)
		checkForm(t, w.Name, roomy, w.Err)
		Turn(roomy)
		Graph(roomy)
		if !sample.SameHier(sample.RoomOfHier(roomy), before) {
			t.Errorf("%s: the hierarchy has changed", w.Name)
		}
	}
}
