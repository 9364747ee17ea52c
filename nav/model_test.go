package nav

import (
	"bytes"
	"encoding/binary"
	"hash/crc32"
	"math"
	"slices"
	"testing"

	"viaduct/api"
	"viaduct/build"
	"viaduct/fault"
	"viaduct/hier"
	"viaduct/sample"
)

// kept is what stands behind a handle in the model: a graph and its distances, told in the plainest way.
type kept struct {
	graph  api.Graph
	far    [][]uint64
	image  []byte
	normal api.Graph // what Graph must answer
}

func keptOf(t *testing.T, g api.Graph, x []byte) kept {
	t.Helper()
	h, err := build.Load(x)
	if err != nil {
		t.Fatal(err)
	}
	normal, err := hier.Graph(h)
	if err != nil {
		t.Fatal(err)
	}
	return kept{graph: g, far: sample.Distances(g), image: x, normal: normal}
}

// model is a plain map from handles to graphs.
type model struct {
	handles map[int]kept
	last    int
}

func (m model) live() []int {
	var live []int
	for handle := range m.last + 1 {
		if _, there := m.handles[handle]; there {
			live = append(live, handle)
		}
	}
	return live
}

// nodeError: that of the first number that is no node of n; nil, if there is none.
func nodeError(n int, nodes ...int) error {
	for i, v := range nodes {
		if v < 0 || v >= n {
			return nodeAt(i)
		}
	}
	return nil
}

// wantDistance: the distance and the error that Distance and Path have.
func (k kept) wantDistance(s, v int) (uint64, error) {
	if err := nodeError(k.graph.N, s, v); err != nil {
		return 0, err
	}
	if k.far[s][v] == far {
		return 0, api.ErrNoWalk
	}
	return k.far[s][v], nil
}

func (k kept) wantTable(rows, columns ints) ([][]uint64, error) {
	if err := nodeError(k.graph.N, slices.Concat(rows, columns)...); err != nil {
		return nil, err
	}
	var table [][]uint64
	for _, s := range rows {
		var row []uint64
		for _, v := range columns {
			row = append(row, k.far[s][v])
		}
		table = append(table, row)
	}
	return table, nil
}

func (k kept) wantNearest(s int, columns ints) (int, uint64, error) {
	if err := nodeError(k.graph.N, slices.Concat(ints{s}, columns)...); err != nil {
		return 0, 0, err
	}
	place, least := 0, far
	for j, v := range columns {
		if k.far[s][v] < least {
			place, least = j, k.far[s][v]
		}
	}
	if least == far {
		return 0, 0, api.ErrNoWalk
	}
	return place, least, nil
}

// checkWalked (P4): a path from s to v without a node twice, as long in the graph as it is far.
func (k kept) checkWalked(t *testing.T, path ints, s, v int) {
	t.Helper()
	if len(path) == 0 || path[0] != s || path[len(path)-1] != v {
		t.Errorf("from %d to %d: %v", s, v, path)
		return
	}
	length := uint64(0)
	for i, to := range path[1:] {
		cheapest := math.MaxInt
		for _, arc := range k.graph.Arcs {
			if arc.From == path[i] && arc.To == to {
				cheapest = min(cheapest, arc.Weight)
			}
		}
		length += uint64(cheapest)
	}
	sorted := slices.Sorted(slices.Values(path))
	if length != k.far[s][v] || len(slices.Compact(sorted)) < len(path) {
		t.Errorf("%s: from %d to %d: %v, of the length %d, wanted %d", brief(k.graph), s, v, path, length, k.far[s][v])
	}
}

// checkQuestion: any question to a handle, held against the model.
func (k kept) checkQuestion(t *testing.T, n *Nav, handle int, dice *sample.Dice) {
	t.Helper()
	node := func() int { return dice.Below(k.graph.N+2) - dice.Below(2) }
	nodes := func() ints {
		list := make(ints, dice.Below(5))
		for i := range list {
			list[i] = dice.Below(max(1, k.graph.N))
			if dice.Below(15) == 0 {
				list[i] = node()
			}
		}
		return list
	}
	s, v, rows, columns := node(), node(), nodes(), nodes()
	switch dice.Below(5) {
	case 0:
		checkGraph(t, n, handle, k.normal, nil)
	case 1:
		want, err := k.wantDistance(s, v)
		checkDistance(t, n, handle, s, v, want, err)
	case 2:
		path, err := n.Path(handle, s, v)
		if _, want := k.wantDistance(s, v); !sample.SameError(err, want) || err != nil && len(path) > 0 {
			t.Errorf("from %d to %d: %v, %v, wanted %v", s, v, path, err, want)
		}
		if err == nil {
			k.checkWalked(t, path, s, v)
			k.checkSamePath(t, path, s, v)
		}
	case 3:
		want, err := k.wantTable(rows, columns)
		checkTable(t, n, handle, rows, columns, want, err)
	case 4:
		want, dist, err := k.wantNearest(s, columns)
		checkNearest(t, n, handle, s, columns, want, dist, err)
	}
}

// checkSamePath (P25.3): it is the path that a new service answers, which has nothing but this image.
func (k kept) checkSamePath(t *testing.T, path ints, s, v int) {
	t.Helper()
	n := New(0)
	checkLoad(t, n, k.image, 1, nil)
	checkPath(t, n, 1, s, v, path, nil)
}

// pool: graphs of many kinds with images of theirs.
func pool(t *testing.T, dice *sample.Dice, count int) []kept {
	t.Helper()
	var all []kept
	for i := range count {
		nodes := dice.Below(14)
		g := api.Graph{N: nodes}
		if nodes > 0 {
			g = dice.Graph(nodes, dice.Below(4*nodes), []int{0, 1, 30, api.MaxWeight}[dice.Below(4)])
		}
		all = append(all, keptOf(t, g, imageOf(t, g, sample.Options()[i%7])))
	}
	return all
}

// Sessions of any calls, of all ages: what is answered is what the model has.
func TestP9Model(t *testing.T) {
	dice := sample.Dice{Seed: 252}
	counts := map[api.Errno]int{}
	for session := range 60 {
		all := pool(t, &dice, 12)
		n, m := New(ages()[session%6]), model{handles: map[int]kept{}}
		drops := 2 + dice.Below(30) // the more seldom, the sooner there is no more room
		for range 300 {
			some := all[dice.Below(len(all))]
			handle := 1 + dice.Below(m.last+2) - dice.Below(2)
			k, there := m.handles[handle]
			switch kind := dice.Below(40); {
			case kind < 20:
				x := some.image
				_, want := build.Load(x)
				if dice.Below(4) == 0 {
					x = sample.Turned(x, dice.Below(8*len(x)), uint32(dice.Below(1<<32))|1)
					_, want = build.Load(x)
				}
				if want == nil && len(m.handles) == api.MaxHandles {
					want = api.ErrFull
				}
				counts[fault.Code(want)]++
				if want != nil {
					checkLoad(t, n, x, 0, want)
					break
				}
				m.last++
				m.handles[m.last] = some
				checkLoad(t, n, x, m.last, nil)
			case kind >= 40-40/drops && there:
				delete(m.handles, handle)
				checkDrop(t, n, handle, nil)
			case !there:
				counts[api.ErrHandle]++
				checkNothing(t, n, handle, api.ErrHandle)
			default:
				k.checkQuestion(t, n, handle, &dice)
			}
			checkLive(t, n, m.live()...)
		}
		for handle, k := range m.handles {
			for range 20 {
				k.checkQuestion(t, n, handle, &dice)
			}
		}
	}
	for _, e := range []api.Errno{0, api.ErrSum, api.ErrFull, api.ErrHandle} {
		if counts[e] < 100 {
			t.Errorf("only %d of %v", counts[e], e)
		}
	}
}

// P25.3: of two handles the questions to one make no difference to the other, whichever is the greater.
func TestP25_3HandlesApart(t *testing.T) {
	dice := sample.Dice{Seed: 253}
	for _, age := range ages() {
		all := pool(t, &dice, 20)
		n := New(age)
		for i, k := range all {
			checkLoad(t, n, k.image, i+1, nil)
		}
		for range 2000 {
			i := dice.Below(len(all))
			all[i].checkQuestion(t, n, i+1, &dice)
		}
	}
}

// P3, P4, P5 and P8 by way of the service: all pairs of small graphs.
func TestP3P4P5SmallGraphs(t *testing.T) {
	dice, i := sample.Dice{Seed: 254}, 0
	for g := range sample.Some() {
		i++
		if g.N < 4 && dice.Below(10) > 0 {
			continue // of the many small ones every tenth
		}
		x := imageOf(t, g, sample.Options()[i%7])
		n, k := New(ages()[i%6]), keptOf(t, g, x)
		checkLoad(t, n, x, 1, nil)
		for s := range g.N {
			for v := range g.N {
				want, err := k.wantDistance(s, v)
				checkDistance(t, n, 1, s, v, want, err)
				path, pathErr := n.Path(1, s, v)
				if !sample.SameError(pathErr, err) {
					t.Fatalf("%s: from %d to %d: %v, %v, wanted %v", brief(g), s, v, path, pathErr, err)
				}
				if err == nil {
					k.checkWalked(t, path, s, v)
				}
			}
		}
		everything := make(ints, g.N)
		for v := range everything {
			everything[v] = v
		}
		checkTable(t, n, 1, everything, everything, k.far, nil)
	}
}

// P6: bits that lie within 32 neighbouring ones, cuts and extras: refused, and no handle is used up.
func TestP6NothingFalse(t *testing.T) {
	dice := sample.Dice{Seed: 255}
	n := New(1)
	for _, k := range pool(t, &dice, 8) {
		x := k.image
		for i := range 8 * len(x) {
			for _, bits := range []uint32{1, uint32(dice.Below(1<<32)) | 1} {
				if handle, err := n.Load(sample.Turned(x, i, bits)); handle != 0 || err == nil {
					t.Fatalf("the bits %x from %d on: %d, %v", bits, i, handle, err)
				}
			}
		}
		for count := range x {
			checkLoad(t, n, x[:count], 0, fault.At(api.AtByte, count, api.ErrShort))
		}
		checkLoad(t, n, append(bytes.Clone(x), 0), 0, fault.At(api.AtByte, len(x), api.ErrExtra))
	}
	checkLive(t, n)
	checkLoad(t, n, mustEncode(t, sample.Three()), 1, nil)
}

// Hierarchies in form, by whomever they were made: loaded just if they are true, refused at their first false rank.
func TestP6LooseImages(t *testing.T) {
	n, next, refused := New(9), 1, 0
	for h := range sample.LooseHiers(256, 1200, 9) {
		x := mustEncode(t, h)
		if rank := sample.FirstFalse(h); rank >= 0 {
			refused++
			checkLoad(t, n, x, 0, fault.At(api.AtNode, rank, api.ErrFalse))
			continue
		}
		checkLoad(t, n, x, next, nil)
		k := keptOf(t, sample.Graph(0), x)
		k.graph, k.far = k.normal, sample.Distances(k.normal)
		for s := range k.graph.N {
			for v := range k.graph.N {
				want, err := k.wantDistance(s, v)
				checkDistance(t, n, next, s, v, want, err)
			}
		}
		checkGraph(t, n, next, k.normal, nil)
		checkDrop(t, n, next, nil)
		next++
	}
	if refused < 100 || next < 100 {
		t.Errorf("%d are refused, %d loaded", refused, next-1)
	}
}

// Bytes with another number in them and a sum that fits: the same as build.Load says.
func TestP6SealedAnew(t *testing.T) {
	dice := sample.Dice{Seed: 257}
	n, next := New(9), 1
	for _, k := range pool(t, &dice, 10) {
		for at := 0; at+4 < len(k.image); at += 4 {
			x := bytes.Clone(k.image)
			x[at+dice.Below(2)] ^= byte(1 + dice.Below(3))
			x = binary.LittleEndian.AppendUint32(x[:len(x)-4], crc32.ChecksumIEEE(x[:len(x)-4]))
			if _, err := build.Load(x); err != nil {
				checkLoad(t, n, x, 0, err)
				continue
			}
			checkLoad(t, n, x, next, nil)
			checkDrop(t, n, next, nil)
			next++
		}
	}
}

// The greatest images: as many nodes as may be, and more plain links than a graph may have arcs.
func TestGreatestImages(t *testing.T) {
	const half = api.MaxLinks / 2
	n := New(math.MaxUint32)
	checkLoad(t, n, mustEncode(t, sample.Chain(api.MaxNodes, api.MaxWeight)), 1, nil)
	checkLoad(t, n, mustEncode(t, sample.Flat(1024, half, half)), 2, nil)
	const last = api.MaxNodes - 1
	checkDistance(t, n, 1, 0, last, last*api.MaxWeight, nil)
	checkDistance(t, n, 1, last, 0, last*api.MaxWeight, nil)
	checkDistance(t, n, 1, 0, last+1, 0, nodeAt(1))
	checkNearest(t, n, 1, 0, ints{last, 7}, 1, 7*api.MaxWeight, nil)
	checkTable(t, n, 1, ints{last, 0}, ints{0}, [][]uint64{{last * api.MaxWeight}, {0}}, nil)
	if path, err := n.Path(1, 0, last); len(path) != api.MaxNodes || err != nil {
		t.Errorf("a path of %d nodes, %v", len(path), err)
	}
	if g, err := n.Graph(2); g.N != 1024 || len(g.Arcs) != 1024*1023 || err != nil {
		t.Errorf("a graph of %d nodes and %d arcs, %v", g.N, len(g.Arcs), err)
	}
	checkDistance(t, n, 2, 0, 1023, 1023, nil)
	checkDistance(t, n, 2, 1023, 0, 0, nil)
}
