package nav

import (
	"bytes"
	"fmt"
	"math"
	"slices"
	"testing"

	"viaduct/api"
	"viaduct/build"
	"viaduct/fault"
	"viaduct/gtext"
	"viaduct/image"
	"viaduct/sample"
)

type ints = []int

const far = api.Unreached

// whole: the text of the document's ten examples.
const whole = "graph 4 5\narc 0 1 4\narc 1 2 1\narc 0 2 9\narc 2 3 2\narc 2 2 7\nend\n"

// ages: the first one, some ahead of the last, the last.
func ages() []uint32 {
	return []uint32{0, 1, 77, math.MaxUint32 - 2, math.MaxUint32 - 1, math.MaxUint32}
}

// brief: what a failure tells of a thing, which may have a million links.
func brief(thing any) string {
	text := fmt.Sprint(thing)
	return text[:min(len(text), 300)]
}

func nodeAt(k int) error {
	return fault.At(api.AtNode, k, api.ErrNode)
}

func mustCompile(t *testing.T, text string, opts api.Options) []byte {
	t.Helper()
	x, err := New(0).Compile(text, opts)
	if err != nil {
		t.Fatalf("Compile(%s, %v): %v", brief(text), opts, err)
	}
	return x
}

func mustEncode(t *testing.T, h api.Hier) []byte {
	t.Helper()
	x, err := image.Encode(h)
	if err != nil {
		t.Fatalf("Encode(%s): %v", brief(h), err)
	}
	return x
}

func textOf(t *testing.T, g api.Graph) string {
	t.Helper()
	text, err := gtext.Print(g)
	if err != nil {
		t.Fatal(err)
	}
	return text
}

func imageOf(t *testing.T, g api.Graph, opts api.Options) []byte {
	t.Helper()
	return mustCompile(t, textOf(t, g), opts)
}

func checkLoad(t *testing.T, n *Nav, x []byte, want int, wantErr error) {
	t.Helper()
	if handle, err := n.Load(x); handle != want || !sample.SameError(err, wantErr) {
		t.Errorf("Load(%s): %d, %v, wanted %d, %v", brief(x), handle, err, want, wantErr)
	}
}

func checkDrop(t *testing.T, n *Nav, handle int, want error) {
	t.Helper()
	if err := n.Drop(handle); !sample.SameError(err, want) {
		t.Errorf("Drop(%d): %v, wanted %v", handle, err, want)
	}
}

func checkLive(t *testing.T, n *Nav, want ...int) {
	t.Helper()
	if live := n.Live(); !slices.Equal(live, want) {
		t.Errorf("Live: %v, wanted %v", live, want)
	}
}

func checkGraph(t *testing.T, n *Nav, handle int, want api.Graph, wantErr error) {
	t.Helper()
	if g, err := n.Graph(handle); !sample.SameGraph(g, want) || !sample.SameError(err, wantErr) {
		t.Errorf("Graph(%d): %s, %v, wanted %s, %v", handle, brief(g), err, brief(want), wantErr)
	}
}

func checkDistance(t *testing.T, n *Nav, handle, s, v int, want uint64, wantErr error) {
	t.Helper()
	if dist, err := n.Distance(handle, s, v); dist != want || !sample.SameError(err, wantErr) {
		t.Errorf("Distance(%d, %d, %d): %d, %v, wanted %d, %v", handle, s, v, dist, err, want, wantErr)
	}
}

func checkPath(t *testing.T, n *Nav, handle, s, v int, want ints, wantErr error) {
	t.Helper()
	if path, err := n.Path(handle, s, v); !slices.Equal(path, want) || !sample.SameError(err, wantErr) {
		t.Errorf("Path(%d, %d, %d): %v, %v, wanted %v, %v", handle, s, v, path, err, want, wantErr)
	}
}

func checkTable(t *testing.T, n *Nav, handle int, rows, columns ints, want [][]uint64, wantErr error) {
	t.Helper()
	if table, err := n.Table(handle, rows, columns); !slices.EqualFunc(table, want, slices.Equal) || !sample.SameError(err, wantErr) {
		t.Errorf("Table(%d, %s, %s): %s, %v, wanted %s, %v", handle, brief(rows), brief(columns), brief(table), err, brief(want), wantErr)
	}
}

func checkNearest(t *testing.T, n *Nav, handle, s int, columns ints, want int, wantDist uint64, wantErr error) {
	t.Helper()
	if place, dist, err := n.Nearest(handle, s, columns); place != want || dist != wantDist || !sample.SameError(err, wantErr) {
		t.Errorf("Nearest(%d, %d, %v): %d, %d, %v, wanted %d, %d, %v", handle, s, columns, place, dist, err, want, wantDist, wantErr)
	}
}

// checkNothing: every question to a handle, and its drop, is refused so.
func checkNothing(t *testing.T, n *Nav, handle int, want error) {
	t.Helper()
	checkDrop(t, n, handle, want)
	checkGraph(t, n, handle, api.Graph{}, want)
	for _, v := range []int{0, 3, 4, -1, math.MaxInt, math.MinInt} {
		checkDistance(t, n, handle, v, 0, 0, want)
		checkPath(t, n, handle, 0, v, nil, want)
		checkTable(t, n, handle, ints{v}, ints{0, v}, nil, want)
		checkNearest(t, n, handle, v, ints{0, v}, 0, 0, want)
	}
	checkTable(t, n, handle, nil, nil, nil, want)
	checkNearest(t, n, handle, 0, nil, 0, 0, want)
}

func TestP25_1Examples(t *testing.T) {
	x := mustCompile(t, whole, sample.Options()[1])
	for _, age := range ages() {
		n := New(age)
		checkLive(t, n)
		checkDistance(t, n, 1, 0, 0, 0, api.ErrHandle)
		checkLoad(t, n, x, 1, nil)
		checkLoad(t, n, x, 2, nil)
		checkDrop(t, n, 1, nil)
		checkDrop(t, n, 1, api.ErrHandle)
		checkLoad(t, n, x, 3, nil)
		checkLive(t, n, 2, 3)
		checkLoad(t, n, x[:40], 0, fault.At(api.AtByte, 40, api.ErrShort))
		checkLoad(t, n, nil, 0, fault.At(api.AtByte, 0, api.ErrShort))
		checkLive(t, n, 2, 3)
		checkLoad(t, n, x, 4, nil)
		checkLive(t, n, 2, 3, 4)
	}
}

func TestP25_2Examples(t *testing.T) {
	for i, opts := range sample.Options() {
		n := New(ages()[i%6])
		checkLoad(t, n, mustCompile(t, whole, opts), 1, nil)
		for range 3 {
			for v, dist := range []uint64{0, 4, 5, 7} {
				checkDistance(t, n, 1, 0, v, dist, nil)
			}
			for v := range 3 {
				checkDistance(t, n, 1, 3, v, 0, api.ErrNoWalk)
			}
			checkDistance(t, n, 1, 3, 3, 0, nil)
			checkPath(t, n, 1, 0, 3, ints{0, 1, 2, 3}, nil)
			checkPath(t, n, 1, 3, 0, nil, api.ErrNoWalk)
			checkPath(t, n, 1, 2, 2, ints{2}, nil)
			checkTable(t, n, 1, ints{0, 3}, ints{3, 0}, [][]uint64{{7, 0}, {0, far}}, nil)
			checkNearest(t, n, 1, 0, ints{3, 2, 1, 1}, 2, 4, nil)
		}
	}
}

// A nil service: ErrNil, whatever else applies.
func TestErrNil(t *testing.T) {
	var n *Nav
	x := mustCompile(t, whole, api.Options{})
	for _, bytes := range [][]byte{nil, {}, x, x[:7]} {
		checkLoad(t, n, bytes, 0, api.ErrNil)
	}
	for _, text := range []string{"", "graf", whole} {
		if made, err := n.Compile(text, api.Options{Hops: 5}); len(made) > 0 || !sample.SameError(err, api.ErrNil) {
			t.Errorf("Compile(%q): %v, %v", text, made, err)
		}
	}
	checkLive(t, n)
	for _, handle := range []int{0, 1, -1, math.MaxInt} {
		checkNothing(t, n, handle, api.ErrNil)
	}
}

// A service that New didn't make is one without handles too.
func TestZeroNav(t *testing.T) {
	n := &Nav{}
	checkLive(t, n)
	checkNothing(t, n, 0, api.ErrHandle)
	checkNothing(t, n, 1, api.ErrHandle)
	x := mustCompile(t, whole, api.Options{})
	checkLoad(t, n, x[:7], 0, fault.At(api.AtByte, 7, api.ErrShort))
	checkLoad(t, n, x, 1, nil)
	checkLive(t, n, 1)
	checkDistance(t, n, 1, 0, 3, 7, nil)
}

// ErrHandle comes ahead of what is wrong with the question.
func TestErrHandle(t *testing.T) {
	x := mustCompile(t, whole, sample.Options()[1])
	n := New(math.MaxUint32)
	for range 3 {
		n.Load(x)
	}
	n.Drop(2)
	for _, handle := range []int{2, 0, -1, 4, 5, 1 << 32, 1<<32 + 1, math.MaxInt, math.MinInt} {
		checkNothing(t, n, handle, api.ErrHandle)
	}
	checkLive(t, n, 1, 3)
	checkLoad(t, n, x, 4, nil)
}

func TestErrorsOfQuestions(t *testing.T) {
	n := New(5)
	checkLoad(t, n, mustCompile(t, whole, sample.Options()[1]), 1, nil)
	for _, wrong := range []int{4, -1, math.MaxInt, math.MinInt, 1 << 32} {
		checkDistance(t, n, 1, wrong, 0, 0, nodeAt(0))
		checkDistance(t, n, 1, 0, wrong, 0, nodeAt(1))
		checkDistance(t, n, 1, wrong, wrong, 0, nodeAt(0))
		checkPath(t, n, 1, wrong, 0, nil, nodeAt(0))
		checkPath(t, n, 1, 0, wrong, nil, nodeAt(1))
		checkPath(t, n, 1, wrong, wrong, nil, nodeAt(0))
		checkTable(t, n, 1, ints{0, wrong}, ints{wrong}, nil, nodeAt(1))
		checkTable(t, n, 1, ints{0, 1}, ints{2, wrong}, nil, nodeAt(3))
		checkTable(t, n, 1, nil, ints{wrong}, nil, nodeAt(0))
		checkNearest(t, n, 1, wrong, ints{wrong}, 0, 0, nodeAt(0))
		checkNearest(t, n, 1, 0, ints{1, wrong}, 0, 0, nodeAt(2))
	}
	checkTable(t, n, 1, nil, nil, nil, nil)
	checkTable(t, n, 1, ints{0, 1}, nil, [][]uint64{{}, {}}, nil)
	checkNearest(t, n, 1, 3, ints{0, 1, 2}, 0, 0, api.ErrNoWalk)
	checkNearest(t, n, 1, 0, nil, 0, 0, api.ErrNoWalk)
	checkNearest(t, n, 1, 3, ints{0, 3, 3}, 1, 0, nil)
	checkLive(t, n, 1)
}

func TestLimitsOfTables(t *testing.T) {
	n := New(0)
	checkLoad(t, n, mustCompile(t, "graph 1 0\nend", api.Options{}), 1, nil)
	want := slices.Repeat([][]uint64{make([]uint64, 1024)}, 1024)
	checkTable(t, n, 1, make(ints, 1024), make(ints, 1024), want, nil)
	checkTable(t, n, 1, make(ints, 1024), make(ints, 1025), nil, api.ErrLimit)
	checkTable(t, n, 1, ints{7}, make(ints, api.MaxTable+1), nil, api.ErrLimit)
	checkTable(t, n, 2, make(ints, 1024), make(ints, 1025), nil, api.ErrHandle)
}

// fill loads the image till there is no more room.
func fill(t *testing.T, n *Nav, x []byte) {
	t.Helper()
	for i := range api.MaxHandles {
		checkLoad(t, n, x, i+1, nil)
	}
}

func TestErrFull(t *testing.T) {
	x := mustCompile(t, whole, sample.Options()[1])
	n := New(7)
	fill(t, n, x)
	live := n.Live()
	for range 3 {
		checkLoad(t, n, x, 0, api.ErrFull)
	}
	// The bytes' own error comes ahead of it.
	checkLoad(t, n, x[:40], 0, fault.At(api.AtByte, 40, api.ErrShort))
	checkLive(t, n, live...)
	for _, handle := range live {
		checkDistance(t, n, handle, 0, 3, 7, nil)
	}
	checkNothing(t, n, api.MaxHandles+1, api.ErrHandle)
	checkDrop(t, n, 5, nil)
	checkLoad(t, n, x, api.MaxHandles+1, nil)
	checkLoad(t, n, x, 0, api.ErrFull)
	checkLive(t, n, append(slices.Delete(live, 4, 5), api.MaxHandles+1)...)
}

// However many have gone, a handle isn't given twice.
func TestP25_1NoneTwice(t *testing.T) {
	x := mustCompile(t, whole, api.Options{})
	n := New(0)
	for i := range 1000 {
		checkLoad(t, n, x, i+1, nil)
		checkLive(t, n, i+1)
		checkDrop(t, n, i+1, nil)
		checkLive(t, n)
	}
	fillFrom := 1000
	for i := range api.MaxHandles {
		checkLoad(t, n, x, fillFrom+i+1, nil)
	}
	checkLoad(t, n, x, 0, api.ErrFull)
}

// A service has its own handles.
func TestServicesApart(t *testing.T) {
	x := mustCompile(t, whole, api.Options{})
	a, b := New(0), New(0)
	fill(t, a, x)
	checkLive(t, b)
	checkNothing(t, b, 1, api.ErrHandle)
	checkLoad(t, b, x, 1, nil)
	checkDrop(t, b, 1, nil)
	checkDistance(t, a, 1, 0, 3, 7, nil)
}

// Compile is build.Compile, gives no handle and needs no room.
func TestP25_2Compile(t *testing.T) {
	n := New(3)
	fill(t, n, mustCompile(t, whole, api.Options{}))
	dice := sample.Dice{Seed: 251}
	texts := []string{whole, "", "graf", "graph 1 0", "graph 2 1\narc 0 2 x\nend", "graph 2 1\nend", "graph 1 0\nend\nend", "x\ny\x7fz"}
	for range 30 {
		nodes := 1 + dice.Below(12)
		texts = append(texts, textOf(t, dice.Graph(nodes, dice.Below(4*nodes), 20)))
	}
	for _, text := range texts {
		for _, opts := range sample.Options() {
			want, wantErr := build.Compile(text, opts)
			if x, err := n.Compile(text, opts); !bytes.Equal(x, want) || !sample.SameError(err, wantErr) {
				t.Errorf("Compile(%q, %v): %v, %v, wanted %v, %v", text, opts, x, err, want, wantErr)
			}
		}
	}
	if len(n.Live()) != api.MaxHandles {
		t.Errorf("Live: %v", n.Live())
	}
}

// More links than there may be: nothing is compiled.
func TestP25_2CompileLimit(t *testing.T) {
	g := api.Graph{N: 2 * 1025}
	for i := range 1024 {
		g.Arcs = append(g.Arcs, api.Arc{From: 1 + i, To: 0, Weight: 1}, api.Arc{From: 0, To: 1025 + i, Weight: 2})
	}
	if x, err := New(0).Compile(textOf(t, g), api.Options{Edge: -1}); len(x) > 0 || !sample.SameError(err, api.ErrLimit) {
		t.Errorf("%d bytes, %v", len(x), err)
	}
}
