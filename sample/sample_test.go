package sample

import (
	"errors"
	"slices"
	"testing"

	"viaduct/api"
	"viaduct/csr"
	"viaduct/fault"
	"viaduct/gtext"
)

func TestSameError(t *testing.T) {
	three := fault.At(api.AtLine, 3, api.ErrNumber)
	for _, c := range []struct {
		a, b error
		same bool
	}{
		{nil, nil, true},
		{nil, errors.New("x"), false},
		{three, fault.At(api.AtLine, 3, api.ErrNumber), true},
		{three, fault.At(api.AtLine, 4, api.ErrNumber), false},
		{three, fault.At(api.AtLine, 3, api.ErrWord), false},
		{three, api.ErrNumber, false},
	} {
		if SameError(c.a, c.b) != c.same || SameError(c.b, c.a) != c.same {
			t.Errorf("SameError(%v, %v) is not %v", c.a, c.b, c.same)
		}
	}
}

func TestAll(t *testing.T) {
	count := 0
	for g := range All(2, 3, 0, 5) {
		count++
		if g.N != 2 || len(g.Arcs) > 3 {
			t.Errorf("a graph %v", g)
		}
	}
	if count != 1+8+64+512 {
		t.Errorf("%d graphs", count)
	}
	for g := range All(0, 3, 0, 5) {
		if !SameGraph(g, api.Graph{}) {
			t.Errorf("a graph without nodes: %v", g)
		}
	}
	for range All(2, 3, 0, 5) {
		count++
		if count == 600 {
			break
		}
	}
}

// withRoom: a list and the odd elements behind it that make it roomy.
func withRoom[T any](odd T, list ...T) []T {
	return append(list, slices.Repeat([]T{odd}, spareRoom)...)
}

func TestRoomy(t *testing.T) {
	g := Roomy(Graph(2, [3]int{0, 1, 5}))
	odd := api.Arc{From: -7, To: -7, Weight: -7}
	if want := withRoom(odd, api.Arc{From: 0, To: 1, Weight: 5}); !slices.Equal(Room(g), want) || len(g.Arcs) != 1 {
		t.Errorf("Roomy: %v", Room(g))
	}
	Spoil(g.Arcs)
	if !slices.Equal(Room(g), withRoom(odd, odd)) {
		t.Errorf("Spoil: %v", Room(g))
	}
}

func TestDistances(t *testing.T) {
	far := Distances(Graph(4, [3]int{0, 1, 4}, [3]int{1, 2, 1}, [3]int{0, 2, 9}, [3]int{2, 3, 2}, [3]int{2, 2, 7}))
	none := api.Unreached
	want := [][]uint64{{0, 4, 5, 7}, {none, 0, 1, 3}, {none, none, 0, 2}, {none, none, none, 0}}
	if !slices.EqualFunc(far, want, slices.Equal) {
		t.Errorf("Distances: %v", far)
	}
}

func TestDice(t *testing.T) {
	a, b := Dice{Seed: 3}, Dice{Seed: 3}
	g := a.Graph(5, 100, 6)
	if !SameGraph(g, b.Graph(5, 100, 6)) || len(g.Arcs) != 100 {
		t.Error("the same seed gives other graphs")
	}
	seen := map[int]bool{}
	for _, arc := range g.Arcs {
		if min(arc.From, arc.To, arc.Weight) < 0 || max(arc.From, arc.To) > 4 {
			t.Errorf("an arc %v", arc)
		}
		seen[arc.Weight] = true
	}
	if len(seen) != 7 {
		t.Errorf("the weights are %v", seen)
	}
}

func TestBytes(t *testing.T) {
	a, b := Dice{Seed: 3}, Dice{Seed: 3}
	list := a.Bytes(5000)
	if !slices.Equal(list, b.Bytes(5000)) || len(a.Bytes(0)) != 0 {
		t.Error("the same seed gives other bytes")
	}
	seen := map[byte]bool{}
	for _, v := range list {
		seen[v] = true
	}
	if len(list) != 5000 || len(seen) != 256 {
		t.Errorf("%d bytes, %d of them unlike", len(list), len(seen))
	}
}

func TestTurned(t *testing.T) {
	p := []byte{0, 0xff, 0, 0, 0, 0}
	for _, c := range []struct {
		i    int
		bits uint32
		want []byte
	}{
		{0, 0, []byte{0, 0xff, 0, 0, 0, 0}},
		{0, 1, []byte{1, 0xff, 0, 0, 0, 0}},
		{7, 3, []byte{0x80, 0xfe, 0, 0, 0, 0}},
		{4, 0x80000001, []byte{0x10, 0xff, 0, 0, 0x08, 0}},
		{47, 0xffffffff, []byte{0, 0xff, 0, 0, 0, 0x80}},
		{48, 0xffffffff, []byte{0, 0xff, 0, 0, 0, 0}},
	} {
		if q := Turned(p, c.i, c.bits); !slices.Equal(q, c.want) || p[1] != 0xff {
			t.Errorf("Turned(% x, %d, %08x): % x", p, c.i, c.bits, q)
		}
	}
}

func TestRoomyList(t *testing.T) {
	list := []uint32{1, 2}
	roomy := RoomyList(list, 9)
	if !slices.Equal(RoomOf(roomy), withRoom[uint32](9, 1, 2)) || len(roomy) != 2 {
		t.Errorf("RoomyList: %v", RoomOf(roomy))
	}
	room := RoomOf(roomy)
	SpoilList(roomy[:1], 8)
	if !slices.Equal(RoomOf(roomy), withRoom[uint32](8, 8, 8)) || !slices.Equal(room, withRoom[uint32](9, 1, 2)) || list[0] != 1 {
		t.Errorf("SpoilList: %v, and %v, of %v", RoomOf(roomy), room, list)
	}
}

func TestNormal(t *testing.T) {
	g := Graph(3, [3]int{2, 0, 5}, [3]int{0, 1, 4}, [3]int{1, 1, 0}, [3]int{0, 1, 3}, [3]int{0, 1, 3})
	if made := Normal(g); !SameGraph(made, Graph(3, [3]int{0, 1, 3}, [3]int{2, 0, 5})) {
		t.Errorf("Normal: %v", made)
	}
}

func TestSome(t *testing.T) {
	count, most := 0, 0
	for g := range Some() {
		count++
		most = max(most, len(g.Arcs))
	}
	if count < 1000 || most < 150 {
		t.Errorf("%d graphs, of at most %d arcs", count, most)
	}
	for _, end := range []int{1, 5, 100, count - 1} {
		seen := 0
		for range Some() {
			seen++
			if seen == end {
				break
			}
		}
	}
}

func TestWrong(t *testing.T) {
	for _, w := range Wrong() {
		if err := gtext.Check(w.Graph); err == nil || !SameError(err, w.Err) {
			t.Errorf("%s: %v, wanted %v", w.Name, err, w.Err)
		}
	}
}

func TestRoomyArrays(t *testing.T) {
	a := RoomyArrays(Arrays{First: []int{0, 1, 1}, To: []int{1}, Weight: []int{5}})
	want := [][]int{withRoom(-7, 0, 1, 1), withRoom(-7, 1), withRoom(-7, 5)}
	if !slices.EqualFunc(RoomOfArrays(a), want, slices.Equal) || len(a.First) != 3 || len(a.To) != 1 || len(a.Weight) != 1 {
		t.Errorf("RoomyArrays: %v", RoomOfArrays(a))
	}
	SpoilArrays(a)
	for i, list := range a.Lists() {
		if !slices.Equal(RoomOf(list), slices.Repeat([]int{-7}, len(want[i]))) {
			t.Errorf("SpoilArrays: %v", RoomOf(list))
		}
	}
}

func TestWrongArrays(t *testing.T) {
	for _, w := range WrongArrays() {
		if err := csr.Check(csr.Csr(w.Arrays)); err == nil || !SameError(err, w.Err) {
			t.Errorf("%s: %v, wanted %v", w.Name, err, w.Err)
		}
	}
}
