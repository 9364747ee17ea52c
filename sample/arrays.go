package sample

import (
	"math"

	"viaduct/api"
	"viaduct/fault"
)

// oddNumber may stand in none of the arrays of a graph.
const oddNumber = -7

// Arrays are what a csr.Csr is made of: each can be made the other. The tests of csr call this package, so it can't call that one.
type Arrays struct {
	First, To, Weight []int
}

// Lists: the three, one by one.
func (a Arrays) Lists() [][]int {
	return [][]int{a.First, a.To, a.Weight}
}

// RoomyArrays, RoomOfArrays, SpoilArrays: as RoomyList, RoomOf and SpoilList, of all three.
func RoomyArrays(a Arrays) Arrays {
	return Arrays{First: RoomyList(a.First, oddNumber), To: RoomyList(a.To, oddNumber), Weight: RoomyList(a.Weight, oddNumber)}
}

func RoomOfArrays(a Arrays) [][]int {
	var rooms [][]int
	for _, list := range a.Lists() {
		rooms = append(rooms, RoomOf(list))
	}
	return rooms
}

func SpoilArrays(a Arrays) {
	for _, list := range a.Lists() {
		SpoilList(list, oddNumber)
	}
}

// WrongFlat are arrays that are not right, with csr.Check's error of them.
type WrongFlat struct {
	Name   string
	Arrays Arrays
	Err    error
}

// WrongArrays: arrays that are not right.
func WrongArrays() []WrongFlat {
	type ints = []int
	atNode := func(v int, e api.Errno) error { return fault.At(api.AtNode, v, e) }
	atArc := func(i int, e api.Errno) error { return fault.At(api.AtArc, i, e) }
	return []WrongFlat{
		{"no First", Arrays{}, api.ErrShape},
		{"an empty First", Arrays{First: ints{}, To: ints{}, Weight: ints{}}, api.ErrShape},
		{"no First, but arcs", Arrays{To: ints{0}, Weight: ints{0}}, api.ErrShape},
		{"First begins with 1", Arrays{First: ints{1}}, api.ErrShape},
		{"First begins with 1, with an arc", Arrays{First: ints{1, 1, 1}, To: ints{1}, Weight: ints{1}}, api.ErrShape},
		{"First begins below 0", Arrays{First: ints{-1, 0}}, api.ErrShape},
		{"First ends too early", Arrays{First: ints{0, 0, 0}, To: ints{1}, Weight: ints{1}}, api.ErrShape},
		{"First ends too late", Arrays{First: ints{0, 2, 2}, To: ints{1}, Weight: ints{1}}, api.ErrShape},
		{"First ends far off", Arrays{First: ints{0, math.MaxInt}}, api.ErrShape},
		{"First ends below 0", Arrays{First: ints{0, math.MinInt}}, api.ErrShape},
		{"a weight too few", Arrays{First: ints{0, 1, 1}, To: ints{1}}, api.ErrShape},
		{"a weight too many", Arrays{First: ints{0, 1, 1}, To: ints{1}, Weight: ints{1, 1}}, api.ErrShape},
		{"First falls", Arrays{First: ints{0, 2, 1, 1}, To: ints{1}, Weight: ints{1}}, atNode(1, api.ErrShape)},
		{"First falls at the end", Arrays{First: ints{0, 1, 1, 0}}, atNode(2, api.ErrShape)},
		{"First falls below 0", Arrays{First: ints{0, -1, 0}}, atNode(0, api.ErrShape)},
		{"First falls from afar", Arrays{First: ints{0, math.MaxInt, math.MinInt, 0}}, atNode(1, api.ErrShape)},
		{"First falls twice", Arrays{First: ints{0, 3, 2, 1, 1}, To: ints{9}, Weight: ints{1}}, atNode(1, api.ErrShape)},
		{"parallel arcs", Arrays{First: ints{0, 2, 2}, To: ints{1, 1}, Weight: ints{3, 4}}, atArc(1, api.ErrShape)},
		{"arcs out of order", Arrays{First: ints{0, 2, 2, 2}, To: ints{2, 1}, Weight: ints{3, 4}}, atArc(1, api.ErrShape)},
		{"a loop", Arrays{First: ints{0, 1}, To: ints{0}, Weight: ints{1}}, atArc(0, api.ErrShape)},
		{"a loop of the last node", Arrays{First: ints{0, 1, 3}, To: ints{1, 0, 1}, Weight: ints{1, 1, 1}}, atArc(2, api.ErrShape)},
		{"no such node", Arrays{First: ints{0, 1, 1}, To: ints{2}, Weight: ints{1}}, atArc(0, api.ErrNode)},
		{"a node below 0", Arrays{First: ints{0, 1, 1}, To: ints{-1}, Weight: ints{1}}, atArc(0, api.ErrNode)},
		{"a node far off", Arrays{First: ints{0, 0, 1}, To: ints{math.MaxInt}, Weight: ints{1}}, atArc(0, api.ErrNode)},
		{"a node far below 0", Arrays{First: ints{0, 1, 2}, To: ints{1, math.MinInt}, Weight: ints{1, 1}}, atArc(1, api.ErrNode)},
		{"too dear", Arrays{First: ints{0, 1, 2}, To: ints{1, 0}, Weight: ints{api.MaxWeight, api.MaxWeight + 1}}, atArc(1, api.ErrWeight)},
		{"far too dear", Arrays{First: ints{0, 1, 1}, To: ints{1}, Weight: ints{math.MaxInt}}, atArc(0, api.ErrWeight)},
		{"a weight below 0", Arrays{First: ints{0, 1, 2}, To: ints{1, 0}, Weight: ints{0, -1}}, atArc(1, api.ErrWeight)},
		{"a weight far below 0", Arrays{First: ints{0, 1, 1}, To: ints{1}, Weight: ints{math.MinInt}}, atArc(0, api.ErrWeight)},
		{"a node too many", Arrays{First: make(ints, api.MaxNodes+2)}, api.ErrLimit},
	}
}
