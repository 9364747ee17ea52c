package table

import (
	"slices"
	"testing"

	"viaduct/api"
	"viaduct/sample"
)

// checkMemory: what is handed in stays as it is, and nothing that happens to it or to one answer is seen in another one.
func checkMemory(t *testing.T, h api.Hier, from, to ints) {
	t.Helper()
	roomy, roomyFrom, roomyTo := sample.RoomyHier(h), sample.RoomyList(from, -7), sample.RoomyList(to, -7)
	was, wasFrom, wasTo := sample.RoomOfHier(roomy), slices.Clone(sample.RoomOf(roomyFrom)), slices.Clone(sample.RoomOf(roomyTo))
	one, err := Of(roomy, roomyFrom, roomyTo)
	other, errOther := Of(roomy, roomyFrom, roomyTo)
	Nearest(roomy, 0, roomyTo)
	if !slices.EqualFunc(one, other, slices.Equal) || !sample.SameError(err, errOther) {
		t.Fatalf("%v, %v, then %v, %v", one, err, other, errOther)
	}
	kept := eachRow(other, func(row []uint64) []uint64 { return row })
	for _, row := range one {
		sample.SpoilList(row, 77)
	}
	sample.SpoilList(one, nil)
	if !sample.SameHier(sample.RoomOfHier(roomy), was) || !slices.Equal(sample.RoomOf(roomyFrom), wasFrom) || !slices.Equal(sample.RoomOf(roomyTo), wasTo) {
		t.Errorf("what was handed in has changed: %s, %v, %v", brief(h), from, to)
	}
	checkOf(t, roomy, roomyFrom, roomyTo, other, errOther)
	sample.SpoilHier(roomy)
	sample.SpoilList(roomyFrom, -9)
	sample.SpoilList(roomyTo, -9)
	if !slices.EqualFunc(other, kept, slices.Equal) {
		t.Errorf("the answer is now %v, it was %v", other, kept)
	}
}

func TestMemory(t *testing.T) {
	checkMemory(t, sample.Three(), ints{0, 2}, ints{2, 0, 1})
	checkMemory(t, sample.Three(), ints{0, 1, 2}, ints{1})
	checkMemory(t, sample.Three(), ints{0, 1, 2}, nil)
	checkMemory(t, sample.Three(), nil, ints{1, 2})
	checkMemory(t, sample.Three(), ints{0, 3}, ints{7})
	dice := sample.Dice{Seed: 239}
	for h := range sample.LooseHiers(240, 200, 8) {
		n := len(h.Node)
		checkMemory(t, h, some(&dice, dice.Below(6), n), some(&dice, dice.Below(6), n))
	}
	for _, w := range sample.WrongHiers() {
		checkMemory(t, w.Hier, ints{0, 1}, ints{1})
	}
}

// No row shares memory with another one, spare room too, be they of the same node.
func TestMemoryOfRows(t *testing.T) {
	h := sample.Doubling(5, 3)
	for _, lists := range [][2]ints{{{0, 1, 2, 3, 4}, {1, 1}}, {{2, 2, 2}, {0, 1, 4}}, {{3, 1, 3, 1}, {4}}} {
		want := mustOf(t, h, lists[0], lists[1])
		for i := range want {
			table := mustOf(t, h, lists[0], lists[1])
			sample.SpoilList(table[i], 77)
			for k := range table {
				if k != i && !slices.Equal(table[k], want[k]) {
					t.Errorf("the rows %d and %d share memory", i, k)
				}
			}
		}
	}
}

// P2: the same answers, whatever was asked between.
func TestQuestionsChangeNothing(t *testing.T) {
	h := sample.Three()
	for range 3 {
		checkOf(t, h, ints{0, 2}, ints{2, 0, 1}, rows{{5, 0, 4}, {0, far, far}}, nil)
		checkNearest(t, h, 0, ints{2, 1}, 1, 4, nil)
		checkOf(t, sample.PlainHier(9), ints{8}, ints{7, 8}, rows{{far, 0}}, nil)
		checkNearest(t, h, 2, ints{0, 1}, 0, 0, api.ErrNoWalk)
		checkRefused(t, h, ints{0, 3}, ints{7}, nodeAt(1))
		checkRefused(t, api.Hier{}, nil, nil, api.ErrShape)
	}
}
