package nav

import (
	"bytes"
	"slices"
	"testing"

	"viaduct/api"
	"viaduct/sample"
)

// The bytes stay as they are, spare room too, and aren't kept: what is written over them later makes no difference.
func TestMemoryOfLoad(t *testing.T) {
	dice := sample.Dice{Seed: 258}
	n, next := New(2), 1
	for _, k := range pool(t, &dice, 30) {
		roomy := sample.RoomyList(k.image, 0xee)
		was := sample.RoomOf(roomy)
		checkLoad(t, n, roomy, next, nil)
		if !bytes.Equal(sample.RoomOf(roomy), was) {
			t.Fatal("what was handed in has changed")
		}
		sample.SpoilList(roomy, 0x99)
		for range 30 {
			k.checkQuestion(t, n, next, &dice)
		}
		wrong := sample.RoomyList(k.image[:len(k.image)-1], k.image[len(k.image)-1])
		wasWrong := sample.RoomOf(wrong)
		if _, err := n.Load(wrong); err == nil || !bytes.Equal(sample.RoomOf(wrong), wasWrong) {
			t.Fatalf("what lies behind the list was read or written: %v", err)
		}
		next++
	}
}

// Writing over an answer, spare room too, changes no other answer, earlier or later.
func TestMemoryOfAnswers(t *testing.T) {
	dice := sample.Dice{Seed: 259}
	for _, k := range pool(t, &dice, 30) {
		n := New(2)
		checkLoad(t, n, k.image, 1, nil)
		checkLoad(t, n, k.image, 2, nil)
		first, second := n.Live(), n.Live()
		sample.SpoilList(first, -7)
		if !slices.Equal(second, ints{1, 2}) {
			t.Errorf("Live: %v", second)
		}
		checkLive(t, n, 1, 2)
		k.checkGraphMemory(t, n)
		for s := range k.graph.N {
			k.checkListsMemory(t, n, s, dice.Below(k.graph.N))
		}
	}
}

func (k kept) checkGraphMemory(t *testing.T, n *Nav) {
	t.Helper()
	one, _ := n.Graph(1)
	other, _ := n.Graph(1)
	sample.Spoil(one.Arcs)
	if !sample.SameGraph(other, k.normal) {
		t.Errorf("an answer has changed: %v", other)
	}
	checkGraph(t, n, 1, k.normal, nil)
	checkGraph(t, n, 2, k.normal, nil)
}

func (k kept) checkListsMemory(t *testing.T, n *Nav, s, v int) {
	t.Helper()
	one, err := n.Path(1, s, v)
	other, _ := n.Path(1, s, v)
	want := slices.Clone(other)
	sample.SpoilList(one, -7)
	if !slices.Equal(other, want) {
		t.Errorf("an answer has changed: %v", other)
	}
	checkPath(t, n, 1, s, v, want, err)
	rows, columns := sample.RoomyList(ints{s, v, s}, -7), sample.RoomyList(ints{v, v}, -7)
	wasRows, wasColumns := sample.RoomOf(rows), sample.RoomOf(columns)
	table, _ := n.Table(1, rows, columns)
	n.Nearest(1, s, columns)
	if !slices.Equal(sample.RoomOf(rows), wasRows) || !slices.Equal(sample.RoomOf(columns), wasColumns) {
		t.Errorf("what was handed in has changed: %v, %v", rows, columns)
	}
	wantTable, _ := k.wantTable(rows, columns)
	for _, list := range table {
		sample.SpoilList(list, 77)
	}
	sample.SpoilList(table, nil)
	checkTable(t, n, 1, rows, columns, wantTable, nil)
	checkDistance(t, n, 2, s, s, 0, nil)
}

func TestMemoryOfCompile(t *testing.T) {
	n := New(0)
	one, _ := n.Compile(whole, api.Options{})
	other, _ := n.Compile(whole, api.Options{})
	want := bytes.Clone(other)
	sample.SpoilList(one, 0x99)
	if !bytes.Equal(other, want) || !bytes.Equal(mustCompile(t, whole, api.Options{}), want) {
		t.Error("an image has changed")
	}
}
