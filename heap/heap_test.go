package heap

import (
	"cmp"
	"math"
	"slices"
	"testing"

	"viaduct/api"
	"viaduct/sample"
)

const far = math.MaxUint64

func must(t *testing.T, n int) *Heap {
	t.Helper()
	h, err := New(n)
	if err != nil || h == nil {
		t.Fatalf("New(%d): %v, %v", n, h, err)
	}
	return h
}

func checkError(t *testing.T, name string, err, want error) {
	t.Helper()
	if !sample.SameError(err, want) {
		t.Errorf("%s: %v, wanted %v", name, err, want)
	}
}

func checkPop(t *testing.T, h *Heap, wantID uint32, wantKey uint64, want bool) {
	t.Helper()
	if id, key, ok := h.Pop(); id != wantID || key != wantKey || ok != want {
		t.Errorf("Pop: %d, %d, %v, wanted %d, %d, %v", id, key, ok, wantID, wantKey, want)
	}
}

func checkTop(t *testing.T, h *Heap, wantID uint32, wantKey uint64, want bool) {
	t.Helper()
	if id, key, ok := h.Top(); id != wantID || key != wantKey || ok != want {
		t.Errorf("Top: %d, %d, %v, wanted %d, %d, %v", id, key, ok, wantID, wantKey, want)
	}
}

func checkKey(t *testing.T, h *Heap, id uint32, wantKey uint64, want bool) {
	t.Helper()
	if key, in := h.Key(id); key != wantKey || in != want {
		t.Errorf("Key(%d): %d, %v, wanted %d, %v", id, key, in, wantKey, want)
	}
}

func checkRemove(t *testing.T, h *Heap, id uint32, want bool) {
	t.Helper()
	if was := h.Remove(id); was != want {
		t.Errorf("Remove(%d): %v", id, was)
	}
}

func checkLen(t *testing.T, h *Heap, want int) {
	t.Helper()
	if n := h.Len(); n != want {
		t.Errorf("Len: %d, wanted %d", n, want)
	}
}

// model is what a heap must be: n, and the things that are in, by their ids.
type model struct {
	n    int
	keys map[uint32]uint64
}

func (m model) push(id uint32, key uint64) {
	if known, in := m.keys[id]; int(id) < m.n && (!in || key < known) {
		m.keys[id] = key
	}
}

func (m model) set(id uint32, key uint64) {
	if int(id) < m.n {
		m.keys[id] = key
	}
}

// sorted: the things in the order in which they are popped.
func (m model) sorted() []thing {
	var all []thing
	for id, key := range m.keys {
		all = append(all, thing{key, id})
	}
	slices.SortFunc(all, func(a, b thing) int {
		return cmp.Or(cmp.Compare(a.key, b.key), cmp.Compare(a.id, b.id))
	})
	return all
}

// checkAsModel asks all that can be asked without a change; checkPopped pops all.
func checkAsModel(t *testing.T, h *Heap, m model) {
	t.Helper()
	checkLen(t, h, len(m.keys))
	for id := range uint32(m.n + 2) {
		key, in := m.keys[id]
		checkKey(t, h, id, key, in)
	}
	if all := m.sorted(); len(all) > 0 {
		checkTop(t, h, all[0].id, all[0].key, true)
	} else {
		checkTop(t, h, 0, 0, false)
	}
}

func checkPopped(t *testing.T, h *Heap, m model) {
	t.Helper()
	all := m.sorted()
	for i, x := range all {
		checkLen(t, h, len(all)-i)
		checkTop(t, h, x.id, x.key, true)
		checkPop(t, h, x.id, x.key, true)
		checkKey(t, h, x.id, 0, false)
	}
	checkLen(t, h, 0)
	checkTop(t, h, 0, 0, false)
	checkPop(t, h, 0, 0, false)
}

func TestP6_1New(t *testing.T) {
	for _, n := range []int{0, 1, 2, 100, api.MaxNodes - 1, api.MaxNodes} {
		h := must(t, n)
		checkAsModel(t, h, model{n: min(n, 100)})
		checkPop(t, h, 0, 0, false)
		checkRemove(t, h, 0, false)
		checkError(t, "Push of n", h.Push(uint32(n), 1), api.ErrNode)
		checkError(t, "Set of n", h.Set(uint32(n), 1), api.ErrNode)
		checkLen(t, h, 0)
		if n > 0 {
			checkError(t, "Push of n-1", h.Push(uint32(n-1), 1), nil)
			checkPop(t, h, uint32(n-1), 1, true)
		}
	}
	for _, n := range []int{-1, api.MaxNodes + 1, math.MaxInt, math.MinInt} {
		h, err := New(n)
		checkError(t, "New", err, api.ErrArg)
		if h != nil {
			t.Errorf("New(%d): a heap beside an error", n)
		}
	}
}

func TestP6_2Push(t *testing.T) {
	h := must(t, 3)
	for _, x := range []thing{{5, 2}, {5, 0}, {9, 1}, {4, 1}, {7, 2}} {
		checkError(t, "Push", h.Push(x.id, x.key), nil)
	}
	checkLen(t, h, 3)
	checkPop(t, h, 1, 4, true)
	checkPop(t, h, 0, 5, true)
	checkPop(t, h, 2, 5, true)
	checkPop(t, h, 0, 0, false)

	// What was taken out counts no more: the greater key is the only one.
	checkError(t, "Push", h.Push(1, far), nil)
	checkKey(t, h, 1, far, true)
	checkError(t, "Push", h.Push(1, 0), nil)
	checkError(t, "Push", h.Push(1, far), nil)
	checkKey(t, h, 1, 0, true)
	checkRemove(t, h, 1, true)
	checkError(t, "Push", h.Push(1, 3), nil)
	checkPop(t, h, 1, 3, true)
}

func TestP6_2Set(t *testing.T) {
	h := must(t, 3)
	checkError(t, "Set", h.Set(0, 3), nil)
	checkError(t, "Set", h.Set(0, 8), nil)
	checkKey(t, h, 0, 8, true)
	checkLen(t, h, 1)
	checkError(t, "Set", h.Set(1, 8), nil)
	checkTop(t, h, 0, 8, true)
	checkError(t, "Set", h.Set(0, 9), nil)
	checkTop(t, h, 1, 8, true)
	checkError(t, "Set", h.Set(0, 0), nil)
	checkTop(t, h, 0, 0, true)
	checkError(t, "Set", h.Set(0, far), nil)
	checkError(t, "Set", h.Set(2, far), nil)
	checkPop(t, h, 1, 8, true)
	checkPop(t, h, 0, far, true)
	checkPop(t, h, 2, far, true)
}

func TestP6_2NoSuchThing(t *testing.T) {
	for _, n := range []int{0, 1, 3} {
		h, m := must(t, n), model{n, map[uint32]uint64{}}
		for id := range uint32(n) {
			h.Push(id, 5)
			m.push(id, 5)
		}
		for _, id := range []uint32{uint32(n), uint32(n) + 1, api.MaxNodes, math.MaxUint32} {
			checkError(t, "Push", h.Push(id, 1), api.ErrNode)
			checkError(t, "Set", h.Set(id, 1), api.ErrNode)
			checkRemove(t, h, id, false)
			checkKey(t, h, id, 0, false)
			checkAsModel(t, h, m)
		}
		checkPopped(t, h, m)
	}
}

func TestP6_3Remove(t *testing.T) {
	h := must(t, 4)
	h.Set(0, 8)
	checkRemove(t, h, 0, true)
	checkRemove(t, h, 0, false)
	checkKey(t, h, 0, 0, false)
	checkLen(t, h, 0)
	checkTop(t, h, 0, 0, false)
	for id := range uint32(4) {
		h.Push(id, 7)
	}
	checkRemove(t, h, 0, true)
	checkTop(t, h, 1, 7, true)
	checkRemove(t, h, 3, true)
	checkLen(t, h, 2)
	checkKey(t, h, 3, 0, false)
	checkPop(t, h, 1, 7, true)
	checkRemove(t, h, 1, false)
	checkPop(t, h, 2, 7, true)
}

// A thing that fills a removed one's place may belong above it: it came from another branch.
func TestP6_3RemoveFromAnotherBranch(t *testing.T) {
	for size := range uint32(30) {
		for gone := range size {
			h, m := must(t, int(size)), model{int(size), map[uint32]uint64{}}
			for id := range size {
				// Below the first child of the least thing all is great, below the others all is small.
				key := uint64(1000 - id)
				if id%4 == 1 || id > 4 && id < 9 {
					key += 5000
				}
				h.Push(id, key)
				m.push(id, key)
			}
			checkRemove(t, h, gone, true)
			delete(m.keys, gone)
			checkAsModel(t, h, m)
			checkPopped(t, h, m)
		}
	}
}

func TestP6_3Clear(t *testing.T) {
	h := must(t, 50)
	for round := range uint64(3) {
		for id := range uint32(50) {
			h.Set(id, 100*round+uint64(id*7%50))
		}
		h.Pop()
		h.Clear()
		checkAsModel(t, h, model{n: 50})
		checkPop(t, h, 0, 0, false)
		checkRemove(t, h, 3, false)
		h.Clear()
		checkLen(t, h, 0)
	}
	// A key from before the clearing isn't held against a new one.
	h.Push(7, far)
	checkKey(t, h, 7, far, true)
	h.Push(3, far)
	checkPopped(t, h, model{50, map[uint32]uint64{3: far, 7: far}})
	empty := must(t, 0)
	empty.Clear()
	checkAsModel(t, empty, model{})
}

func TestP6_3AskingChangesNothing(t *testing.T) {
	h, m := must(t, 20), model{20, map[uint32]uint64{}}
	for id := range uint32(20) {
		h.Push(id, uint64(id*3%7))
		m.push(id, uint64(id*3%7))
		for range 3 {
			checkAsModel(t, h, m)
		}
	}
	checkPopped(t, h, m)
}

// change is something that is done to a heap of the kind, and to its model.
type change struct {
	kind int
	id   uint32
	key  uint64
}

const (
	pushing = iota
	setting
	popping
	removing
	clearing
)

func apply(t *testing.T, h *Heap, m model, c change) {
	t.Helper()
	switch c.kind {
	case pushing:
		checkError(t, "Push", h.Push(c.id, c.key), nil)
		m.push(c.id, c.key)
	case setting:
		checkError(t, "Set", h.Set(c.id, c.key), nil)
		m.set(c.id, c.key)
	case popping:
		if all := m.sorted(); len(all) > 0 {
			checkPop(t, h, all[0].id, all[0].key, true)
			delete(m.keys, all[0].id)
		} else {
			checkPop(t, h, 0, 0, false)
		}
	case removing:
		_, in := m.keys[c.id]
		checkRemove(t, h, c.id, in)
		delete(m.keys, c.id)
	case clearing:
		h.Clear()
		clear(m.keys)
	}
}

// Every short list of changes.
func TestP6_3AsTheModel(t *testing.T) {
	choice := []change{{kind: popping}, {kind: clearing}}
	for id := range uint32(3) {
		choice = append(choice, change{removing, id, 0})
		for _, key := range []uint64{1, 2} {
			choice = append(choice, change{pushing, id, key}, change{setting, id, key})
		}
	}
	var extend func(list []change, left int)
	extend = func(list []change, left int) {
		h, m := must(t, 3), model{3, map[uint32]uint64{}}
		for _, c := range list {
			apply(t, h, m, c)
		}
		checkAsModel(t, h, m)
		checkPopped(t, h, m)
		if left == 0 || t.Failed() {
			return
		}
		for _, c := range choice {
			extend(append(slices.Clone(list), c), left-1)
		}
	}
	extend(nil, 4)
}

// Long lists of changes to greater heaps.
func TestP6_3AsTheModelAtLength(t *testing.T) {
	dice := sample.Dice{Seed: 6}
	for round := range 60 {
		n := 1 + dice.Below(120)
		spread := []int{2, 50, math.MaxInt}[round%3]
		h, m := must(t, n), model{n, map[uint32]uint64{}}
		for step := range 1000 {
			// One kind is taken more often for a while, so that heaps fill and empty themselves.
			kind := dice.Below(clearing)
			if dice.Below(2) == 0 {
				kind = step / 100 % clearing
			}
			if dice.Below(300) == 0 {
				kind = clearing
			}
			apply(t, h, m, change{kind, uint32(dice.Below(n)), uint64(dice.Below(spread))})
			checkAsModel(t, h, m)
			if t.Failed() {
				return
			}
		}
		checkPopped(t, h, m)
	}
}

func TestP6_4Order(t *testing.T) {
	dice := sample.Dice{Seed: 66}
	for _, n := range []int{1, 2, 4, 5, 6, 21, 22, 85, 86, 1000} {
		for _, spread := range []int{1, 3, n, math.MaxInt} {
			h, m := must(t, n), model{n, map[uint32]uint64{}}
			for range 3 * n {
				id, key := uint32(dice.Below(n)), far-uint64(dice.Below(spread))
				h.Push(id, key)
				m.push(id, key)
			}
			checkPopped(t, h, m)
		}
	}
}

func TestP6_4GreatestHeap(t *testing.T) {
	h := must(t, api.MaxNodes)
	for round := range uint32(2) {
		for i := range uint32(api.MaxNodes) {
			id := i * 40503 % api.MaxNodes // each one once: the factor is odd
			checkError(t, "Push", h.Push(id, uint64(id/4*round)), nil)
		}
		checkLen(t, h, api.MaxNodes)
		checkError(t, "Push beyond", h.Push(api.MaxNodes, 0), api.ErrNode)
		for id := range uint32(api.MaxNodes) {
			checkPop(t, h, id, uint64(id/4*round), true)
		}
		checkPop(t, h, 0, 0, false)
	}
}

func TestNilHeap(t *testing.T) {
	var h *Heap
	for _, id := range []uint32{0, 1, math.MaxUint32} {
		checkError(t, "Push", h.Push(id, 0), api.ErrNil)
		checkError(t, "Set", h.Set(id, 5), api.ErrNil)
		checkKey(t, h, id, 0, false)
		checkRemove(t, h, id, false)
	}
	checkTop(t, h, 0, 0, false)
	checkPop(t, h, 0, 0, false)
	checkLen(t, h, 0)
	h.Clear()
	checkLen(t, h, 0)
}

// A heap that New didn't make has no things.
func TestUnmadeHeap(t *testing.T) {
	h := &Heap{}
	checkError(t, "Push", h.Push(0, 0), api.ErrNode)
	checkError(t, "Set", h.Set(0, 0), api.ErrNode)
	h.Clear()
	checkAsModel(t, h, model{})
	checkPop(t, h, 0, 0, false)
}

func TestHeapsAreApart(t *testing.T) {
	a, b := must(t, 10), must(t, 10)
	for id := range uint32(10) {
		a.Push(id, uint64(id))
		b.Push(9-id, uint64(id))
	}
	a.Remove(3)
	a.Clear()
	for id := range uint32(10) {
		checkPop(t, b, 9-id, uint64(id), true)
	}
}
