package table

import (
	"fmt"
	"math"
	"slices"
	"testing"

	"viaduct/api"
	"viaduct/fault"
	"viaduct/hier"
	"viaduct/order"
	"viaduct/query"
	"viaduct/sample"
)

type (
	ints = []int
	rows = [][]uint64
)

const far = api.Unreached

// brief: what a failure tells of a thing, which may have a million links.
func brief(thing any) string {
	text := fmt.Sprint(thing)
	return text[:min(len(text), 300)]
}

func nodeAt(place int) error {
	return fault.At(api.AtNode, place, api.ErrNode)
}

func checkOf(t *testing.T, h api.Hier, from, to ints, want rows, wantErr error) {
	t.Helper()
	table, err := Of(h, from, to)
	if !slices.EqualFunc(table, want, slices.Equal) || !sample.SameError(err, wantErr) {
		t.Errorf("Of(%s, %s, %s): %s, %v, wanted %s, %v", brief(h), brief(from), brief(to), brief(table), err, brief(want), wantErr)
	}
}

func checkNearest(t *testing.T, h api.Hier, s int, to ints, place int, dist uint64, wantErr error) {
	t.Helper()
	if j, d, err := Nearest(h, s, to); j != place || d != dist || !sample.SameError(err, wantErr) {
		t.Errorf("Nearest(%s, %d, %s): %d, %d, %v, wanted %d, %d, %v", brief(h), s, brief(to), j, d, err, place, dist, wantErr)
	}
}

func checkRefused(t *testing.T, h api.Hier, from, to ints, want error) {
	t.Helper()
	checkOf(t, h, from, to, nil, want)
}

func mustOf(t *testing.T, h api.Hier, from, to ints) rows {
	t.Helper()
	table, err := Of(h, from, to)
	if err != nil {
		t.Fatalf("Of(%s, %s, %s): %v", brief(h), brief(from), brief(to), err)
	}
	return table
}

// rising: the numbers below n.
func rising(n int) ints {
	list := make(ints, n)
	for i := range list {
		list[i] = i
	}
	return list
}

// some: a list of so many nodes of n.
func some(dice *sample.Dice, count, n int) ints {
	list := make(ints, count)
	for i := range list {
		list[i] = dice.Below(n)
	}
	return list
}

// distances: query.Distance between all nodes, Unreached where there is no walk.
func distances(t *testing.T, h api.Hier) rows {
	t.Helper()
	all := make(rows, len(h.Node))
	for s := range all {
		for v := range all {
			dist, err := query.Distance(h, s, v)
			if sample.SameError(err, api.ErrNoWalk) {
				dist = far
			} else if err != nil {
				t.Fatal(err)
			}
			all[s] = append(all[s], dist)
		}
	}
	return all
}

// model: the table of rows and columns, picked from all distances.
func model(all rows, from, to ints) rows {
	table := make(rows, len(from))
	for i, s := range from {
		for _, v := range to {
			table[i] = append(table[i], all[s][v])
		}
	}
	return table
}

// modelNearest: what the chapter says of it.
func modelNearest(all rows, s int, to ints) (int, uint64, error) {
	place := -1
	for j, v := range to {
		if all[s][v] != far && (place < 0 || all[s][v] < all[s][to[place]]) {
			place = j
		}
	}
	if place < 0 {
		return 0, 0, api.ErrNoWalk
	}
	return place, all[s][to[place]], nil
}

// checkTables: those of a hierarchy whose distances are known, of all nodes and of lists of few and of many, some of them several times.
func checkTables(t *testing.T, h api.Hier, all rows, dice *sample.Dice) {
	t.Helper()
	n := len(all)
	nodes := rising(n)
	checkOf(t, h, nodes, nodes, all, nil)
	for _, counts := range [][2]int{{1, 1}, {1, n}, {n, 1}, {2, 3 * n}, {3 * n, 2}, {5, 4}, {0, 2}, {3, 0}} {
		from, to := some(dice, counts[0], n), some(dice, counts[1], n)
		checkOf(t, h, from, to, model(all, from, to), nil)
		for s := range n {
			place, dist, err := modelNearest(all, s, to)
			checkNearest(t, h, s, to, place, dist, err)
		}
	}
}

func TestP23_1Examples(t *testing.T) {
	h := sample.Three()
	checkOf(t, h, ints{0, 2}, ints{2, 0, 1}, rows{{5, 0, 4}, {0, far, far}}, nil)
	checkRefused(t, h, nil, ints{9}, nodeAt(0))
	checkOf(t, h, ints{0, 1}, nil, rows{{}, {}}, nil)
	checkRefused(t, h, ints{0, 3}, ints{7}, nodeAt(1))
	checkRefused(t, h, ints{0}, ints{1, 7}, nodeAt(2))
	checkOf(t, h, ints{0, 1, 2}, ints{0, 1, 2}, rows{{0, 4, 5}, {far, 0, 1}, {far, far, 0}}, nil)
}

func TestP23_2Examples(t *testing.T) {
	h := sample.Three()
	checkNearest(t, h, 0, ints{2, 1}, 1, 4, nil)
	checkNearest(t, h, 0, ints{1, 1}, 0, 4, nil)
	checkNearest(t, h, 2, ints{0, 1}, 0, 0, api.ErrNoWalk)
	checkNearest(t, h, 0, nil, 0, 0, api.ErrNoWalk)
	checkNearest(t, h, 0, ints{1, 5}, 0, 0, nodeAt(2))
	checkNearest(t, h, 2, ints{0, 1, 2}, 2, 0, nil)
}

// Empty lists, of nodes that are alone.
func TestP23_1NoneAndFew(t *testing.T) {
	for n := range 4 {
		h := sample.PlainHier(n)
		checkOf(t, h, nil, nil, rows{}, nil)
		checkOf(t, h, ints{}, ints{}, rows{}, nil)
		checkOf(t, h, nil, rising(n), rows{}, nil)
		checkOf(t, h, rising(n), nil, make(rows, n), nil)
	}
	checkOf(t, sample.PlainHier(2), ints{0, 1, 0}, ints{1, 0}, rows{{far, 0}, {0, far}, {far, 0}}, nil)
	checkOf(t, sample.PlainHier(1), ints{0, 0}, ints{0, 0, 0}, rows{{0, 0, 0}, {0, 0, 0}}, nil)
}

// Nodes are told, not ranks; several times as well.
func TestP23_1Repeated(t *testing.T) {
	h := sample.PlainHier(3, [3]int{0, 1, 2}, [3]int{1, 2, 3}, [3]int{2, 0, 9})
	h.Node = []uint32{2, 0, 1}
	checkOf(t, h, ints{2, 2, 1}, ints{1, 0, 1, 1}, rows{{5, 2, 5, 5}, {5, 2, 5, 5}, {0, far, 0, 0}}, nil)
	checkOf(t, h, ints{1, 2, 1, 1}, ints{2, 2}, rows{{9, 9}, {0, 0}, {9, 9}, {9, 9}}, nil)
	checkNearest(t, h, 2, ints{1, 0, 1, 0}, 1, 2, nil)
	checkNearest(t, h, 1, ints{0, 2, 2}, 1, 9, nil)
}

// The first column of the least distance, be it 0, at the front or at the end.
func TestP23_2First(t *testing.T) {
	h := sample.PlainHier(5, [3]int{0, 1, 3}, [3]int{0, 2, 2}, [3]int{0, 3, 2}, [3]int{0, 4, 0})
	checkNearest(t, h, 0, ints{1, 2, 3}, 1, 2, nil)
	checkNearest(t, h, 0, ints{1, 3, 2}, 1, 2, nil)
	checkNearest(t, h, 0, ints{4, 0, 4}, 0, 0, nil)
	checkNearest(t, h, 0, ints{1, 0, 4}, 1, 0, nil)
	checkNearest(t, h, 0, ints{1, 1, 2}, 2, 2, nil)
	checkNearest(t, h, 1, ints{0, 2, 3}, 0, 0, api.ErrNoWalk)
	checkNearest(t, h, 1, ints{0, 2, 1, 1}, 2, 0, nil)
}

// True or not: the numbers are query's.
func TestP23_1P23_2AsTheModel(t *testing.T) {
	dice := sample.Dice{Seed: 231}
	for h := range sample.Hiers() {
		if n := len(h.Node); n > 0 && n < 10 {
			checkTables(t, h, distances(t, h), &dice)
		}
	}
	for h := range sample.LooseHiers(232, 500, 12) {
		checkTables(t, h, distances(t, h), &dice)
	}
	for h := range sample.LooseHiers(233, 10, 40) {
		checkTables(t, h, distances(t, h), &dice)
	}
}

// Walks of the graph that go down and up again aren't seen, where no shortcut stands for them.
func TestP23_1FalseOnes(t *testing.T) {
	h := sample.PlainHier(3, [3]int{1, 0, 4}, [3]int{0, 2, 1})
	checkOf(t, h, ints{1}, ints{2, 0}, rows{{far, 4}}, nil)
	checkNearest(t, h, 1, ints{2}, 0, 0, api.ErrNoWalk)
	h = sample.PlainHier(3, [3]int{1, 0, 4}, [3]int{0, 2, 1}, [3]int{1, 2, 9})
	checkOf(t, h, ints{1, 0}, ints{2, 1}, rows{{9, 0}, {1, far}}, nil)
	checkNearest(t, h, 1, ints{2}, 0, 9, nil)
}

// Rows and columns exchanged, doubled, left out: the other numbers stay.
func TestP23_3OneByOne(t *testing.T) {
	dice := sample.Dice{Seed: 234}
	for h := range sample.LooseHiers(235, 150, 9) {
		n := len(h.Node)
		from, to := some(&dice, 1+dice.Below(6), n), some(&dice, 1+dice.Below(6), n)
		table := mustOf(t, h, from, to)
		for i := range from {
			without, doubled := slices.Delete(slices.Clone(from), i, i+1), slices.Insert(slices.Clone(from), i, from[i])
			checkOf(t, h, without, to, slices.Delete(slices.Clone(table), i, i+1), nil)
			checkOf(t, h, doubled, to, slices.Insert(slices.Clone(table), i, table[i]), nil)
			exchanged, moved := slices.Clone(from), slices.Clone(table)
			exchanged[0], exchanged[i], moved[0], moved[i] = from[i], from[0], table[i], table[0]
			checkOf(t, h, exchanged, to, moved, nil)
		}
		for j := range to {
			checkOf(t, h, from, slices.Delete(slices.Clone(to), j, j+1), eachRow(table, func(row []uint64) []uint64 { return slices.Delete(row, j, j+1) }), nil)
			checkOf(t, h, from, slices.Insert(slices.Clone(to), j, to[j]), eachRow(table, func(row []uint64) []uint64 { return slices.Insert(row, j, row[j]) }), nil)
			exchanged := slices.Clone(to)
			exchanged[0], exchanged[j] = to[j], to[0]
			checkOf(t, h, from, exchanged, eachRow(table, func(row []uint64) []uint64 {
				row[0], row[j] = row[j], row[0]
				return row
			}), nil)
		}
	}
}

// eachRow: a copy of the table whose rows are changed.
func eachRow(table rows, change func([]uint64) []uint64) rows {
	var changed rows
	for _, row := range table {
		changed = append(changed, change(slices.Clone(row)))
	}
	return changed
}

func TestP23_3TurnedAbout(t *testing.T) {
	dice := sample.Dice{Seed: 236}
	for h := range sample.LooseHiers(237, 400, 10) {
		n := len(h.Node)
		turned, err := hier.Turn(h)
		if err != nil {
			t.Fatal(err)
		}
		from, to := some(&dice, 1+dice.Below(12), n), some(&dice, 1+dice.Below(12), n)
		table, other := mustOf(t, h, from, to), mustOf(t, turned, to, from)
		for i := range from {
			for j := range to {
				if table[i][j] != other[j][i] {
					t.Errorf("%s: from %d to %d: %d, turned about %d", brief(h), from[i], to[j], table[i][j], other[j][i])
				}
			}
		}
	}
}

func TestP5Roads(t *testing.T) {
	dice, all := sample.Dice{Seed: 238}, sample.Options()
	i := 0
	for g := range sample.Some() {
		i++
		if h := made(t, g, all[i%len(all)]); g.N > 0 && i%3 == 0 {
			checkTables(t, h, sample.Distances(g), &dice)
		}
	}
	for _, opts := range all[1:4] {
		g := dice.Streets(14)
		checkTables(t, made(t, g, opts), sample.Distances(g), &dice)
	}
}

func made(t *testing.T, g api.Graph, opts api.Options) api.Hier {
	t.Helper()
	h, err := order.Build(g, opts)
	if err != nil {
		t.Fatal(err)
	}
	return h
}

func TestErrors(t *testing.T) {
	h := sample.Three()
	for _, odd := range []int{math.MinInt, -1 << 32, -1, 3, 4, 1 << 16, 1 << 32, 1<<32 + 1, math.MaxInt} {
		checkRefused(t, h, ints{odd}, nil, nodeAt(0))
		checkRefused(t, h, ints{0, 1, odd}, ints{odd}, nodeAt(2))
		checkRefused(t, h, ints{odd, odd}, ints{0}, nodeAt(0))
		checkRefused(t, h, nil, ints{0, odd, odd}, nodeAt(1))
		checkRefused(t, h, ints{0, 2}, ints{odd}, nodeAt(2))
		checkRefused(t, h, ints{0, 2}, ints{0, 1, 1, odd, 7}, nodeAt(5))
		checkNearest(t, h, odd, nil, 0, 0, nodeAt(0))
		checkNearest(t, h, odd, ints{odd}, 0, 0, nodeAt(0))
		checkNearest(t, h, 0, ints{odd}, 0, 0, nodeAt(1))
		checkNearest(t, h, 2, ints{0, 0, odd, odd}, 0, 0, nodeAt(3))
	}
	checkRefused(t, sample.PlainHier(0), ints{0}, nil, nodeAt(0))
	checkRefused(t, sample.PlainHier(0), nil, ints{0}, nodeAt(0))
	checkNearest(t, sample.PlainHier(0), 0, nil, 0, 0, nodeAt(0))
	checkNearest(t, sample.PlainHier(1), 0, ints{0}, 0, 0, nil)
	for _, w := range sample.WrongHiers() {
		for _, list := range []ints{nil, {0}, {0, 1, 2}, {-1, 9}, make(ints, 1025)} {
			checkRefused(t, w.Hier, list, list, w.Err)
			checkNearest(t, w.Hier, 0, list, 0, 0, w.Err)
			checkNearest(t, w.Hier, -1, list, 0, 0, w.Err)
		}
	}
}

// MaxTable numbers, in lists of all lengths, and one more.
func TestLimitOfTables(t *testing.T) {
	h := sample.Three()
	for _, counts := range [][2]int{{1024, 1024}, {1, api.MaxTable}, {api.MaxTable, 1}, {2, api.MaxTable / 2}, {1023, 1025}, {api.MaxTable + 9, 0}, {0, api.MaxTable + 9}} {
		from, to := make(ints, counts[0]), make(ints, counts[1])
		table := mustOf(t, h, from, to)
		if len(table) != counts[0] || slices.ContainsFunc(table, func(row []uint64) bool {
			return len(row) != counts[1] || slices.ContainsFunc(row, func(d uint64) bool { return d != 0 })
		}) {
			t.Errorf("a table of %v: %d rows, not all of them noughts", counts, len(table))
		}
	}
	for _, counts := range [][2]int{{1024, 1025}, {1025, 1024}, {1, api.MaxTable + 1}, {api.MaxTable + 1, 1}, {3, api.MaxTable/3 + 1}, {api.MaxTable/3 + 1, 3}, {1 << 16, 1 << 16}} {
		checkRefused(t, h, make(ints, counts[0]), make(ints, counts[1]), api.ErrLimit)
		// The limit is asked ahead of the nodes.
		checkRefused(t, h, slices.Repeat(ints{-1}, counts[0]), slices.Repeat(ints{9}, counts[1]), api.ErrLimit)
		checkRefused(t, sample.PlainHier(0), make(ints, counts[0]), make(ints, counts[1]), api.ErrLimit)
	}
	for _, c := range []struct {
		limit, a, b int
		want        bool
	}{
		{9, 3, 3, false}, {9, 2, 5, true}, {9, 9, 1, false}, {9, 1, 10, true}, {9, 0, 0, false}, {9, 99, 0, false}, {9, 0, 99, false},
		{api.MaxTable, 1 << 32, 1 << 32, true}, {api.MaxTable, 1 << 33, 1 << 31, true}, {api.MaxTable, math.MaxInt, math.MaxInt, true}, {api.MaxTable, math.MaxInt, 2, true}, {api.MaxTable, 0, math.MaxInt, false},
	} {
		if is := isAbove(c.limit, c.a, c.b); is != c.want {
			t.Errorf("isAbove(%d, %d, %d): %t", c.limit, c.a, c.b, is)
		}
	}
}

// Nearest has no limit of columns.
func TestManyColumns(t *testing.T) {
	to := slices.Repeat(ints{2}, 2*api.MaxTable)
	checkNearest(t, sample.Three(), 0, to, 0, 5, nil)
	to[len(to)-1] = 1
	checkNearest(t, sample.Three(), 0, to, len(to)-1, 4, nil)
	to[len(to)-1] = 3
	checkNearest(t, sample.Three(), 0, to, 0, 0, nodeAt(len(to)))
}

// As many nodes as there may be, in a chain: each search would see most of them.
func TestLimitOfNodes(t *testing.T) {
	const n, step = api.MaxNodes, 64
	h := sample.Chain(n, api.MaxWeight)
	list := make(ints, n/step)
	for i := range list {
		list[i] = step*i + i%step
	}
	table := mustOf(t, h, list, list)
	for i, s := range list {
		for j, v := range list {
			if want := uint64(max(s-v, v-s)) * api.MaxWeight; table[i][j] != want {
				t.Fatalf("from %d to %d: %d, wanted %d", s, v, table[i][j], want)
			}
		}
	}
	all := mustOf(t, h, ints{7}, rising(n))
	one := mustOf(t, h, rising(n), ints{7})
	for v := range n {
		if want := uint64(max(7-v, v-7)) * api.MaxWeight; all[0][v] != want || one[v][0] != want {
			t.Fatalf("from 7 to %d: %d, back %d, wanted %d", v, all[0][v], one[v][0], want)
		}
	}
	checkNearest(t, h, n-1, rising(n-1), n-2, api.MaxWeight, nil)
	checkRefused(t, h, ints{n - 1, n}, ints{n}, nodeAt(1))
	checkNearest(t, h, n, nil, 0, 0, nodeAt(0))
}

// Ways up and ways down are nearly 2^63: with links beside them they neither wrap round nor are taken for Unreached.
func TestLongestLengths(t *testing.T) {
	const n, low = api.MaxNodes, sample.DearestFrom
	h := sample.Dearest(n)
	list := ints{low, low + 1, n - 2, n - 1}
	want := rows{}
	for _, s := range list {
		row := []uint64{}
		for _, v := range list {
			row = append(row, uint64(max(s-v, v-s))*api.MaxTotal)
		}
		want = append(want, row)
	}
	checkOf(t, h, list, list, want, nil)
	checkOf(t, h, list, list[:3], eachRow(want, func(row []uint64) []uint64 { return row[:3] }), nil)
	checkOf(t, h, list[:3], list, want[:3], nil)
	checkNearest(t, h, low, ints{n - 1}, 0, (n-1-low)*api.MaxTotal, nil)
}
