package stamp

import (
	"maps"
	"math"
	"slices"
	"strconv"
	"testing"

	"viaduct/api"
	"viaduct/sample"
)

const (
	far     = math.MaxUint64
	lastAge = math.MaxUint32
)

// ages are first ages: the least ones, the greatest ones, some in the middle.
func ages() []uint32 {
	return []uint32{0, 1, 2, 3, 1 << 16, 1<<31 - 1, 1 << 31, lastAge - 3, lastAge - 2, lastAge - 1, lastAge}
}

func must(t *testing.T, n int, age uint32) *Stamp {
	t.Helper()
	s, err := New(n, age)
	if err != nil || s == nil {
		t.Fatalf("New(%d, %d): %v, %v", n, age, s, err)
	}
	return s
}

func checkError(t *testing.T, name string, err, want error) {
	t.Helper()
	if !sample.SameError(err, want) {
		t.Errorf("%s: %v, wanted %v", name, err, want)
	}
}

func checkGet(t *testing.T, s *Stamp, i int, want uint64, wantOk bool) {
	t.Helper()
	if v, ok := s.Get(i); v != want || ok != wantOk {
		t.Errorf("Get(%d): %d, %v, wanted %d, %v", i, v, ok, want, wantOk)
	}
}

func checkAll(t *testing.T, s *Stamp, want ...int) {
	t.Helper()
	if all := s.All(); !slices.Equal(all, want) {
		t.Errorf("All: %v, wanted %v", all, want)
	}
	if n := s.Len(); n != len(want) {
		t.Errorf("Len: %d, wanted %d", n, len(want))
	}
}

// outside are numbers that are no places of a Stamp of n.
func outside(n int) []int {
	return []int{n, n + 1, -1, -n - 1, math.MaxInt, math.MinInt, 1 << 32, -1 << 32}
}

// checkOutside: places outside are refused and hold nothing.
func checkOutside(t *testing.T, s *Stamp, n int) {
	t.Helper()
	for _, i := range outside(n) {
		checkError(t, "Set outside", s.Set(i, 1), api.ErrNode)
		checkGet(t, s, i, 0, false)
	}
}

// checkAsModel: a Stamp of n holds these numbers and no others.
func checkAsModel(t *testing.T, s *Stamp, n int, model map[int]uint64) {
	t.Helper()
	for i := -1; i <= n; i++ {
		v, ok := model[i]
		checkGet(t, s, i, v, ok)
	}
	checkAll(t, s, slices.Sorted(maps.Keys(model))...)
}

func TestP7_1New(t *testing.T) {
	for _, n := range []int{0, 1, 2, 100, api.MaxNodes - 1, api.MaxNodes} {
		for _, age := range ages() {
			s := must(t, n, age)
			checkAll(t, s)
			for i := range n {
				checkGet(t, s, i, 0, false)
			}
			checkOutside(t, s, n)
			checkAll(t, s)
			if n > 0 {
				checkError(t, "Set of n-1", s.Set(n-1, 5), nil)
				checkGet(t, s, n-1, 5, true)
				checkAll(t, s, n-1)
			}
		}
	}
}

func TestP7_1NewRefuses(t *testing.T) {
	for _, n := range []int{-1, api.MaxNodes + 1, math.MaxInt, math.MinInt, 1 << 32} {
		for _, age := range ages() {
			s, err := New(n, age)
			checkError(t, "New", err, api.ErrArg)
			if s != nil {
				t.Errorf("New(%d, %d): a Stamp beside an error", n, age)
			}
		}
	}
}

// Whatever the first age: over many Resets, each with numbers before it, the answers are those of the model.
func TestP7_1AgesAreNotSeen(t *testing.T) {
	const n = 5
	for _, age := range ages() {
		s := must(t, n, age)
		for round := range 12 {
			model := map[int]uint64{}
			for i := range n {
				if (round+i)%3 == 0 {
					checkError(t, "Set", s.Set(i, uint64(round*i)), nil)
					model[i] = uint64(round * i)
				}
			}
			checkAsModel(t, s, n, model)
			for range 1 + round%2 {
				s.Reset()
				checkAsModel(t, s, n, nil)
			}
		}
	}
}

// Set in one age, each place is empty in every later one, both right behind the end of the ages and beyond.
func TestP7_1OverTheEnd(t *testing.T) {
	for back := range uint32(4) {
		for resets := 1; resets < 10; resets++ {
			s := must(t, 2, lastAge-back)
			checkError(t, "Set", s.Set(0, 7), nil)
			for range resets {
				s.Reset()
			}
			checkAll(t, s)
			checkGet(t, s, 0, 0, false)
			checkError(t, "Set", s.Set(1, 0), nil)
			checkAll(t, s, 1)
			checkGet(t, s, 0, 0, false)
			checkGet(t, s, 1, 0, true)
		}
	}
}

// Once all the way round: the age in which a place was set comes back, its number doesn't.
func TestP7_1AllTheWayRound(t *testing.T) {
	for _, age := range []uint32{0, 5} {
		t.Run(strconv.Itoa(int(age)), func(t *testing.T) {
			t.Parallel()
			checkRound(t, age)
		})
	}
}

func checkRound(t *testing.T, first uint32) {
	s := must(t, 4, first)
	set := func(i int) {
		t.Helper()
		checkError(t, "Set", s.Set(i, 7), nil)
		checkAll(t, s, i)
	}
	reset := func(times int) {
		for range times {
			s.Reset()
		}
	}
	set(1)
	reset(1 << 31)
	set(2)
	reset(lastAge - 1<<31 - int(first))
	set(3)
	reset(1) // the age 0
	checkAsModel(t, s, 4, nil)
	set(0)
	reset(int(first)) // the first age again
	if first > 0 {
		checkAsModel(t, s, 4, nil)
	}
	reset(1 << 31)
	checkAsModel(t, s, 4, nil)
}

func TestP7_2Examples(t *testing.T) {
	s := must(t, 3, lastAge)
	checkError(t, "Set", s.Set(1, 7), nil)
	s.Reset()
	checkGet(t, s, 1, 0, false)
	checkError(t, "Set", s.Set(2, 0), nil)
	checkGet(t, s, 2, 0, true)
	checkAll(t, s, 2)
	s.Reset()
	s.Reset()
	checkAll(t, s)

	checkError(t, "Set", s.Set(3, 1), api.ErrNode)
	checkError(t, "Set", s.Set(-1, 1), api.ErrNode)
	checkAll(t, s)
}

func TestP7_2SetAndGet(t *testing.T) {
	s := must(t, 4, 0)
	for _, v := range []uint64{0, 1, far, 0, 1 << 32} {
		checkError(t, "Set", s.Set(2, v), nil)
		checkAsModel(t, s, 4, map[int]uint64{2: v})
	}
	checkError(t, "Set", s.Set(0, far), nil)
	checkError(t, "Set", s.Set(3, 0), nil)
	checkAsModel(t, s, 4, map[int]uint64{0: far, 2: 1 << 32, 3: 0})
	checkOutside(t, s, 4)
	checkAsModel(t, s, 4, map[int]uint64{0: far, 2: 1 << 32, 3: 0})
	s.Reset()
	checkAsModel(t, s, 4, nil)
	s.Reset()
	checkError(t, "Set", s.Set(1, 1), nil)
	checkAsModel(t, s, 4, map[int]uint64{1: 1})
}

// All tells the places in their own order, not in that in which they were set.
func TestP7_2AllRises(t *testing.T) {
	s := must(t, 6, 9)
	for _, i := range []int{4, 0, 5, 4, 2} {
		checkError(t, "Set", s.Set(i, 1), nil)
	}
	checkAll(t, s, 0, 2, 4, 5)
}

// Every short list of Sets and Resets, over the end of the ages too.
func TestP7_2AsTheModel(t *testing.T) {
	const n = 3
	const reset = 2 * n // below it: the place and one of two numbers
	var extend func(list []int)
	extend = func(list []int) {
		for _, age := range []uint32{0, lastAge - 1, lastAge} {
			s, model := must(t, n, age), map[int]uint64{}
			for _, c := range list {
				if c == reset {
					s.Reset()
					clear(model)
					continue
				}
				checkError(t, "Set", s.Set(c/2, uint64(c%2)), nil)
				model[c/2] = uint64(c % 2)
			}
			checkAsModel(t, s, n, model)
		}
		if len(list) == 5 || t.Failed() {
			return
		}
		for c := range reset + 1 {
			extend(append(slices.Clone(list), c))
		}
	}
	extend(nil)
}

func TestP7_2AsTheModelAtLength(t *testing.T) {
	dice := sample.Dice{Seed: 7}
	for _, age := range ages() {
		n := 1 + dice.Below(80)
		s, model := must(t, n, age), map[int]uint64{}
		for range 1000 {
			if dice.Below(40) == 0 {
				s.Reset()
				clear(model)
			} else {
				i, v := dice.Below(n), uint64(dice.Below(3))*(far/2)
				checkError(t, "Set", s.Set(i, v), nil)
				model[i] = v
			}
			checkAsModel(t, s, n, model)
			if t.Failed() {
				return
			}
		}
	}
}

func TestP7_2GreatestStamp(t *testing.T) {
	s := must(t, api.MaxNodes, lastAge)
	for round := range uint64(3) {
		for i := range api.MaxNodes {
			checkGet(t, s, i, 0, false)
			checkError(t, "Set", s.Set(i, uint64(i)*round), nil)
		}
		if all := s.All(); len(all) != api.MaxNodes || s.Len() != api.MaxNodes || !slices.IsSorted(all) || all[0] != 0 {
			t.Errorf("%d places, of which All tells %d", s.Len(), len(all))
		}
		for i := range api.MaxNodes {
			checkGet(t, s, i, uint64(i)*round, true)
		}
		checkError(t, "Set beyond", s.Set(api.MaxNodes, 0), api.ErrNode)
		s.Reset()
		checkAll(t, s)
	}
}

// Questions change nothing, however often they are asked.
func TestQuestionsChangeNothing(t *testing.T) {
	s := must(t, 4, lastAge)
	checkError(t, "Set", s.Set(1, 3), nil)
	for range 3 {
		checkAsModel(t, s, 4, map[int]uint64{1: 3})
		checkOutside(t, s, 4)
	}
}

func TestNilStamp(t *testing.T) {
	var s *Stamp
	for _, i := range append(outside(3), 0, 1, 2) {
		checkError(t, "Set", s.Set(i, 1), api.ErrNil)
		checkGet(t, s, i, 0, false)
	}
	checkAll(t, s)
	s.Reset()
	checkAll(t, s)
}

// A Stamp that New didn't make has no places.
func TestUnmadeStamp(t *testing.T) {
	s := &Stamp{}
	checkOutside(t, s, 0)
	s.Reset()
	checkOutside(t, s, 0)
	checkAll(t, s)
}

func TestMemoryOfAll(t *testing.T) {
	s := must(t, 5, 0)
	for _, i := range []int{3, 1} {
		checkError(t, "Set", s.Set(i, 1), nil)
	}
	one, other := s.All(), s.All()
	sample.SpoilList(one, -7)
	checkAll(t, s, 1, 3)
	checkError(t, "Set", s.Set(0, 1), nil)
	s.Reset()
	if !slices.Equal(other, []int{1, 3}) {
		t.Errorf("an earlier answer is now %v", other)
	}
}

func TestStampsAreApart(t *testing.T) {
	a, b := must(t, 3, 4), must(t, 3, 4)
	checkError(t, "Set", a.Set(1, 5), nil)
	checkError(t, "Set", b.Set(2, 6), nil)
	a.Reset()
	checkAll(t, a)
	checkAsModel(t, b, 3, map[int]uint64{2: 6})
}
