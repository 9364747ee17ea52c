package rank

import (
	"cmp"
	"math"
	"math/big"
	"slices"
	"testing"

	"viaduct/api"
	"viaduct/sample"
)

const (
	least    = math.MinInt
	greatest = math.MaxInt
	bound    = api.MaxBound
	factor   = api.MaxFactor
)

func checkPlain(t *testing.T, opts, want api.Options) {
	t.Helper()
	if p := Plain(opts); p != want {
		t.Errorf("Plain(%v): %v, wanted %v", opts, p, want)
	}
}

func checkPriority(t *testing.T, opts api.Options, diff, deleted, depth, want int) {
	t.Helper()
	if p := Priority(opts, diff, deleted, depth); p != want {
		t.Errorf("Priority(%v, %d, %d, %d): %d, wanted %d", opts, diff, deleted, depth, p, want)
	}
}

// fields: options with all five fields, in api's order.
func fields(list [5]int) api.Options {
	return api.Options{Hops: list[0], Settles: list[1], Edge: list[2], Deleted: list[3], Depth: list[4]}
}

// someInts: the ends of the int's range, of those of the options, and what lies beside them.
func someInts() []int {
	list := []int{least, least + 1, -1 << 32, -bound - 1, -bound, -factor - 1, -factor, -factor + 1, -7, -2, -1, 0, 1, 2, 7}
	return append(list, factor-1, factor, factor+1, bound-1, bound, bound+1, 1<<32, greatest-1, greatest)
}

func TestP14_1Examples(t *testing.T) {
	checkPlain(t, fields([5]int{-1, 1048577, 1001, -1001, 7}), fields([5]int{0, 1048576, 1000, -1000, 7}))
}

// Each field by itself, the others at numbers that stay.
func TestP14_1EachField(t *testing.T) {
	for field := range 5 {
		low, high := -factor, factor
		if field < 2 {
			low, high = 0, bound
		}
		for _, n := range someInts() {
			want := n
			if n < low {
				want = low
			}
			if n > high {
				want = high
			}
			from, to := [5]int{1, 2, 3, -4, 5}, [5]int{1, 2, 3, -4, 5}
			from[field], to[field] = n, want
			checkPlain(t, fields(from), fields(to))
		}
	}
}

func TestP14_1AllFields(t *testing.T) {
	checkPlain(t, api.Options{}, api.Options{})
	checkPlain(t, fields([5]int{least, least, least, least, least}), fields([5]int{0, 0, -1000, -1000, -1000}))
	checkPlain(t, fields([5]int{greatest, greatest, greatest, greatest, greatest}), fields([5]int{1 << 20, 1 << 20, 1000, 1000, 1000}))
	dice := sample.Dice{Seed: 141}
	for range 1000 {
		var list [5]int
		for i := range list {
			list[i] = someInts()[dice.Below(len(someInts()))]
		}
		once := Plain(fields(list))
		checkPlain(t, once, once)
	}
}

func TestP14_2Examples(t *testing.T) {
	checkPriority(t, api.Options{Edge: 2, Deleted: 1, Depth: 3}, -1, 4, 1, 5)
}

func TestP14_2EachPart(t *testing.T) {
	for _, n := range []int{-9, -1, 0, 1, 1000000} {
		checkPriority(t, api.Options{Edge: 3, Hops: 5, Settles: 5}, n, 7, 7, 3*n)
		checkPriority(t, api.Options{Deleted: 3, Hops: 5, Settles: 5}, 7, n, 7, 3*n)
		checkPriority(t, api.Options{Depth: 3, Hops: 5, Settles: 5}, 7, 7, n, 3*n)
		checkPriority(t, api.Options{Edge: -1, Deleted: -10, Depth: -100}, n, 1, 1, -n-110)
		checkPriority(t, api.Options{Hops: 9, Settles: 9}, n, n, n, 0)
	}
}

// The factors count as Plain has them.
func TestP14_2PlainFactors(t *testing.T) {
	for _, far := range []int{factor, factor + 1, bound, greatest} {
		checkPriority(t, api.Options{Edge: far}, 3, 5, 7, 3000)
		checkPriority(t, api.Options{Deleted: far}, 3, 5, 7, 5000)
		checkPriority(t, api.Options{Depth: far}, 3, 5, 7, 7000)
	}
	for _, far := range []int{-factor, -factor - 1, -bound, least} {
		checkPriority(t, api.Options{Edge: far}, 3, 5, 7, -3000)
		checkPriority(t, api.Options{Deleted: far}, 3, 5, 7, -5000)
		checkPriority(t, api.Options{Depth: far}, 3, 5, 7, -7000)
	}
}

func TestP14_2WrapsRound(t *testing.T) {
	checkPriority(t, api.Options{Edge: 2}, greatest, 0, 0, -2)
	checkPriority(t, api.Options{Edge: 2}, least, 0, 0, 0)
	checkPriority(t, api.Options{Edge: -1}, least, 0, 0, least)
	checkPriority(t, api.Options{Edge: 1, Deleted: 1}, greatest, 1, 0, least)
	checkPriority(t, api.Options{Edge: 1, Deleted: 1, Depth: 1}, greatest, greatest, greatest, greatest-2)
	checkPriority(t, api.Options{Edge: 1, Depth: -1}, least, 0, 1, greatest)
}

// wrapped: the number of 64 bits with a sign that differs from n by a multiple of 2^64.
func wrapped(n *big.Int) int {
	whole := new(big.Int).Lsh(big.NewInt(1), 64)
	rest := new(big.Int).Mod(n, whole)
	if rest.Bit(63) == 1 {
		rest.Sub(rest, whole)
	}
	return int(rest.Int64())
}

func TestP14_2AsBigNumbers(t *testing.T) {
	dice := sample.Dice{Seed: 142}
	any := func() int {
		if dice.Below(3) == 0 {
			return int(uint64(dice.Below(1<<32))<<32 + uint64(dice.Below(1<<32)))
		}
		return someInts()[dice.Below(len(someInts()))]
	}
	for range 5000 {
		opts := fields([5]int{any(), any(), any(), any(), any()})
		p, parts := Plain(opts), [3]int{any(), any(), any()}
		sum := new(big.Int)
		for i, by := range []int{p.Edge, p.Deleted, p.Depth} {
			sum.Add(sum, new(big.Int).Mul(big.NewInt(int64(by)), big.NewInt(int64(parts[i]))))
		}
		checkPriority(t, opts, parts[0], parts[1], parts[2], wrapped(sum))
		checkPriority(t, p, parts[0], parts[1], parts[2], wrapped(sum))
	}
}

func TestP14_3Examples(t *testing.T) {
	for priority, want := range map[int]uint64{
		0:            9223372036854775808,
		-1:           9223372036854775807,
		1:            9223372036854775809,
		least:        0,
		least + 1:    1,
		greatest:     math.MaxUint64,
		greatest - 1: math.MaxUint64 - 1,
	} {
		if key := Key(priority); key != want {
			t.Errorf("Key(%d): %d, wanted %d", priority, key, want)
		}
		if back := Unkey(want); back != priority {
			t.Errorf("Unkey(%d): %d, wanted %d", want, back, priority)
		}
	}
}

func TestP14_3ThereAndBack(t *testing.T) {
	dice := sample.Dice{Seed: 143}
	list := someInts()
	for range 1000 {
		list = append(list, int(uint64(dice.Below(1<<32))<<32+uint64(dice.Below(1<<32))), dice.Below(4000)-2000)
	}
	slices.Sort(list)
	for i, priority := range list {
		key := Key(priority)
		if Unkey(key) != priority {
			t.Errorf("Unkey(Key(%d)): %d", priority, Unkey(key))
		}
		if back := Key(Unkey(uint64(priority))); back != uint64(priority) {
			t.Errorf("Key(Unkey(%d)): %d", uint64(priority), back)
		}
		if priority < greatest && Key(priority+1)-key != 1 {
			t.Errorf("Key(%d) is %d, Key(%d) is %d", priority, key, priority+1, Key(priority+1))
		}
		for _, other := range list[:i] {
			if cmp.Compare(Key(other), key) != cmp.Compare(other, priority) {
				t.Errorf("Key(%d) is %d, Key(%d) is %d", other, Key(other), priority, key)
			}
		}
	}
}
