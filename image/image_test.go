package image

import (
	"bytes"
	"encoding/binary"
	"errors"
	"fmt"
	"math"
	"slices"
	"testing"

	"viaduct/api"
	"viaduct/fault"
	"viaduct/hier"
	"viaduct/order"
	"viaduct/sample"
)

// brief: what a failure tells of a thing, which may have a million links.
func brief(thing any) string {
	text := fmt.Sprintf("%v", thing)
	if p, is := thing.([]byte); is {
		text = fmt.Sprintf("% x", p[:min(len(p), 200)])
	}
	return text[:min(len(text), 600)]
}

func checkEncode(t *testing.T, h api.Hier, want []byte, wantErr error) {
	t.Helper()
	if x, err := Encode(h); !bytes.Equal(x, want) || !sample.SameError(err, wantErr) {
		t.Errorf("Encode(%v): %v, %v, wanted %v, %v", brief(h), brief(x), err, brief(want), wantErr)
	}
	if n, err := Size(h); n != len(want) || !sample.SameError(err, wantErr) {
		t.Errorf("Size(%v): %d, %v, wanted %d, %v", brief(h), n, err, len(want), wantErr)
	}
}

func checkDecode(t *testing.T, x []byte, want api.Hier, wantErr error) {
	t.Helper()
	if h, err := Decode(x); !sample.SameHier(h, want) || !sample.SameError(err, wantErr) {
		t.Errorf("Decode(%v), of %d bytes: %v, %v, wanted %v, %v", brief(x), len(x), brief(h), err, brief(want), wantErr)
	}
}

func checkRefused(t *testing.T, x []byte, want error) {
	t.Helper()
	checkDecode(t, x, api.Hier{}, want)
}

func mustEncode(t *testing.T, h api.Hier) []byte {
	t.Helper()
	x, err := Encode(h)
	if err != nil {
		t.Fatalf("Encode(%v): %v", brief(h), err)
	}
	return x
}

// none: the hierarchy of no nodes.
func none() api.Hier {
	return api.Hier{UpFirst: []uint32{0}, DownFirst: []uint32{0}}
}

// noneBytes: its image, as the chapter's example has it.
func noneBytes() []byte {
	return sealed(append([]byte{0x56, 0x44, 0x43, 0x54, 1, 0, 0, 0}, make([]byte, 20)...))
}

// threeBytes: the image of chapter 10's example, written out.
func threeBytes() []byte {
	return sealed([]byte{
		0x56, 0x44, 0x43, 0x54, 1, 0, 0, 0,
		3, 0, 0, 0, 2, 0, 0, 0, 1, 0, 0, 0,
		1, 0, 0, 0, 0, 0, 0, 0, 2, 0, 0, 0,
		0, 0, 0, 0, 1, 0, 0, 0, 2, 0, 0, 0, 2, 0, 0, 0,
		2, 0, 0, 0, 0xff, 0xff, 0xff, 0xff, 0xff, 0xff, 0xff, 0xff, 1, 0, 0, 0, 0, 0, 0, 0,
		2, 0, 0, 0, 2, 0, 0, 0, 0, 0, 0, 0, 5, 0, 0, 0, 0, 0, 0, 0,
		0, 0, 0, 0, 1, 0, 0, 0, 1, 0, 0, 0, 1, 0, 0, 0,
		1, 0, 0, 0, 0xff, 0xff, 0xff, 0xff, 0xff, 0xff, 0xff, 0xff, 4, 0, 0, 0, 0, 0, 0, 0,
	})
}

// header: 32 bytes, or more, noughts but for the beginning and these counts.
func header(size int, n, a, b uint32) []byte {
	x := make([]byte, size)
	copy(x, []byte{0x56, 0x44, 0x43, 0x54, 1})
	for i, v := range []uint32{n, a, b} {
		binary.LittleEndian.PutUint32(x[8+4*i:], v)
	}
	return x
}

// changed: a copy with another byte at a place.
func changed(x []byte, at int, v byte) []byte {
	x = bytes.Clone(x)
	x[at] = v
	return x
}

func TestP19_1Examples(t *testing.T) {
	checkEncode(t, none(), noneBytes(), nil)
	checkEncode(t, api.Hier{Node: []uint32{}, UpFirst: []uint32{0}, Up: []api.Link{}, DownFirst: []uint32{0}, Down: []api.Link{}}, noneBytes(), nil)
	checkEncode(t, sample.Three(), threeBytes(), nil)
	if len(noneBytes()) != 32 || len(threeBytes()) != 128 {
		t.Errorf("%d and %d bytes", len(noneBytes()), len(threeBytes()))
	}
}

// built: hierarchies as order makes them.
func built(t *testing.T) []api.Hier {
	t.Helper()
	dice := sample.Dice{Seed: 190}
	var all []api.Hier
	for i := range 60 {
		n := 1 + dice.Below(40)
		g := dice.Graph(n, dice.Below(4*n), []int{9, api.MaxWeight}[i%2])
		h, err := order.Build(g, api.Options{Hops: i % 6, Settles: i % 11, Edge: 2, Deleted: 1, Depth: 1})
		if err != nil {
			t.Fatal(err)
		}
		all = append(all, h)
	}
	return all
}

// inForm: all hierarchies of the tests that are small and in form.
func inForm(t *testing.T) []api.Hier {
	t.Helper()
	return append(slices.Collect(sample.Hiers()), built(t)...)
}

func TestP19_1Encode(t *testing.T) {
	for _, h := range inForm(t) {
		want := bytesOf(h)
		if size := 32 + 12*len(h.Node) + 20*(len(h.Up)+len(h.Down)); len(want) != size {
			t.Fatalf("%d bytes, wanted %d", len(want), size)
		}
		checkEncode(t, h, want, nil)
	}
}

// Weights that take more than four bytes: all eight of them are told.
func TestP19_1GreatWeights(t *testing.T) {
	h := sample.Doubling(19, 1<<30-3)
	last := h.Up[len(h.Up)-1].Weight
	if last>>32 == 0 || uint32(last) == 0 {
		t.Fatalf("the last shortcut weighs %x", last)
	}
	checkEncode(t, h, bytesOf(h), nil)
	checkDecode(t, bytesOf(h), h, nil)
}

func TestP19_1ErrorsOfEncode(t *testing.T) {
	for _, w := range sample.WrongHiers() {
		checkEncode(t, w.Hier, nil, w.Err)
	}
}

func TestP19_2Examples(t *testing.T) {
	checkRefused(t, nil, byteAt(0, api.ErrShort))
	checkRefused(t, []byte{}, byteAt(0, api.ErrShort))
	checkRefused(t, make([]byte, 32), byteAt(0, api.ErrMagic))
	x := noneBytes()
	checkDecode(t, x, none(), nil)
	checkRefused(t, append(bytes.Clone(x), 0), byteAt(32, api.ErrExtra))
	checkRefused(t, changed(x, 4, 2), byteAt(4, api.ErrVersion))
	checkRefused(t, changed(x, 8, 1), byteAt(32, api.ErrShort))
	checkRefused(t, changed(x, 10, 1), byteAt(32, api.ErrShort))
	checkRefused(t, changed(x, 11, 1), byteAt(8, api.ErrLimit))
	checkRefused(t, changed(x, 31, x[31]^0xff), byteAt(28, api.ErrSum))
	checkDecode(t, threeBytes(), sample.Three(), nil)
}

func TestP19_2Decode(t *testing.T) {
	for _, h := range inForm(t) {
		checkDecode(t, bytesOf(h), h, nil)
	}
}

// Each byte of the beginning, with each other value.
func TestP19_2MagicAndVersion(t *testing.T) {
	for _, x := range [][]byte{noneBytes(), threeBytes()} {
		for i := range 8 {
			for v := range 256 {
				y := changed(x, i, byte(v))
				want := byteAt(i, []api.Errno{api.ErrMagic, api.ErrVersion}[i/4])
				if x[i] == byte(v) {
					continue
				}
				checkRefused(t, y, want)
				checkRefused(t, sealedAnew(y), want)
			}
		}
	}
}

// Of several faults the one that is asked first counts.
func TestP19_2OrderOfErrors(t *testing.T) {
	x := threeBytes()
	many := func(size int, places ...int) []byte {
		y := append(bytes.Clone(x), make([]byte, 500)...)[:size]
		for _, i := range places {
			y[i] ^= 0xff
		}
		return y
	}
	for _, c := range []struct {
		x    []byte
		want error
	}{
		{many(31, 0, 4, 11, 15), byteAt(31, api.ErrShort)},
		{many(1, 0), byteAt(1, api.ErrShort)},
		{many(32, 3, 7, 11, 15), byteAt(3, api.ErrMagic)},
		{many(128, 1, 2, 3, 4), byteAt(1, api.ErrMagic)},
		{many(200, 2, 11), byteAt(2, api.ErrMagic)},
		{many(32, 5, 6, 7, 11, 15), byteAt(5, api.ErrVersion)},
		{many(128, 7, 8), byteAt(7, api.ErrVersion)},
		{many(200, 6, 19), byteAt(6, api.ErrVersion)},
		{many(128, 11, 15, 19), byteAt(8, api.ErrLimit)},
		{many(32, 11, 19), byteAt(8, api.ErrLimit)},
		{many(300, 15, 19), byteAt(12, api.ErrLimit)},
		{many(32, 15), byteAt(12, api.ErrLimit)},
		{many(300, 19, 40), byteAt(16, api.ErrLimit)},
		{many(32, 19), byteAt(16, api.ErrLimit)},
		{many(127, 20), byteAt(127, api.ErrShort)},
		{many(129, 20), byteAt(128, api.ErrExtra)},
		{many(300), byteAt(128, api.ErrExtra)},
		{many(128, 20), byteAt(124, api.ErrSum)},
		{many(128, 20, 127), byteAt(124, api.ErrSum)},
		{sealedAnew(many(128, 20)), fault.At(api.AtNode, 0, api.ErrOrder)},
		{sealedAnew(many(128, 20, 32)), api.ErrShape},
	} {
		checkRefused(t, c.x, c.want)
	}
}

// The counts at their limits and beyond, with too few bytes for them.
func TestP19_2Counts(t *testing.T) {
	const nodes, arcs, most = api.MaxNodes, api.MaxLinks, math.MaxUint32
	for _, c := range []struct {
		n, a, b uint32
		want    error
	}{
		{nodes, 0, 0, byteAt(40, api.ErrShort)},
		{nodes + 1, 0, 0, byteAt(8, api.ErrLimit)},
		{most, most, most, byteAt(8, api.ErrLimit)},
		{1 << 31, 0, 0, byteAt(8, api.ErrLimit)},
		{nodes, arcs, arcs, byteAt(40, api.ErrShort)},
		{0, arcs, 0, byteAt(40, api.ErrShort)},
		{0, arcs + 1, 0, byteAt(12, api.ErrLimit)},
		{0, most, 0, byteAt(12, api.ErrLimit)},
		{nodes, 1 << 31, most, byteAt(12, api.ErrLimit)},
		{0, 0, arcs, byteAt(40, api.ErrShort)},
		{0, 0, arcs + 1, byteAt(16, api.ErrLimit)},
		{nodes, arcs, most, byteAt(16, api.ErrLimit)},
		{0, 0, 1 << 31, byteAt(16, api.ErrLimit)},
		{1, 0, 0, byteAt(40, api.ErrShort)},
		{0, 1, 0, byteAt(40, api.ErrShort)},
		{0, 0, 1, byteAt(40, api.ErrShort)},
		{0, 0, 0, byteAt(32, api.ErrExtra)},
	} {
		checkRefused(t, header(40, c.n, c.a, c.b), c.want)
		checkRefused(t, sealedAnew(header(40, c.n, c.a, c.b)), c.want)
	}
}

// As many bytes as the counts may want at most: of each error that comes behind them the last one.
func TestP19_2GreatestCounts(t *testing.T) {
	const m = 32 + 12*api.MaxNodes + 2*20*api.MaxLinks
	x := header(m+1, api.MaxNodes, api.MaxLinks, api.MaxLinks)
	checkRefused(t, x, byteAt(m, api.ErrExtra))
	checkRefused(t, x[:m-1], byteAt(m-1, api.ErrShort))
	checkRefused(t, x[:m], byteAt(m-4, api.ErrSum))
	checkRefused(t, sealedAnew(x[:m]), api.ErrLimit)
}

// Each hierarchy that isn't in form, as bytes with the right sum, where its counts can be told.
func TestP19_2ErrorsOfForm(t *testing.T) {
	asked := 0
	for _, w := range sample.WrongHiers() {
		h := w.Hier
		n := len(h.Node)
		if n > api.MaxNodes || len(h.Up) > api.MaxLinks || len(h.Down) > api.MaxLinks || len(h.UpFirst) != n+1 || len(h.DownFirst) != n+1 {
			continue
		}
		asked++
		checkRefused(t, bytesOf(h), w.Err)
	}
	if asked < 50 {
		t.Errorf("only %d of them", asked)
	}
	const half = api.MaxLinks / 2
	checkRefused(t, bytesOf(sample.Flat(1100, half+1, half)), api.ErrLimit)
}

// spoilt: bytes changed in some way, sealed anew or not.
func spoilt(x []byte, dice *sample.Dice) []byte {
	x = bytes.Clone(x)
	word := func(at int) {
		v := binary.LittleEndian.Uint32(x[at:])
		v = []uint32{v + 1, v - 1, uint32(dice.Below(8)), v ^ 1<<dice.Below(32), math.MaxUint32, 65536, 65537, 1 << 20, 1<<20 + 1}[dice.Below(9)]
		binary.LittleEndian.PutUint32(x[at:], v)
	}
	for range dice.Below(3) {
		switch dice.Below(12) {
		case 0:
			word(8 + 4*dice.Below(3))
		case 1:
			x[dice.Below(8)] = byte(dice.Below(256))
		case 2:
			x = x[:dice.Below(len(x)+1)]
		case 3:
			x = append(x, dice.Bytes(1+dice.Below(30))...)
		case 4:
			binary.LittleEndian.PutUint32(x[len(x)-4:], uint32(dice.Below(1<<32)))
		default:
			word(4 * dice.Below(len(x)/4))
		}
		if len(x) < 32 {
			return x
		}
	}
	if dice.Below(4) > 0 {
		return sealedAnew(x)
	}
	return x
}

func TestP19_2Model(t *testing.T) {
	dice := sample.Dice{Seed: 192}
	counts := map[api.Errno]int{}
	for _, h := range inForm(t) {
		if len(h.Node) > 12 {
			continue
		}
		x := bytesOf(h)
		for range 200 {
			y := spoilt(x, &dice)
			want, err := model(y)
			counts[fault.Code(err)]++
			checkDecode(t, y, want, err)
			if err == nil {
				checkEncode(t, want, y, nil)
			}
		}
	}
	for _, e := range []api.Errno{0, api.ErrShort, api.ErrMagic, api.ErrVersion, api.ErrLimit, api.ErrExtra, api.ErrSum, api.ErrShape, api.ErrOrder, api.ErrWeight} {
		if counts[e] < 300 {
			t.Errorf("only %d lists of bytes of %v", counts[e], e)
		}
	}
}

// Bytes without any form.
func TestP19_2AnyBytes(t *testing.T) {
	dice := sample.Dice{Seed: 193}
	for i := range 3000 {
		x := dice.Bytes(dice.Below(120))
		copy(x, header(40, uint32(dice.Below(4)), uint32(dice.Below(4)), uint32(dice.Below(4)))[:8+4*(i%4)])
		if len(x) >= 32 && i%2 == 0 {
			x = sealedAnew(x)
		}
		want, err := model(x)
		checkDecode(t, x, want, err)
	}
}

func TestP19_3ThereAndBack(t *testing.T) {
	for _, h := range inForm(t) {
		x := mustEncode(t, h)
		back, err := Decode(x)
		if err != nil || !hier.Same(back, h) {
			t.Errorf("Decode(Encode(%v)): %v, %v", brief(h), brief(back), err)
		}
		if again := mustEncode(t, back); !bytes.Equal(again, x) {
			t.Errorf("Encode(Decode(%v)): %v", brief(x), brief(again))
		}
	}
}

// The greatest hierarchies come back; one beyond is refused.
func TestP19_3Limits(t *testing.T) {
	const half = api.MaxLinks / 2
	for _, h := range []api.Hier{
		sample.Flat(api.MaxNodes, api.MaxNodes-1, 0),
		sample.Flat(api.MaxNodes, half, half),
		sample.Flat(1500, api.MaxLinks, 0),
		sample.Flat(1500, 0, api.MaxLinks),
	} {
		x := mustEncode(t, h)
		if !bytes.Equal(x, bytesOf(h)) {
			t.Errorf("Encode: %v", brief(x))
		}
		checkDecode(t, x, h, nil)
		checkRefused(t, sample.Turned(x, 8*len(x)/2, 1), byteAt(len(x)-4, api.ErrSum))
		checkRefused(t, x[:len(x)-1], byteAt(len(x)-1, api.ErrShort))
		checkRefused(t, append(x, 0), byteAt(len(x), api.ErrExtra))
	}
	for _, h := range []api.Hier{sample.Flat(api.MaxNodes+1, 0, 0), sample.Flat(1500, api.MaxLinks+1, 0), sample.Flat(1500, 0, api.MaxLinks+1), sample.Flat(1100, half, half+1)} {
		checkEncode(t, h, nil, api.ErrLimit)
	}
	checkRefused(t, bytesOf(sample.Flat(api.MaxNodes+1, 0, 0)), byteAt(8, api.ErrLimit))
	checkRefused(t, bytesOf(sample.Flat(1500, api.MaxLinks+1, 0)), byteAt(12, api.ErrLimit))
	checkRefused(t, bytesOf(sample.Flat(1500, 0, api.MaxLinks+1)), byteAt(16, api.ErrLimit))
}

// Each beginning that is shorter, and the whole with bytes behind it.
func TestP19_3CutsAndExtras(t *testing.T) {
	dice := sample.Dice{Seed: 194}
	for i, h := range inForm(t) {
		x := mustEncode(t, h)
		if len(x) > 2000 {
			continue
		}
		for k := range x {
			checkRefused(t, x[:k], byteAt(k, api.ErrShort))
			// What lies behind the length is none of the bytes.
			checkRefused(t, bytes.Clone(x)[:k], byteAt(k, api.ErrShort))
		}
		for more := 1; more < 40; more++ {
			checkRefused(t, append(bytes.Clone(x), dice.Bytes(more)...), byteAt(len(x), api.ErrExtra))
			checkRefused(t, sealed(append(bytes.Clone(x), dice.Bytes(more)...)), byteAt(len(x), api.ErrExtra))
		}
		if i%10 == 0 {
			checkRefused(t, append(bytes.Clone(x), x...), byteAt(len(x), api.ErrExtra))
		}
	}
}

// checkBurst: bytes with some bits turned over, wherever they lie, are refused with the error that the chapter's order gives them.
func checkBurst(t *testing.T, x []byte, i int, bits uint32) {
	t.Helper()
	y := sample.Turned(x, i, bits)
	if bytes.Equal(x, y) {
		return
	}
	_, want := model(y)
	if want == nil {
		t.Fatalf("the bits %08x from %d on are not seen by the model", bits, i)
	}
	checkRefused(t, y, want)
}

func TestP19_3AllBits(t *testing.T) {
	for _, h := range []api.Hier{none(), sample.Three(), sample.Flat(1, 0, 0), sample.Flat(4, 3, 5), sample.Doubling(5, 3)} {
		x := mustEncode(t, h)
		for i := range 8 * len(x) {
			for bits := uint32(1); bits < 64; bits += 2 {
				checkBurst(t, x, i, bits)
			}
			checkBurst(t, x, i, 0x80000001)
			checkBurst(t, x, i, math.MaxUint32)
		}
	}
}

func TestP19_3Bursts(t *testing.T) {
	dice := sample.Dice{Seed: 195}
	for _, h := range inForm(t) {
		x := mustEncode(t, h)
		for range 60 {
			bits := uint32(dice.Below(1 << 32))
			checkBurst(t, x, dice.Below(8*len(x)), bits|1)
			checkBurst(t, x, dice.Below(8*len(x)), bits>>dice.Below(32)|1)
			// Where the counts stand, which say how many bytes there must be.
			checkBurst(t, x, 64+dice.Below(96), bits>>dice.Below(32)|1)
		}
	}
}

// Writing over an answer, or over what was handed in, spare room too, changes nothing else.
func TestMemoryOfEncode(t *testing.T) {
	for _, h := range inForm(t) {
		want, roomy := bytesOf(h), sample.RoomyHier(h)
		was := sample.RoomOfHier(roomy)
		first, second := mustEncode(t, roomy), mustEncode(t, roomy)
		if size, err := Size(roomy); size != len(want) || err != nil {
			t.Errorf("Size: %d, %v", size, err)
		}
		sample.SpoilList(first, 0x99)
		if !sample.SameHier(sample.RoomOfHier(roomy), was) || !sample.SameHier(roomy, h) {
			t.Fatalf("a hierarchy has changed: %v", brief(roomy))
		}
		sample.SpoilHier(roomy)
		if !bytes.Equal(second, want) {
			t.Fatalf("an image has changed: %v", brief(second))
		}
	}
}

func TestMemoryOfDecode(t *testing.T) {
	for _, h := range inForm(t) {
		x := sample.RoomyList(bytesOf(h), 0xee)
		was := sample.RoomOf(x)
		first, err := Decode(x)
		second, err2 := Decode(x)
		if err := fault.First(err, err2); err != nil {
			t.Fatal(err)
		}
		if !sample.ListsApart(first) {
			t.Fatalf("Decode of %v: two lists have memory in common", brief(h))
		}
		if !bytes.Equal(sample.RoomOf(x), was) {
			t.Fatalf("what was handed in has changed: %v", brief(x))
		}
		sample.SpoilList(x, 0x99)
		if !sample.SameHier(second, h) {
			t.Fatalf("a hierarchy has changed: %v", brief(second))
		}
	}
}

// What is refused stays as it is, too.
func TestMemoryOfWrong(t *testing.T) {
	dice := sample.Dice{Seed: 196}
	for range 500 {
		x := sample.RoomyList(spoilt(threeBytes(), &dice), 0xee)
		was := sample.RoomOf(x)
		Decode(x)
		if !bytes.Equal(sample.RoomOf(x), was) {
			t.Fatalf("what was handed in has changed: %v", brief(x))
		}
	}
	for _, w := range sample.WrongHiers() {
		roomy := sample.RoomyHier(w.Hier)
		was := sample.RoomOfHier(roomy)
		Encode(roomy)
		Size(roomy)
		if !sample.SameHier(sample.RoomOfHier(roomy), was) {
			t.Errorf("%s: the hierarchy has changed", w.Name)
		}
	}
}

// P2: the same answers, whatever was asked between.
func TestQuestionsChangeNothing(t *testing.T) {
	dice := sample.Dice{Seed: 197}
	for range 200 {
		Decode(spoilt(threeBytes(), &dice))
		checkDecode(t, threeBytes(), sample.Three(), nil)
		checkRefused(t, threeBytes()[:50], byteAt(50, api.ErrShort))
		Encode(api.Hier{})
		checkEncode(t, sample.Three(), threeBytes(), nil)
		checkEncode(t, none(), noneBytes(), nil)
	}
}

// The reader gives up in many ways; whatever else is thrown, bytes aren't taken for a hierarchy.
func TestReason(t *testing.T) {
	at := byteAt(7, api.ErrSum)
	for _, c := range []struct {
		thrown any
		want   error
	}{
		{at, at},
		{errors.Join(at), at},
		{errors.New("x"), api.ErrShape},
		{"x", api.ErrShape},
		{7, api.ErrShape},
	} {
		if err := reason(c.thrown); !sample.SameError(err, c.want) {
			t.Errorf("reason(%v): %v", c.thrown, err)
		}
	}
}
