package build

import (
	"bytes"
	"encoding/binary"
	"hash/crc32"
	"math"
	"strings"
	"testing"

	"viaduct/api"
	"viaduct/csr"
	"viaduct/fault"
	"viaduct/gtext"
	"viaduct/hier"
	"viaduct/image"
	"viaduct/order"
	"viaduct/query"
	"viaduct/sample"
	"viaduct/search"
)

const far = api.Unreached

// checkDistance: that from s to v, or none, if it is far.
func checkDistance(t *testing.T, h api.Hier, s, v int, want uint64) {
	t.Helper()
	dist, err := query.Distance(h, s, v)
	if want == far && (dist != 0 || !sample.SameError(err, api.ErrNoWalk)) || want != far && (dist != want || err != nil) {
		t.Errorf("%s: from %d to %d: %d, %v, wanted %d", brief(h), s, v, dist, err, want)
	}
}

func checkDistances(t *testing.T, h api.Hier, want [][]uint64) {
	t.Helper()
	for s, row := range want {
		for v, dist := range row {
			checkDistance(t, h, s, v, dist)
		}
	}
}

// checkCompiled (P3, P24.3): what Compile makes is loaded, and has the distances of the graph.
func checkCompiled(t *testing.T, g api.Graph, opts api.Options) {
	t.Helper()
	checkDistances(t, mustLoad(t, mustCompile(t, textOf(g), opts)), sample.Distances(g))
}

func TestP3Examples(t *testing.T) {
	want := [][]uint64{{0, 4, 5, 7}, {far, 0, 1, 3}, {far, far, 0, 2}, {far, far, far, 0}}
	for _, opts := range sample.Options() {
		h := mustLoad(t, mustCompile(t, whole, opts))
		checkDistances(t, h, want)
		if _, err := query.Distance(h, 4, 0); !sample.SameError(err, fault.At(api.AtNode, 0, api.ErrNode)) {
			t.Errorf("of a node 4: %v", err)
		}
	}
}

func TestP3P24_3SmallGraphs(t *testing.T) {
	all, i := sample.Options(), 0
	for g := range sample.Some() {
		checkCompiled(t, g, all[i%len(all)])
		i++
	}
}

func TestP3P8EachOption(t *testing.T) {
	dice := sample.Dice{Seed: 244}
	for range 15 {
		n := 1 + dice.Below(16)
		g := dice.Graph(n, dice.Below(4*n), []int{0, 1, 30, api.MaxWeight}[dice.Below(4)])
		for _, opts := range sample.Options() {
			checkCompiled(t, g, opts)
		}
		for range 20 {
			checkCompiled(t, g, anyOptions(&dice))
		}
	}
}

// anyOptions: within the ranges and beyond them.
func anyOptions(dice *sample.Dice) api.Options {
	number := func() int {
		numbers := []int{0, 1, -1, 2, 3, 5, 9, 50, -7, 999, 1000, 1001, -1000, -1001, api.MaxBound, api.MaxBound + 1, math.MaxInt, math.MinInt}
		return numbers[dice.Below(len(numbers))]
	}
	return api.Options{Hops: number(), Settles: number(), Edge: number(), Deleted: number(), Depth: number()}
}

// The image of a hierarchy along whichever order is loaded too, with the same distances.
func TestP8EachOrder(t *testing.T) {
	dice := sample.Dice{Seed: 245}
	for range 60 {
		n := 1 + dice.Below(12)
		g := dice.Graph(n, dice.Below(4*n), []int{1, 9, api.MaxWeight}[dice.Below(3)])
		want := sample.Distances(g)
		for range 5 {
			h, err := order.Along(g, dice.Shuffled(n), anyOptions(&dice))
			if err != nil {
				t.Fatal(err)
			}
			x := mustEncode(t, h)
			checkLoad(t, x, h, nil)
			checkDistances(t, mustLoad(t, x), want)
		}
	}
}

// checkFrom: the distances from some nodes, as a plain search finds them.
func checkFrom(t *testing.T, h api.Hier, g api.Graph, starts ...int) {
	t.Helper()
	c, err := csr.Build(g)
	if err != nil {
		t.Fatal(err)
	}
	for _, s := range starts {
		want, err := search.From(c, s)
		if err != nil {
			t.Fatal(err)
		}
		for i := range 20 {
			v := (s*7 + i*i*31 + i) % g.N
			checkDistance(t, h, s, v, want[v])
		}
	}
}

func TestP3P8Streets(t *testing.T) {
	dice := sample.Dice{Seed: 246}
	g := dice.Streets(18)
	for _, opts := range sample.Options()[:5] {
		h := mustLoad(t, mustCompile(t, textOf(g), opts))
		checkFrom(t, h, g, 0, 13, 100, 212, g.N-1)
	}
}

// As many nodes as there may be, on a path as long and dear as a text has room for.
func TestP3GreatestTexts(t *testing.T) {
	g := api.Graph{N: api.MaxNodes}
	for v := range 38000 {
		g.Arcs = append(g.Arcs, api.Arc{From: v, To: v + 1, Weight: api.MaxWeight})
	}
	text := textOf(g)
	if len(text) > api.MaxText || len(text) < api.MaxText-50000 {
		t.Fatalf("%d bytes", len(text))
	}
	for _, opts := range sample.Options()[:2] {
		h := mustLoad(t, mustCompile(t, text, opts))
		checkDistance(t, h, 0, 38000, 38000*api.MaxWeight)
		checkDistance(t, h, 17, 25000, (25000-17)*api.MaxWeight)
		checkDistance(t, h, 38000, 0, far)
		checkDistance(t, h, 0, api.MaxNodes-1, far)
		checkDistance(t, h, api.MaxNodes-1, api.MaxNodes-1, 0)
	}
	checkText(t, strings.Replace(text, "graph 65536", "graph 65537", 1), lineAt(1, api.ErrLimit))
}

// funnel: a node 0 with arcs from so many nodes and to as many others; and so many arcs that lie by themselves.
func funnel(side, apart int) api.Graph {
	g := api.Graph{N: 1 + 2*side + 2*apart}
	for i := range side {
		g.Arcs = append(g.Arcs, api.Arc{From: 1 + i, To: 0, Weight: 1}, api.Arc{From: 0, To: 1 + side + i, Weight: 2})
	}
	for i := range apart {
		v := 1 + 2*side + 2*i
		g.Arcs = append(g.Arcs, api.Arc{From: v, To: v + 1, Weight: 3})
	}
	return g
}

// A funnel whose middle goes first has 1023 times 1023 shortcuts and 2046 plain links: one less than MaxLinks.
func TestP3MaxLinks(t *testing.T) {
	const side = 1023
	first, last := api.Options{Edge: -1}, api.Options{Edge: 1}
	for apart, want := range []error{nil, nil, api.ErrLimit, api.ErrLimit} {
		g := funnel(side, apart)
		if want != nil {
			checkCompile(t, textOf(g), first, nil, want)
			continue
		}
		h := mustLoad(t, mustCompile(t, textOf(g), first))
		checkDescribe(t, h, Info{Nodes: g.N, Plain: 2*side + apart, Shortcuts: side * side}, nil)
		checkDistance(t, h, 1, 1+2*side-1, 3)
		checkDistance(t, h, 0, 2*side, 2)
		checkDistance(t, h, 1+side, 1, far)
	}
	// It is the order that makes the difference: with the middle last there is no shortcut.
	h := mustLoad(t, mustCompile(t, textOf(funnel(side, 2)), last))
	checkDescribe(t, h, Info{Nodes: 2*side + 5, Plain: 2*side + 2}, nil)
	checkDistance(t, h, 1, 2*side, 3)
	// A text that is no graph is refused for that, however many links there would be.
	checkText(t, textOf(funnel(side, 2))+"end", lineAt(2*side+5, api.ErrExtra))
}

// sealedAnew: bytes whose last four are made the sum of the others.
func sealedAnew(x []byte) []byte {
	body := bytes.Clone(x[:len(x)-4])
	return binary.LittleEndian.AppendUint32(body, crc32.ChecksumIEEE(body))
}

// checkAny (P6, P24.3): an error, or a hierarchy that is the bytes' own and whose distances are those of its plain links. What it was is told.
func checkAny(t *testing.T, x []byte) api.Errno {
	t.Helper()
	read, err := image.Decode(x)
	if err != nil {
		checkRefused(t, x, err)
		return fault.Code(err)
	}
	if rank := sample.FirstFalse(read); rank >= 0 {
		checkRefused(t, x, falseAt(rank))
		return api.ErrFalse
	}
	checkLoad(t, x, read, nil)
	g, err := hier.Graph(mustLoad(t, x))
	if err != nil {
		t.Fatal(err)
	}
	checkDistances(t, mustLoad(t, x), sample.Distances(g))
	return 0
}

// spoilt: an image with some words changed, cut or lengthened, mostly with a sum that fits.
func spoilt(x []byte, dice *sample.Dice) []byte {
	x = bytes.Clone(x)
	for range 1 + dice.Below(3) {
		switch dice.Below(20) {
		case 0:
			x = x[:dice.Below(len(x)+1)]
		case 1:
			x = append(x, dice.Bytes(1+dice.Below(30))...)
		case 2:
			x[dice.Below(20)] = byte(dice.Below(256))
		default:
			word := x[20+4*dice.Below((len(x)-20)/4):][:4]
			v := binary.LittleEndian.Uint32(word)
			v = []uint32{v + 1, v - 1, uint32(dice.Below(9)), v ^ 1<<dice.Below(32)}[dice.Below(4)]
			binary.LittleEndian.PutUint32(word, v)
		}
		if len(x) < 32 {
			return x
		}
	}
	if dice.Below(5) > 0 {
		return sealedAnew(x)
	}
	return x
}

func TestP6AnyBytes(t *testing.T) {
	dice := sample.Dice{Seed: 247}
	counts := map[api.Errno]int{}
	for h := range sample.LooseHiers(248, 1500, 7) {
		x := mustEncode(t, h)
		for range 30 {
			counts[checkAny(t, spoilt(x, &dice))]++
		}
	}
	for range 2000 {
		counts[checkAny(t, dice.Bytes(dice.Below(100)))]++
	}
	for _, e := range []api.Errno{0, api.ErrShort, api.ErrMagic, api.ErrVersion, api.ErrLimit, api.ErrExtra, api.ErrSum, api.ErrShape, api.ErrOrder, api.ErrWeight, api.ErrFalse} {
		if counts[e] < 100 {
			t.Errorf("only %d lists of bytes of %v", counts[e], e)
		}
	}
}

// Plain links with any weights are in form, whether they are true or not.
func TestP6PlainLinks(t *testing.T) {
	dice := sample.Dice{Seed: 249}
	counts := map[api.Errno]int{}
	for range 1500 {
		h := sample.Flat(2+dice.Below(5), dice.Below(12), dice.Below(12))
		for _, list := range [][]api.Link{h.Up, h.Down} {
			for i := range list {
				list[i].Weight = uint64(dice.Below(4))
			}
		}
		counts[checkAny(t, mustEncode(t, h))]++
	}
	if len(counts) != 2 || min(counts[0], counts[api.ErrFalse]) < 300 {
		t.Errorf("%v", counts)
	}
}

// compiled: some images of small graphs.
func compiled(t *testing.T) [][]byte {
	t.Helper()
	dice := sample.Dice{Seed: 250}
	all := [][]byte{noneBytes(), mustCompile(t, whole, sample.Options()[1]), mustEncode(t, sample.Three())}
	for i := range 30 {
		n := 1 + dice.Below(10)
		g := dice.Graph(n, dice.Below(3*n), 50)
		all = append(all, mustCompile(t, textOf(g), sample.Options()[i%7]))
	}
	return all
}

// Bits that lie within 32 neighbouring ones: each by itself, each two that are neighbours, all 32, and any.
func TestP6Bits(t *testing.T) {
	dice := sample.Dice{Seed: 251}
	for _, x := range compiled(t) {
		for i := range 8 * len(x) {
			for _, bits := range []uint32{1, 3, 0x80000001, math.MaxUint32, uint32(dice.Below(1<<32)) | 1} {
				y := sample.Turned(x, i, bits)
				if h, err := Load(y); err == nil || !sample.SameHier(h, api.Hier{}) {
					t.Fatalf("the bits %x from %d on: %s, %v", bits, i, brief(h), err)
				}
			}
		}
	}
}

func TestP6CutsAndExtras(t *testing.T) {
	for _, x := range compiled(t) {
		for k := range x {
			checkRefused(t, x[:k], byteAt(k, api.ErrShort))
		}
		checkRefused(t, append(bytes.Clone(x), 0), byteAt(len(x), api.ErrExtra))
		checkRefused(t, append(bytes.Clone(x), x...), byteAt(len(x), api.ErrExtra))
	}
}

// An image of something false, with one word changed besides: what Decode finds is told first.
func TestErrorsOfImages(t *testing.T) {
	x := mustEncode(t, without())
	for _, c := range []struct {
		at   int
		word uint32
		want error
	}{
		{0, 0, byteAt(0, api.ErrMagic)},
		{4, 2, byteAt(4, api.ErrVersion)},
		{8, api.MaxNodes + 1, byteAt(8, api.ErrLimit)},
		{12, api.MaxLinks + 1, byteAt(12, api.ErrLimit)},
		{16, api.MaxLinks + 1, byteAt(16, api.ErrLimit)},
		{20, 2, fault.At(api.AtNode, 2, api.ErrOrder)},
		{32, 1, api.ErrShape},
		{36, 2, fault.At(api.AtNode, 1, api.ErrShape)},
		{48, 3, fault.At(api.AtArc, 0, api.ErrShape)},
		{52, 0, fault.At(api.AtArc, 0, api.ErrShape)},
		{60, 1 << 31, fault.At(api.AtArc, 0, api.ErrWeight)},
		{60, 1<<31 - 1, falseAt(0)},
	} {
		y := bytes.Clone(x)
		binary.LittleEndian.PutUint32(y[c.at:], c.word)
		checkRefused(t, sealedAnew(y), c.want)
	}
}

// The greatest images: each pair of 1024 nodes joined by plain links; and links in form, but false.
func TestP24_3GreatestImages(t *testing.T) {
	const half = api.MaxLinks / 2
	full := sample.Flat(1024, half, half)
	checkLoad(t, mustEncode(t, full), full, nil)
	long := sample.Chain(api.MaxNodes, api.MaxWeight)
	checkLoad(t, mustEncode(t, long), long, nil)
	checkRefused(t, mustEncode(t, sample.Flat(api.MaxNodes, half, half)), falseAt(0))
}

// Texts of any bytes: refused as gtext refuses them, or compiled and loaded.
func TestP1AnyTexts(t *testing.T) {
	dice := sample.Dice{Seed: 252}
	pieces := []string{"graph", "arc", "end", " ", " ", "\n", "\n", "\t", "#", "0", "1", "2", "4", "7", "-", "\r", "\x00", "\xff", "65536", "65537", "2147483648", "18446744073709551616"}
	counts := [2]int{}
	for i := range 4000 {
		text := []byte(whole)
		if i%10 == 0 {
			text = nil
		}
		for range dice.Below(4) {
			at, piece := dice.Below(len(text)+1), pieces[dice.Below(len(pieces))]
			text = append(text[:at:at], append([]byte(piece), text[min(len(text), at+dice.Below(3)):]...)...)
		}
		g, err := gtext.Parse(string(text))
		if err != nil {
			counts[0]++
			checkCompile(t, string(text), sample.Options()[i%7], nil, err)
			continue
		}
		counts[1]++
		checkMade(t, string(text), g, sample.Options()[i%7])
	}
	if min(counts[0], counts[1]) < 500 {
		t.Errorf("%d are refused, %d are graphs", counts[0], counts[1])
	}
}
