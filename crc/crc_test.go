package crc

import (
	"bytes"
	"hash/crc32"
	"math"
	"slices"
	"testing"

	"viaduct/sample"
)

// plainZ: the turn, eight times over, as the chapter says it.
func plainZ(c uint32) uint32 {
	for range 8 {
		bit := c & 1
		c >>= 1
		if bit == 1 {
			c ^= 0xedb88320
		}
	}
	return c
}

func plainUpdate(c uint32, p []byte) uint32 {
	x := ^c
	for _, v := range p {
		x = plainZ(x ^ uint32(v))
	}
	return ^x
}

func plainJoin(a, b uint32, n int) uint32 {
	for range n {
		a = plainZ(a)
	}
	return a ^ b
}

// matrix is what a linear map makes of each of the 32 bits: another way to Z's powers than the polynomials' one.
type matrix [32]uint32

func (m matrix) of(c uint32) uint32 {
	var sum uint32
	for i, v := range m {
		if c>>i&1 == 1 {
			sum ^= v
		}
	}
	return sum
}

func zMatrix() matrix {
	var m matrix
	for i := range m {
		m[i] = plainZ(1 << i)
	}
	return m
}

func matrixJoin(a, b uint32, n int) uint32 {
	for m := zMatrix(); n > 0; n /= 2 {
		if n%2 == 1 {
			a = m.of(a)
		}
		twice := m
		for i := range m {
			twice[i] = m.of(m[i])
		}
		m = twice
	}
	return a ^ b
}

func checkSum(t *testing.T, p []byte, want uint32) {
	t.Helper()
	if s := Sum(p); s != want {
		t.Errorf("Sum(% x): %08x, wanted %08x", p, s, want)
	}
}

func checkUpdate(t *testing.T, c uint32, p []byte, want uint32) {
	t.Helper()
	if s := Update(c, p); s != want {
		t.Errorf("Update(%08x, % x): %08x, wanted %08x", c, p, s, want)
	}
}

func checkJoin(t *testing.T, a, b uint32, n int, want uint32) {
	t.Helper()
	if s := Join(a, b, n); s != want {
		t.Errorf("Join(%08x, %08x, %d): %08x, wanted %08x", a, b, n, s, want)
	}
}

func checkFits(t *testing.T, p []byte, want bool) {
	t.Helper()
	if f := Fits(p); f != want {
		t.Errorf("Fits(% x): %v", p, f)
	}
}

func word(d *sample.Dice) uint32 {
	return uint32(d.Below(1 << 32))
}

// someWords: words whose bits are all alike, that have one bit, and others.
func someWords() []uint32 {
	list := []uint32{0, math.MaxUint32, 0xedb88320, 0x12345678, 0xaaaaaaaa, 0x55555555, 0xff, 0xff000000}
	for i := range 32 {
		list = append(list, 1<<i)
	}
	return list
}

func TestP17_1Examples(t *testing.T) {
	checkSum(t, nil, 0)
	checkSum(t, []byte{}, 0)
	checkSum(t, []byte("123456789"), 0xcbf43926)
	checkSum(t, []byte("a"), 0xe8b7be43)
	checkSum(t, make([]byte, 4), 0x2144df1c)
}

func TestP17_1EachByte(t *testing.T) {
	for _, c := range someWords() {
		for v := range 256 {
			p := []byte{byte(v)}
			checkUpdate(t, c, p, plainUpdate(c, p))
		}
		checkUpdate(t, c, nil, c)
		checkUpdate(t, c, []byte{}, c)
	}
}

func TestP17_1Lists(t *testing.T) {
	d := &sample.Dice{Seed: 171}
	for n := range 300 {
		p, c := d.Bytes(n), word(d)
		checkSum(t, p, plainUpdate(0, p))
		checkUpdate(t, 0, p, Sum(p))
		checkUpdate(t, c, p, plainUpdate(c, p))
		checkUpdate(t, c, p, crc32.Update(c, crc32.IEEETable, p))
	}
	long := d.Bytes(1 << 20)
	if s := Sum(long); s != crc32.ChecksumIEEE(long) {
		t.Errorf("Sum of %d bytes: %08x", len(long), s)
	}
}

func TestP17_2Examples(t *testing.T) {
	checkJoin(t, Sum([]byte("1234")), Sum([]byte("56789")), 5, 0xcbf43926)
	checkJoin(t, 5, 3, 0, 6)
	checkJoin(t, 0x12345678, 0x9abcdef0, 0, 0x12345678^0x9abcdef0)
	checkUpdate(t, Sum([]byte("1234")), []byte("56789"), 0xcbf43926)
}

func TestP17_2SmallCounts(t *testing.T) {
	d := &sample.Dice{Seed: 172}
	for _, a := range someWords() {
		b := word(d)
		for n := range 70 {
			checkJoin(t, a, b, n, plainJoin(a, b, n))
		}
		checkJoin(t, a, b, 99999, plainJoin(a, b, 99999))
	}
}

func TestP17_2CountsBelowNought(t *testing.T) {
	for _, n := range []int{-1, -2, -5, -1 << 32, math.MinInt + 1, math.MinInt} {
		for _, a := range someWords() {
			checkJoin(t, a, 0x12345678, n, a^0x12345678)
		}
	}
}

// Z brings each word back in 2^32 - 1 steps, so that counts of many bits can be held against small ones.
func TestP17_2GreatCounts(t *testing.T) {
	const round = 1<<32 - 1
	for _, a := range someWords() {
		for n := range 5 {
			checkJoin(t, a, 7, round+n, plainJoin(a, 7, n))
			checkJoin(t, a, 7, 77*round+n, plainJoin(a, 7, n))
			checkJoin(t, a, 7, math.MaxInt/round*round-n, Join(a, 7, round-n))
		}
	}
	d := &sample.Dice{Seed: 173}
	counts := []int{math.MaxInt, math.MaxInt - 1, 1 << 62, 1<<62 + 1, 1 << 61, 1 << 60, 1 << 59, 1 << 32, 1 << 31, 1<<31 - 1}
	for range 200 {
		counts = append(counts, d.Below(math.MaxInt)>>d.Below(40))
	}
	for _, n := range counts {
		a, b := word(d), word(d)
		checkJoin(t, a, b, n, matrixJoin(a, b, n))
	}
}

func TestP17_2Cuts(t *testing.T) {
	d := &sample.Dice{Seed: 174}
	for n := range 60 {
		whole, c := d.Bytes(n), word(d)
		for i := range n + 1 {
			p, q := whole[:i], whole[i:]
			checkUpdate(t, Update(c, p), q, Update(c, whole))
			checkJoin(t, Sum(p), Sum(q), len(q), Sum(whole))
		}
	}
	p, q := d.Bytes(70000), d.Bytes(123457)
	checkJoin(t, Sum(p), Sum(q), len(q), Sum(slices.Concat(p, q)))
}

func checkSeal(t *testing.T, p, want []byte) {
	t.Helper()
	if s := Seal(p); !bytes.Equal(s, want) {
		t.Errorf("Seal(% x): % x, wanted % x", p, s, want)
	}
	checkFits(t, want, true)
}

func TestP17_3Examples(t *testing.T) {
	checkSeal(t, nil, []byte{0, 0, 0, 0})
	checkSeal(t, []byte{}, []byte{0, 0, 0, 0})
	checkSeal(t, []byte("a"), []byte{0x61, 0x43, 0xbe, 0xb7, 0xe8})
	checkFits(t, []byte{0, 0, 0}, false)
}

func TestP17_3FewBytes(t *testing.T) {
	checkFits(t, nil, false)
	for n := range 4 {
		checkFits(t, make([]byte, n), false)
		checkFits(t, bytes.Repeat([]byte{0xff}, n), false)
		// What lies behind the length doesn't count.
		checkFits(t, make([]byte, n, 8), false)
	}
	checkFits(t, []byte{0, 0, 0, 0}, true)
	checkFits(t, []byte{0xff, 0xff, 0xff, 0xff}, false)
}

func TestP17_3Lists(t *testing.T) {
	d := &sample.Dice{Seed: 175}
	for n := range 200 {
		p := d.Bytes(n)
		s := plainUpdate(0, p)
		checkSeal(t, p, append(slices.Clone(p), byte(s), byte(s>>8), byte(s>>16), byte(s>>24)))
		other := s ^ 1<<d.Below(32)
		checkFits(t, append(slices.Clone(p), byte(other), byte(other>>8), byte(other>>16), byte(other>>24)), false)
		if s != s<<24|s<<8&0xff0000|s>>8&0xff00|s>>24 {
			checkFits(t, append(slices.Clone(p), byte(s>>24), byte(s>>16), byte(s>>8), byte(s)), false)
		}
	}
}

func checkBurst(t *testing.T, p []byte, i int, bits uint32) {
	t.Helper()
	if q := sample.Turned(p, i, bits); Fits(q) && !bytes.Equal(p, q) {
		t.Errorf("% x with the bits %08x from %d on turned over: % x fits", p, bits, i, q)
	}
}

func TestP17_4Bursts(t *testing.T) {
	d := &sample.Dice{Seed: 176}
	for n := range 40 {
		p := Seal(d.Bytes(n))
		checkFits(t, p, true)
		for i := range 8 * len(p) {
			for _, bits := range someWords() {
				checkBurst(t, p, i, bits)
			}
			for range 20 {
				checkBurst(t, p, i, word(d)|1)
				checkBurst(t, p, i, word(d)|1<<31|1)
			}
		}
	}
}

// All bursts of at most 13 bits, wherever they stand.
func TestP17_4AllShortBursts(t *testing.T) {
	p := Seal([]byte{0xa7, 0, 0x3c})
	for i := range 8 * len(p) {
		for bits := 1; bits < 1<<13; bits += 2 {
			checkBurst(t, p, i, uint32(bits))
		}
	}
}

// The bits of the polynomial itself, 33 of them, go unseen: so the bursts of 32 are no accident of Fits.
func TestP17_4NoLongerBursts(t *testing.T) {
	p := Seal([]byte{1, 2, 3, 4, 5})
	for i := range 8*len(p) - 32 {
		// From the highest power on, as the bits of a list go: 1, then those of 04c11db7.
		checkFits(t, sample.Turned(sample.Turned(p, i, 1), i+1, 0xedb88320), true)
	}
}

func TestFours(t *testing.T) {
	for i, v := range fours {
		c := uint32(i)
		for range 4 {
			c = turn(c)
		}
		if v != c {
			t.Errorf("four turns of %d: %08x, not %08x", i, c, v)
		}
	}
}

func TestMemoryOfSeal(t *testing.T) {
	for n := range 40 {
		p := sample.RoomyList((&sample.Dice{Seed: uint64(n)}).Bytes(n), 0xee)
		was := sample.RoomOf(p)
		s, again := Seal(p), Seal(p)
		want := slices.Clone(s)
		sample.SpoilList(s, 0x99)
		if !bytes.Equal(sample.RoomOf(p), was) || !bytes.Equal(again, want) {
			t.Fatalf("Seal of %d bytes shares memory: % x of % x, % x", n, sample.RoomOf(p), was, again)
		}
		sample.SpoilList(p, 0x88)
		if !bytes.Equal(again, want) {
			t.Fatalf("Seal of %d bytes is a piece of them", n)
		}
	}
}

// P2: the same answers, whatever was asked between; and nothing of what is handed in is changed, spare room neither.
func TestQuestionsChangeNothing(t *testing.T) {
	d := &sample.Dice{Seed: 177}
	p := sample.RoomyList(d.Bytes(50), 0xee)
	was := sample.RoomOf(p)
	sum, carried, joined := Sum(p), Update(5, p), Join(5, 6, 7)
	for range 100 {
		q := d.Bytes(d.Below(60))
		Sum(q)
		Update(word(d), q)
		Join(word(d), word(d), d.Below(1<<40))
		Fits(Seal(q))
		Fits(p)
		checkSum(t, p, sum)
		checkUpdate(t, 5, p, carried)
		checkJoin(t, 5, 6, 7, joined)
	}
	if !bytes.Equal(sample.RoomOf(p), was) {
		t.Errorf("what was handed in is changed: % x, was % x", sample.RoomOf(p), was)
	}
}
