package wire

import (
	"bytes"
	"encoding/binary"
	"math"
	"slices"
	"testing"

	"viaduct/api"
	"viaduct/fault"
	"viaduct/sample"
)

type numbers = []uint32

func shortAt(k int) error {
	return fault.At(api.AtByte, k, api.ErrShort)
}

func checkPut(t *testing.T, p []byte, v uint64, n int, want []byte, wantErr error) {
	t.Helper()
	if out, err := Put(p, v, n); !bytes.Equal(out, want) || !sample.SameError(err, wantErr) {
		t.Errorf("Put(% x, %d, %d): % x, %v, wanted % x, %v", p, v, n, out, err, want, wantErr)
	}
}

func checkTake(t *testing.T, p []byte, at, n int, want uint64, wantErr error) {
	t.Helper()
	if v, err := Take(p, at, n); v != want || !sample.SameError(err, wantErr) {
		t.Errorf("Take(% x, %d, %d): %d, %v, wanted %d, %v", p, at, n, v, err, want, wantErr)
	}
}

func checkPutWords(t *testing.T, p []byte, list numbers, want []byte) {
	t.Helper()
	if out := PutWords(p, list); !bytes.Equal(out, want) {
		t.Errorf("PutWords(% x, %d): % x, wanted % x", p, list, out, want)
	}
}

func checkWords(t *testing.T, p []byte, at, count int, want numbers, wantErr error) {
	t.Helper()
	if list, err := Words(p, at, count); !slices.Equal(list, want) || !sample.SameError(err, wantErr) {
		t.Errorf("Words(% x, %d, %d): %d, %v, wanted %d, %v", p, at, count, list, err, want, wantErr)
	}
}

// eight: the bytes of v, the lowest first.
func eight(v uint64) []byte {
	return binary.LittleEndian.AppendUint64(nil, v)
}

// someNumbers: the ends of what n bytes can hold, for each n, and what lies beside them; one whose bytes are all unlike.
func someNumbers() []uint64 {
	list := []uint64{0, 1, 2, 258, 0x8877665544332211, math.MaxUint64}
	for n := 1; n < 8; n++ {
		end := uint64(1) << (8 * n)
		list = append(list, end-1, end, end+1, end/2, end>>8|1, 0x8877665544332211%end)
	}
	return list
}

func TestP18_1Examples(t *testing.T) {
	checkPut(t, []byte{0xff}, 258, 3, []byte{0xff, 2, 1, 0}, nil)
	checkPut(t, nil, 256, 1, nil, api.ErrLimit)
	checkPut(t, nil, 256, 9, nil, api.ErrArg)
	checkPut(t, nil, math.MaxUint64, 8, bytes.Repeat([]byte{0xff}, 8), nil)
	checkTake(t, []byte{1, 2, 3}, 1, 2, 770, nil)
	checkTake(t, []byte{1, 2, 3}, 2, 2, 0, shortAt(3))
	checkTake(t, []byte{1}, 5, 1, 0, shortAt(1))
	checkTake(t, []byte{1}, -1, 1, 0, api.ErrArg)
}

func TestP18_1Put(t *testing.T) {
	for _, p := range [][]byte{nil, {}, {7}, {0, 0}, bytes.Repeat([]byte{0xa5}, 100)} {
		for _, v := range someNumbers() {
			for n := 1; n <= 8; n++ {
				all := eight(v)
				if slices.Max(append(all[n:], 0)) != 0 {
					checkPut(t, p, v, n, nil, api.ErrLimit)
					continue
				}
				checkPut(t, p, v, n, slices.Concat(p, eight(v)[:n]), nil)
			}
		}
	}
}

func TestErrorsOfPut(t *testing.T) {
	for _, n := range []int{math.MinInt, -1 << 32, -64, -8, -1, 0, 9, 10, 64, 1 << 32, 1<<32 + 1, 1 << 61, 1<<61 + 1, math.MaxInt} {
		for _, v := range someNumbers() {
			checkPut(t, []byte{7}, v, n, nil, api.ErrArg)
		}
	}
}

// plainTake: by bytes shifted one by one, and by counts that are never added up.
func plainTake(p []byte, at, n int) (uint64, error) {
	if n < 1 || n > 8 || at < 0 {
		return 0, api.ErrArg
	}
	if at > len(p) || len(p[at:]) < n {
		return 0, shortAt(len(p))
	}
	var v uint64
	for i, b := range p[at:][:n] {
		v += uint64(b) << (8 * i)
	}
	return v, nil
}

// someInts: places and counts round nought and round where four times a count wraps, and the ends.
func someInts() []int {
	list := []int{math.MinInt, math.MinInt + 1, -1 << 62, -1 << 61, -1 << 32, 1<<30 - 1, 1 << 30, 1 << 31, 1<<32 - 1, 1 << 32, 1<<32 + 1}
	list = append(list, 1<<61-1, 1<<61, 1<<61+1, 1<<62-1, 1<<62, 1<<62+1, 1<<62+2, math.MaxInt-8, math.MaxInt-1, math.MaxInt)
	for i := -10; i < 30; i++ {
		list = append(list, i)
	}
	return list
}

// Each place and count, right and wrong ones, of lists of each length.
func TestP18_1Take(t *testing.T) {
	d := &sample.Dice{Seed: 181}
	for length := range 20 {
		p := d.Bytes(length)
		for _, at := range someInts() {
			for _, n := range someInts() {
				want, err := plainTake(p, at, n)
				checkTake(t, p, at, n, want, err)
			}
		}
	}
	checkTake(t, nil, 0, 1, 0, shortAt(0))
	checkTake(t, nil, 0, 0, 0, api.ErrArg)
}

// What lies behind the length is none of the bytes.
func TestP18_1TakeWithin(t *testing.T) {
	p := make([]byte, 3, 64)
	checkTake(t, p, 0, 4, 0, shortAt(3))
	checkTake(t, p, 3, 1, 0, shortAt(3))
	checkWords(t, p, 0, 1, nil, shortAt(3))
	checkWords(t, p[:0], 0, 1, nil, shortAt(0))
}

func TestP18_2Examples(t *testing.T) {
	p := []byte{1, 0, 0, 0, 2, 0, 0, 0}
	checkWords(t, p, 0, 2, numbers{1, 2}, nil)
	checkWords(t, p, 0, 3, nil, shortAt(8))
	checkPutWords(t, nil, nil, nil)
	checkPutWords(t, nil, numbers{1, 2}, p)
}

func plainWords(p []byte, at, count int) (numbers, error) {
	if at < 0 || count < 0 {
		return nil, api.ErrArg
	}
	var list numbers
	for range count {
		v, err := plainTake(p, at, 4)
		if err != nil {
			return nil, shortAt(len(p))
		}
		list = append(list, uint32(v))
		at += 4
	}
	return list, nil
}

func TestP18_2Words(t *testing.T) {
	d := &sample.Dice{Seed: 182}
	for length := range 26 {
		p := d.Bytes(length)
		for _, at := range someInts() {
			for _, count := range someInts() {
				want, err := plainWords(p, at, count)
				checkWords(t, p, at, count, want, err)
			}
		}
	}
}

// Four times these counts wraps round to a number that would stand there.
func TestP18_2CountsThatWrap(t *testing.T) {
	p := make([]byte, 16)
	for _, count := range []int{1 << 62, 1<<62 + 1, 1<<62 + 4, 1 << 61, 3 << 61, 1<<61 + 2, math.MaxInt} {
		for _, at := range []int{0, 4, 16, 17, math.MaxInt} {
			checkWords(t, p, at, count, nil, shortAt(16))
		}
	}
}

// No numbers at all stand wherever they are asked, beyond the end too.
func TestP18_2NoWords(t *testing.T) {
	for _, p := range [][]byte{nil, {}, {1}, {1, 2, 3, 4}} {
		for _, at := range []int{0, 1, 4, 5, 1 << 62, math.MaxInt} {
			checkWords(t, p, at, 0, nil, nil)
		}
		checkWords(t, p, -1, 0, nil, api.ErrArg)
		checkWords(t, p, 0, -1, nil, api.ErrArg)
		checkWords(t, p, math.MaxInt, -1, nil, api.ErrArg)
	}
}

func words(d *sample.Dice, count int) numbers {
	list := make(numbers, count)
	for i := range list {
		list[i] = uint32(d.Below(1<<32) >> d.Below(32))
	}
	return list
}

func TestP18_2PutWords(t *testing.T) {
	d := &sample.Dice{Seed: 183}
	for count := range 40 {
		p, list := d.Bytes(d.Below(20)), words(d, count)
		want := slices.Clone(p)
		for _, v := range list {
			want = binary.LittleEndian.AppendUint32(want, v)
		}
		checkPutWords(t, p, list, want)
	}
	checkPutWords(t, []byte{7}, numbers{math.MaxUint32, 0x04030201}, []byte{7, 255, 255, 255, 255, 1, 2, 3, 4})
	checkPutWords(t, []byte{7}, nil, []byte{7})
	checkPutWords(t, nil, numbers{}, nil)
}

func TestP18_3ThereAndBack(t *testing.T) {
	d := &sample.Dice{Seed: 184}
	for count := range 50 {
		p := d.Bytes(d.Below(30))
		for _, v := range someNumbers() {
			for n := 1; n <= 8; n++ {
				if out, err := Put(p, v, n); err == nil {
					checkTake(t, out, len(p), n, v, nil)
				}
			}
		}
		list := words(d, count)
		checkWords(t, PutWords(p, list), len(p), count, list, nil)
	}
	long := words(d, 1<<18)
	if back, err := Words(PutWords([]byte{1}, long), 1, len(long)); err != nil || !slices.Equal(back, long) {
		t.Errorf("%d words don't come back: %v", len(long), err)
	}
}

// checkApart: an answer with its spare room lies apart from what was handed in and from another answer.
func checkApart[T comparable](t *testing.T, name string, odd T, p []byte, answer func() []T) {
	t.Helper()
	was := sample.RoomOf(p)
	first, second := answer(), answer()
	want := slices.Clone(first)
	sample.SpoilList(first, odd)
	if !bytes.Equal(sample.RoomOf(p), was) || !slices.Equal(second, want) {
		t.Fatalf("%s: an answer shares memory: % x, was % x", name, sample.RoomOf(p), was)
	}
	sample.SpoilList(p, 0x88)
	if !slices.Equal(second, want) {
		t.Fatalf("%s: an answer is a piece of what was handed in", name)
	}
	copy(p[:cap(p)], was)
}

func TestMemoryOfAnswers(t *testing.T) {
	d := &sample.Dice{Seed: 185}
	for n := range 20 {
		p := sample.RoomyList(d.Bytes(n), 0xee)
		for width := 1; width <= 8; width++ {
			checkApart(t, "Put", 0x99, p, func() []byte {
				out, _ := Put(p, 0x5a, width)
				return out
			})
		}
		list := sample.RoomyList(words(d, n%5), 0xdddddddd)
		kept := sample.RoomOf(list)
		checkApart(t, "PutWords", 0x99, p, func() []byte { return PutWords(p, list) })
		checkApart(t, "Words", 0x99999999, p, func() numbers {
			back, _ := Words(p, n%4, (n-n%4)/4)
			return back
		})
		if !slices.Equal(sample.RoomOf(list), kept) {
			t.Errorf("PutWords changes its list: %d, was %d", sample.RoomOf(list), kept)
		}
	}
}

// P2: the same answers, whatever was asked between; right or wrong, a question changes nothing that was handed in.
func TestQuestionsChangeNothing(t *testing.T) {
	d := &sample.Dice{Seed: 186}
	p := sample.RoomyList(d.Bytes(21), 0xee)
	was := sample.RoomOf(p)
	taken, err := Take(p, 3, 7)
	list, wordsErr := Words(p, 1, 5)
	if err != nil || wordsErr != nil {
		t.Fatal(err, wordsErr)
	}
	for range 100 {
		at, n := d.Below(30)-3, d.Below(14)-3
		Put(p, uint64(d.Below(1<<40)), n)
		Take(p, at, n)
		Words(p, at, n)
		PutWords(p, words(d, 4))
		checkTake(t, p, 3, 7, taken, nil)
		checkWords(t, p, 1, 5, list, nil)
	}
	if !bytes.Equal(sample.RoomOf(p), was) {
		t.Errorf("what was handed in is changed: % x, was % x", sample.RoomOf(p), was)
	}
}
