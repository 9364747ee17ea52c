package scan

import (
	"math"
	"slices"
	"strconv"
	"strings"
	"testing"
	"unsafe"

	"viaduct/api"
	"viaduct/fault"
	"viaduct/sample"
)

func atLine(k int, e api.Errno) error { return fault.At(api.AtLine, k, e) }
func atByte(k int, e api.Errno) error { return fault.At(api.AtByte, k, e) }

func sameRows(a, b []Row) bool {
	return slices.EqualFunc(a, b, func(x, y Row) bool {
		return x.Line == y.Line && slices.Equal(x.Words, y.Words)
	})
}

func checkRows(t *testing.T, text string, want []Row, wantErr error) {
	t.Helper()
	rows, err := Rows(text)
	if !sameRows(rows, want) || !sample.SameError(err, wantErr) {
		t.Errorf("Rows(%.60q): %.200v, %v; wanted %.200v, %v", text, rows, err, want, wantErr)
	}
}

// texts calls f with every text of up to most bytes of the alphabet.
func texts(alphabet string, most int, f func(text string)) {
	f("")
	if most == 0 {
		return
	}
	for i := range len(alphabet) {
		texts(alphabet, most-1, func(rest string) { f(alphabet[i:i+1] + rest) })
	}
}

// model tells a text's rows byte by byte, as the chapter's words do, with the limits left out.
func model(text string) ([]Row, error) {
	var rows []Row
	line, open, hidden, odd := 1, false, false, false
	for i := range len(text) {
		b := text[i]
		switch {
		case b == '\n':
			if odd {
				return nil, atLine(line, api.ErrWord)
			}
			line, open, hidden = line+1, false, false
		case b == '#':
			open, hidden = false, true
		case hidden:
		case b == ' ' || b == '\t' || b == '\r':
			open = false
		default:
			odd = odd || b <= ' ' || b >= 0x7f
			if len(rows) == 0 || rows[len(rows)-1].Line != line {
				rows = append(rows, Row{Line: line})
			}
			row := &rows[len(rows)-1]
			if !open {
				row.Words = append(row.Words, "")
			}
			row.Words[len(row.Words)-1] += string([]byte{b})
			open = true
		}
	}
	if odd {
		return nil, atLine(line, api.ErrWord)
	}
	return rows, nil
}

func TestP2_1Rows(t *testing.T) {
	checkRows(t, "", nil, nil)
	checkRows(t, "\n", nil, nil)
	checkRows(t, "a  b # c\n\n\t\n# d\nef", []Row{{1, []string{"a", "b"}}, {5, []string{"ef"}}}, nil)
	checkRows(t, "a#b", []Row{{1, []string{"a"}}}, nil)
	checkRows(t, "# \xff", nil, nil)
	checkRows(t, "x # # y\r\n\r\n \t z\r", []Row{{1, []string{"x"}}, {3, []string{"z"}}}, nil)
	checkRows(t, "!\t~\"$%&'()*+,-./:;<=>?@[\\]^_`{|}", []Row{{1, []string{"!", "~\"$%&'()*+,-./:;<=>?@[\\]^_`{|}"}}}, nil)
	texts("ab# \n\r\x7f", 6, func(text string) {
		want, wantErr := model(text)
		checkRows(t, text, want, wantErr)
	})
}

func TestP2_1RowsEachByte(t *testing.T) {
	for b := range 256 {
		one := string([]byte{byte(b)})
		text := "k\np" + one + "q\nz"
		rows, err := Rows(text)
		want, wantErr := model(text)
		if !sameRows(rows, want) || !sample.SameError(err, wantErr) {
			t.Errorf("the byte %#x: %v, %v; wanted %v, %v", b, rows, err, want, wantErr)
		}
		if wrong := b != '\t' && b != '\n' && b != '\r' && (b < 0x20 || b > 0x7e); wrong != (err != nil) {
			t.Errorf("the byte %#x: %v", b, err)
		}
		checkRows(t, "k # "+one, []Row{{1, []string{"k"}}}, nil)
	}
	checkRows(t, "\u00a0", nil, atLine(1, api.ErrWord))
	checkRows(t, "a\u0085b", nil, atLine(1, api.ErrWord))
	checkRows(t, "a\u3000b", nil, atLine(1, api.ErrWord))
}

func TestP2_1RowsErrors(t *testing.T) {
	checkRows(t, "x\ny\x7fz", nil, atLine(2, api.ErrWord))
	checkRows(t, "x\x00\ny\x7fz", nil, atLine(1, api.ErrWord))
	checkRows(t, "a b \x1f # c", nil, atLine(1, api.ErrWord))
	checkRows(t, strings.Repeat(" ", 201), nil, atLine(1, api.ErrLong))

	full := strings.Repeat("w", api.MaxLine)
	checkRows(t, full, []Row{{1, []string{full}}}, nil)
	checkRows(t, full+"\n"+full, []Row{{1, []string{full}}, {2, []string{full}}}, nil)
	checkRows(t, "\n"+full+"w", nil, atLine(2, api.ErrLong))
	checkRows(t, full+"\r\n", nil, atLine(1, api.ErrLong))
	checkRows(t, full[1:]+"\r\n", []Row{{1, []string{full[1:]}}}, nil)
	checkRows(t, "w#"+strings.Repeat("\xff", api.MaxLine-2), []Row{{1, []string{"w"}}}, nil)
	checkRows(t, "w#"+strings.Repeat("\xff", api.MaxLine-1), nil, atLine(1, api.ErrLong))

	checkRows(t, "\x01\n"+full+"w", nil, atLine(1, api.ErrWord))
	checkRows(t, full+"w\n\x01", nil, atLine(1, api.ErrLong))
	checkRows(t, "\x01"+full, nil, atLine(1, api.ErrLong))
}

func TestP2_1RowsOfLongTexts(t *testing.T) {
	lines := strings.Repeat("abcdefg\n", api.MaxText/8)
	if len(lines) != api.MaxText {
		t.Fatal("the text is of another length")
	}
	rows, err := Rows(lines)
	if err != nil || len(rows) != api.MaxText/8 {
		t.Fatalf("a text of MaxText bytes: %d rows, %v", len(rows), err)
	}
	for i, row := range rows {
		if row.Line != i+1 || !slices.Equal(row.Words, []string{"abcdefg"}) {
			t.Fatalf("row %d: %v", i, row)
		}
	}
	checkRows(t, lines+"\n", nil, api.ErrLong)
	checkRows(t, "\x01\n"+lines, nil, api.ErrLong)
	checkRows(t, strings.Repeat("\n", api.MaxText), nil, nil)
	checkRows(t, strings.Repeat("w", api.MaxText), nil, atLine(1, api.ErrLong))
	checkRows(t, strings.Repeat("w", api.MaxText+1), nil, api.ErrLong)
}

func TestRowsAreNewMemory(t *testing.T) {
	text := strings.Repeat("ab c\nde f\n", 3)
	rows, err := Rows(text)
	if err != nil || len(rows) != 6 {
		t.Fatal(rows, err)
	}
	begin := uintptr(unsafe.Pointer(unsafe.StringData(text)))
	for _, row := range rows {
		for _, word := range row.Words {
			at := uintptr(unsafe.Pointer(unsafe.StringData(word)))
			if at >= begin && at < begin+uintptr(len(text)) {
				t.Errorf("the word %q is a piece of the text", word)
			}
		}
	}
	for _, row := range rows[:5] {
		row.Words[0] = "x"
		_ = append(row.Words, "y", "z")
		_ = append(row.Words[:1:cap(row.Words)], "u", "v")
	}
	if !slices.Equal(rows[5].Words, []string{"de", "f"}) {
		t.Errorf("rows share memory: %v", rows[5])
	}
	again, err := Rows(text)
	if err != nil || !slices.Equal(again[0].Words, []string{"ab", "c"}) {
		t.Errorf("a later answer shares memory with an earlier one: %v, %v", again, err)
	}
}

func checkNumber(t *testing.T, word string, most, want uint64, wantErr error) {
	t.Helper()
	n, err := Number(word, most)
	if n != want || !sample.SameError(err, wantErr) {
		t.Errorf("Number(%.60q, %d) = %d, %v; wanted %d, %v", word, most, n, err, want, wantErr)
	}
}

func TestP2_2Number(t *testing.T) {
	checkNumber(t, "0", 9, 0, nil)
	checkNumber(t, "0", 0, 0, nil)
	checkNumber(t, "1", 0, 0, api.ErrArg)
	checkNumber(t, "9", 9, 9, nil)
	checkNumber(t, "10", 9, 0, api.ErrArg)
	checkNumber(t, "10", 10, 10, nil)
	checkNumber(t, "11", 10, 0, api.ErrArg)
	checkNumber(t, "199", 200, 199, nil)
	checkNumber(t, "200", 200, 200, nil)
	checkNumber(t, "201", 200, 0, api.ErrArg)
	for _, word := range []string{"007", "", "1x", "+1", "-0", "-1", "00", "01", " 1", "1 ", "1_0", "0x1", "1e3", "1.", "\u0661", "x", "1/", "1:", "\x00"} {
		checkNumber(t, word, math.MaxUint64, 0, api.ErrNumber)
		checkNumber(t, word, 0, 0, api.ErrNumber)
	}
	checkNumber(t, "18446744073709551614", math.MaxUint64, math.MaxUint64-1, nil)
	checkNumber(t, "18446744073709551615", math.MaxUint64, math.MaxUint64, nil)
	checkNumber(t, "18446744073709551615", math.MaxUint64-1, 0, api.ErrArg)
	checkNumber(t, "18446744073709551616", math.MaxUint64, 0, api.ErrArg)
	checkNumber(t, "18446744073709551620", math.MaxUint64, 0, api.ErrArg)
	checkNumber(t, "20000000000000000000", math.MaxUint64, 0, api.ErrArg)
	checkNumber(t, "36893488147419103232", math.MaxUint64, 0, api.ErrArg)
	checkNumber(t, "9223372036854775808", math.MaxInt64, 0, api.ErrArg)

	long := strings.Repeat("9", 100000)
	checkNumber(t, long, math.MaxUint64, 0, api.ErrArg)
	checkNumber(t, long+"x", math.MaxUint64, 0, api.ErrNumber)
	checkNumber(t, "0"+long, math.MaxUint64, 0, api.ErrNumber)
	checkNumber(t, "1"+strings.Repeat("0", 64), math.MaxUint64, 0, api.ErrArg)
}

func TestP2_2NumberOfEachShortWord(t *testing.T) {
	texts("0129-+ x/:", 4, func(word string) {
		n, err := strconv.ParseUint(word, 10, 64)
		right := err == nil && strconv.FormatUint(n, 10) == word
		for _, most := range []uint64{0, 1, 9, 10, 99, 129, 1000, math.MaxUint64} {
			switch {
			case !right:
				checkNumber(t, word, most, 0, api.ErrNumber)
			case n > most:
				checkNumber(t, word, most, 0, api.ErrArg)
			default:
				checkNumber(t, word, most, n, nil)
			}
		}
	})
}

func checkSigned(t *testing.T, word string, want int, wantErr error) {
	t.Helper()
	n, err := Signed(word)
	if n != want || !sample.SameError(err, wantErr) {
		t.Errorf("Signed(%.60q) = %d, %v; wanted %d, %v", word, n, err, want, wantErr)
	}
}

func TestP2_2Signed(t *testing.T) {
	checkSigned(t, "-12", -12, nil)
	checkSigned(t, "12", 12, nil)
	checkSigned(t, "0", 0, nil)
	checkSigned(t, "-1", -1, nil)
	for _, word := range []string{"-0", "--1", "-", "+3", "", "-01", "-00", "01", "-x", "1-", "-1x", "-+1", "- 1", "1-2", "-0x"} {
		checkSigned(t, word, 0, api.ErrNumber)
	}
	checkSigned(t, "2147483647", 2147483647, nil)
	checkSigned(t, "2147483648", 0, api.ErrArg)
	checkSigned(t, "-2147483647", -2147483647, nil)
	checkSigned(t, "-2147483648", -2147483648, nil)
	checkSigned(t, "-2147483649", 0, api.ErrArg)
	for _, far := range []string{"18446744073709551616", "18446744073709551617", "4294967296", strings.Repeat("7", 5000)} {
		checkSigned(t, far, 0, api.ErrArg)
		checkSigned(t, "-"+far, 0, api.ErrArg)
		checkSigned(t, far+"x", 0, api.ErrNumber)
		checkSigned(t, "-"+far+"x", 0, api.ErrNumber)
	}
	texts("019-+x", 4, func(word string) {
		n, err := strconv.Atoi(word)
		if err == nil && strconv.Itoa(n) == word {
			checkSigned(t, word, n, nil)
		} else {
			checkSigned(t, word, 0, api.ErrNumber)
		}
	})
}

func checkList(t *testing.T, word string, want []int, wantErr error) {
	t.Helper()
	list, err := List(word)
	if !slices.Equal(list, want) || !sample.SameError(err, wantErr) {
		t.Errorf("List(%.60q) = %.60v, %v; wanted %.60v, %v", word, list, err, want, wantErr)
	}
}

func TestP2_3List(t *testing.T) {
	checkList(t, "-", nil, nil)
	checkList(t, "0", []int{0}, nil)
	checkList(t, "3,0,12", []int{3, 0, 12}, nil)
	checkList(t, "7,7,7", []int{7, 7, 7}, nil)
	checkList(t, "2147483647,1", []int{2147483647, 1}, nil)

	checkList(t, "", nil, atByte(0, api.ErrNumber))
	checkList(t, ",", nil, atByte(0, api.ErrNumber))
	checkList(t, ",1", nil, atByte(0, api.ErrNumber))
	checkList(t, "3,", nil, atByte(2, api.ErrNumber))
	checkList(t, "3,,4", nil, atByte(2, api.ErrNumber))
	checkList(t, "30,400,", nil, atByte(7, api.ErrNumber))
	checkList(t, "--", nil, atByte(0, api.ErrNumber))
	checkList(t, "-,1", nil, atByte(0, api.ErrNumber))
	checkList(t, "1,-", nil, atByte(2, api.ErrNumber))
	checkList(t, "-1", nil, atByte(0, api.ErrNumber))
	checkList(t, "1,02", nil, atByte(2, api.ErrNumber))
	checkList(t, "1, 2", nil, atByte(2, api.ErrNumber))
	checkList(t, "10,1x2,3", nil, atByte(3, api.ErrNumber))

	checkList(t, "1,2147483648", nil, atByte(2, api.ErrArg))
	checkList(t, "2147483648", nil, atByte(0, api.ErrArg))
	checkList(t, "1,99999999999999999999999,x", nil, atByte(2, api.ErrArg))
	checkList(t, "1,x,99999999999999999999999", nil, atByte(2, api.ErrNumber))
	checkList(t, "5,4294967296x", nil, atByte(2, api.ErrNumber))
}

func TestP2_3ListThereAndBack(t *testing.T) {
	var numbers []int
	var parts []string
	for i := range 3000 {
		n := i * i * 200
		numbers, parts = append(numbers, n), append(parts, strconv.Itoa(n))
	}
	word := strings.Join(parts, ",")
	checkList(t, word, numbers, nil)
	checkList(t, word+",", nil, atByte(len(word)+1, api.ErrNumber))
	first, _ := List(word)
	clear(first[:cap(first)])
	checkList(t, word, numbers, nil)
}

func TestP2_4LineFeedBehind(t *testing.T) {
	texts("a# \n\x7f", 6, func(text string) {
		if strings.HasSuffix(text, "\n") {
			return
		}
		rows, err := Rows(text)
		checkRows(t, text+"\n", rows, err)
	})
}

func TestP2_4TextsOneBehindTheOther(t *testing.T) {
	var all []string
	texts("a# \n\x7f", 3, func(text string) { all = append(all, text) })
	for _, first := range all {
		rows, err := Rows(first)
		if !strings.HasSuffix(first, "\n") || err != nil {
			continue
		}
		lines := strings.Count(first, "\n")
		for _, second := range all {
			more, err := Rows(second)
			if err != nil {
				checkRows(t, first+second, nil, fault.Shift(err, api.AtLine, lines))
				continue
			}
			both := slices.Clone(rows)
			for _, row := range more {
				both = append(both, Row{Line: row.Line + lines, Words: row.Words})
			}
			checkRows(t, first+second, both, nil)
		}
	}
}
