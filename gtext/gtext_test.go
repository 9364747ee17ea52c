package gtext

import (
	"math"
	"math/big"
	"slices"
	"strings"
	"testing"

	"viaduct/api"
	"viaduct/fault"
	"viaduct/sample"
)

func atLine(k int, e api.Errno) error { return fault.At(api.AtLine, k, e) }
func atArc(i int, e api.Errno) error  { return fault.At(api.AtArc, i, e) }

// row: the numbers of an arc.
type row = [3]int

func graphOf(n int, rows ...row) api.Graph { return sample.Graph(n, rows...) }

func checkCheck(t *testing.T, g api.Graph, want error) {
	t.Helper()
	if err := Check(g); !sample.SameError(err, want) {
		t.Errorf("Check(%.200v): %v, wanted %v", g, err, want)
	}
	text, err := Print(g)
	if !sample.SameError(err, want) || want != nil && text != "" {
		t.Errorf("Print(%.200v): %.200q, %v, wanted the error %v", g, text, err, want)
	}
}

func checkParse(t *testing.T, text string, want api.Graph, wantErr error) {
	t.Helper()
	g, err := Parse(text)
	if !sample.SameGraph(g, want) || !sample.SameError(err, wantErr) {
		t.Errorf("Parse(%.200q): %.200v, %v, wanted %.200v, %v", text, g, err, want, wantErr)
	}
}

func checkRefused(t *testing.T, text string, line int, e api.Errno) {
	t.Helper()
	checkParse(t, text, api.Graph{}, atLine(line, e))
}

func checkPrint(t *testing.T, g api.Graph, want string) {
	t.Helper()
	if text, err := Print(g); err != nil || text != want {
		t.Errorf("Print(%.200v): %.200q, %v, wanted %.200q", g, text, err, want)
	}
}

func TestP3_1Check(t *testing.T) {
	checkCheck(t, graphOf(2, row{0, 1, 5}, row{0, 2, -1}), atArc(1, api.ErrNode))
	checkCheck(t, graphOf(-1), api.ErrLimit)
	checkCheck(t, graphOf(1, row{0, 0, -1}), atArc(0, api.ErrWeight))

	checkCheck(t, api.Graph{}, nil)
	checkCheck(t, api.Graph{Arcs: []api.Arc{}}, nil)
	checkCheck(t, graphOf(1), nil)
	checkCheck(t, graphOf(1, row{0, 0, 0}, row{0, 0, 0}), nil)
	checkCheck(t, graphOf(0, row{0, 0, 0}), atArc(0, api.ErrNode))
}

func TestP3_1CheckLimits(t *testing.T) {
	checkCheck(t, graphOf(api.MaxNodes, row{api.MaxNodes - 1, api.MaxNodes - 1, api.MaxWeight}), nil)
	checkCheck(t, graphOf(api.MaxNodes, row{0, api.MaxNodes, 0}), atArc(0, api.ErrNode))
	checkCheck(t, graphOf(api.MaxNodes+1), api.ErrLimit)
	checkCheck(t, graphOf(math.MaxInt), api.ErrLimit)
	checkCheck(t, graphOf(math.MinInt), api.ErrLimit)

	arcs := make([]row, api.MaxArcs+1)
	checkCheck(t, graphOf(1, arcs[:api.MaxArcs]...), nil)
	checkCheck(t, graphOf(1, arcs...), api.ErrLimit)
	arcs[api.MaxArcs-1] = row{0, 0, -1}
	checkCheck(t, graphOf(1, arcs[:api.MaxArcs]...), atArc(api.MaxArcs-1, api.ErrWeight))
	checkCheck(t, graphOf(1, arcs...), api.ErrLimit)
	checkCheck(t, graphOf(-1, arcs[api.MaxArcs-1]), api.ErrLimit)
	checkCheck(t, graphOf(api.MaxNodes+1, arcs[api.MaxArcs-1]), api.ErrLimit)
}

// Each number of an arc inside and outside its range, at each place of a list: the first faulty arc is told, its ends ahead of its weight.
func TestP3_1CheckArcs(t *testing.T) {
	nodes := []int{0, 2, -1, 3, math.MinInt, math.MaxInt}
	weights := []int{0, api.MaxWeight, -1, api.MaxWeight + 1, math.MinInt, math.MaxInt}
	good, bad := row{1, 2, 3}, row{3, -1, -1}
	for i := range 6 * 6 * 6 * 3 {
		from, to, weight, place := i%6, i/6%6, i/36%6, i/216
		rows := []row{good, good, good, good, bad}
		rows[place] = row{nodes[from], nodes[to], weights[weight]}
		switch g := graphOf(3, rows...); {
		case from > 1 || to > 1:
			checkCheck(t, g, atArc(place, api.ErrNode))
		case weight > 1:
			checkCheck(t, g, atArc(place, api.ErrWeight))
		default:
			checkCheck(t, g, atArc(4, api.ErrNode))
			checkCheck(t, graphOf(3, rows[:4]...), nil)
		}
	}
}

func TestP3_2ParseExamples(t *testing.T) {
	whole := "graph 4 5\narc 0 1 4\narc 1 2 1\narc 0 2 9\narc 2 3 2\narc 2 2 7\nend\n"
	checkParse(t, whole, graphOf(4, row{0, 1, 4}, row{1, 2, 1}, row{0, 2, 9}, row{2, 3, 2}, row{2, 2, 7}), nil)
	with := func(line int, other string) string {
		lines := strings.Split(whole, "\n")
		lines[line-1] = other
		return strings.Join(lines, "\n")
	}
	checkRefused(t, with(1, "graph 4 6"), 7, api.ErrWord)
	checkRefused(t, with(2, "arc 0 9 4"), 2, api.ErrNode)
	checkRefused(t, with(2, "arc 0 1 04"), 2, api.ErrNumber)
	checkRefused(t, with(2, "arc 0 1 2147483648"), 2, api.ErrWeight)
	checkRefused(t, with(7, ""), 6, api.ErrMissing)

	checkRefused(t, "", 0, api.ErrMissing)
	checkRefused(t, "graph 1 0", 1, api.ErrMissing)
	checkRefused(t, "graph 1 0\nend\nend", 3, api.ErrExtra)
	checkRefused(t, "graf", 1, api.ErrWord)
	checkRefused(t, "graph 1", 1, api.ErrMissing)
	checkRefused(t, "graph 1 0 0", 1, api.ErrExtra)
	checkRefused(t, "graph 65537 x\nend", 1, api.ErrLimit)
	checkRefused(t, "graph x 999999", 1, api.ErrNumber)
	checkRefused(t, "graph 2 1\narc 0 2 x\nend", 2, api.ErrNode)
	checkRefused(t, "graph 2 1\nend", 2, api.ErrWord)
}

func TestP3_2ParseForms(t *testing.T) {
	checkParse(t, "graph 0 0\nend", api.Graph{}, nil)
	checkParse(t, "graph 1 0\nend\n", graphOf(1), nil)
	checkParse(t, "# a graph\r\n\r\n\tgraph  3 2 # of three nodes\r\n\narc 2 0 5#\n\n# end\n arc\t1 1 0 \nend # here\n\n# nothing more", graphOf(3, row{2, 0, 5}, row{1, 1, 0}), nil)
	checkParse(t, "graph 2 3\narc 1 0 7\narc 0 1 7\narc 1 0 7\nend", graphOf(2, row{1, 0, 7}, row{0, 1, 7}, row{1, 0, 7}), nil)
	checkRefused(t, "\n# none\n\n", 0, api.ErrMissing)
	checkRefused(t, "\n\ngraph 1 0\n\n# end\n\n", 3, api.ErrMissing)
	checkRefused(t, "graph 1 2\n\narc 0 0 0\n\n", 3, api.ErrMissing)
	checkRefused(t, "\ngraph 1 0\n\nend\n\n# more\n\n\x21\n", 8, api.ErrExtra)
	checkRefused(t, "graph 1 0\nend\ngraph 1 0\nend", 3, api.ErrExtra)
	checkRefused(t, "graph 1 0\narc 0 0 0\nend", 2, api.ErrWord)
	checkRefused(t, "graph 1 1\narc 0 0 0\narc 0 0 0\nend", 3, api.ErrWord)
	checkRefused(t, "graph 0 1\narc 0 0 0\nend", 2, api.ErrNode)
	checkRefused(t, "Graph 0 0\nend", 1, api.ErrWord)
	checkRefused(t, "graph 0 0\nend end", 2, api.ErrExtra)
	checkRefused(t, "graph 0 0\nends", 2, api.ErrWord)
	checkRefused(t, "graph 0 0 end", 1, api.ErrExtra)
}

func TestP3_2ParseLimits(t *testing.T) {
	checkParse(t, "graph 65536 1\narc 65535 65535 2147483647\nend", graphOf(api.MaxNodes, row{65535, 65535, api.MaxWeight}), nil)
	checkRefused(t, "graph 65536 1\narc 65536 0 0\nend", 2, api.ErrNode)
	checkRefused(t, "graph 65536 1\narc 0 65536 0\nend", 2, api.ErrNode)
	checkRefused(t, "graph 65537 0\nend", 1, api.ErrLimit)
	checkRefused(t, "graph 1 262144\narc 0 0 0", 2, api.ErrMissing)
	checkRefused(t, "graph 1 262145\narc 0 0 0", 1, api.ErrLimit)

	// Numbers that wrap round to small ones in 64 bits.
	checkRefused(t, "graph 18446744073709551617 0\nend", 1, api.ErrLimit)
	checkRefused(t, "graph 1 18446744073709551616\nend", 1, api.ErrLimit)
	checkRefused(t, "graph 1 1\narc 18446744073709551616 0 0\nend", 2, api.ErrNode)
	checkRefused(t, "graph 1 1\narc 0 18446744073709551616 0\nend", 2, api.ErrNode)
	checkRefused(t, "graph 1 1\narc 0 0 18446744073709551616\nend", 2, api.ErrWeight)
	checkRefused(t, "graph 0 1\narc 18446744073709551615 0 0\nend", 2, api.ErrNode)
}

// What scan.Rows refuses is told ahead of every fault of a row, however far behind it stands.
func TestP3_2ParseRowsFirst(t *testing.T) {
	checkRefused(t, "graf\nend\x7f", 2, api.ErrWord)
	checkRefused(t, "graph 1\n\n"+strings.Repeat(" ", api.MaxLine+1), 3, api.ErrLong)
	checkRefused(t, "graph 0 0\nend\nend\n\xff", 4, api.ErrWord)

	small := "graph 1 1\narc 0 0 0\nend\n"
	full := small + strings.Repeat("\n", api.MaxText-len(small))
	checkParse(t, full, graphOf(1, row{0, 0, 0}), nil)
	checkParse(t, full+"\n", api.Graph{}, api.ErrLong)
	checkParse(t, "graf\n"+full, api.Graph{}, api.ErrLong)
}

// modelFault: what the chapter's table says of the words of a row of this form; the letters of the form stand for numbers.
func modelFault(words []string, form string, n int) api.Errno {
	wanted := strings.Fields(form)
	switch {
	case words[0] != wanted[0]:
		return api.ErrWord
	case len(words) < len(wanted):
		return api.ErrMissing
	case len(words) > len(wanted):
		return api.ErrExtra
	}
	for i, letter := range wanted[1:] {
		word := words[i+1]
		if strings.Trim(word, "0123456789") != "" || word == "" || word[0] == '0' && word != "0" {
			return api.ErrNumber
		}
		number, _ := new(big.Int).SetString(word, 10)
		above := func(most int64) bool { return number.Cmp(big.NewInt(most)) > 0 }
		switch {
		case letter == "N" && above(api.MaxNodes), letter == "M" && above(api.MaxArcs):
			return api.ErrLimit
		case (letter == "A" || letter == "B") && above(int64(n)-1):
			return api.ErrNode
		case letter == "W" && above(api.MaxWeight):
			return api.ErrWeight
		}
	}
	return 0
}

func modelNumber(word string) int {
	number, _ := new(big.Int).SetString(word, 10)
	return int(number.Int64())
}

// model: what Parse answers of lines without comments, row by row as the chapter's words say.
func model(lines []string) (api.Graph, error) {
	var g api.Graph
	taken, arcs, last := 0, 0, 0
	for i, line := range lines {
		words := strings.Fields(line)
		if len(words) == 0 {
			continue
		}
		last = i + 1
		form := "arc A B W"
		switch {
		case taken == 0:
			form = "graph N M"
		case taken == arcs+1:
			form = "end"
		case taken > arcs+1:
			return api.Graph{}, atLine(last, api.ErrExtra)
		}
		if e := modelFault(words, form, g.N); e != 0 {
			return api.Graph{}, atLine(last, e)
		}
		switch form {
		case "graph N M":
			g.N, arcs = modelNumber(words[1]), modelNumber(words[2])
		case "arc A B W":
			g.Arcs = append(g.Arcs, api.Arc{From: modelNumber(words[1]), To: modelNumber(words[2]), Weight: modelNumber(words[3])})
		}
		taken++
	}
	if taken < arcs+2 {
		return api.Graph{}, atLine(last, api.ErrMissing)
	}
	return g, nil
}

// lists calls f with every list of up to most of these words.
func lists(words []string, most int, f func(list []string)) {
	f(nil)
	if most == 0 {
		return
	}
	for _, word := range words {
		lists(words, most-1, func(rest []string) { f(append([]string{word}, rest...)) })
	}
}

func TestP3_2ParseRowsAsTheModel(t *testing.T) {
	rows := []string{"graph 0 0", "graph 2 1", "graph 2 2", "graph 0 1", "arc 0 1 5", "arc 1 1 0", "arc 2 0 1", "arc 0 1", "end", "end 0", ""}
	read := 0
	lists(rows, 5, func(lines []string) {
		want, wantErr := model(lines)
		checkParse(t, strings.Join(lines, "\n"), want, wantErr)
		if wantErr == nil {
			read++
		}
	})
	if read < 20 {
		t.Errorf("only %d of the texts are graphs", read)
	}
}

func TestP3_2ParseWordsAsTheModel(t *testing.T) {
	bounds := []string{"0", "3", "65536", "65537", "262144", "262145", "18446744073709551616", "x", "01", "-1"}
	lists(bounds, 3, func(words []string) {
		for _, first := range []string{"graph", "arc", "0"} {
			lines := []string{"", strings.Join(append([]string{first}, words...), " "), "end"}
			want, wantErr := model(lines)
			checkParse(t, strings.Join(lines, "\n"), want, wantErr)
		}
	})
	bounds = []string{"0", "2", "3", "2147483647", "2147483648", "18446744073709551616", "x", "00", "+1"}
	lists(bounds, 4, func(words []string) {
		for _, first := range []string{"arc", "end"} {
			lines := []string{"graph 3 1", "", strings.Join(append([]string{first}, words...), " "), "end"}
			want, wantErr := model(lines)
			checkParse(t, strings.Join(lines, "\n"), want, wantErr)
		}
	})
}

func TestP3_3Print(t *testing.T) {
	checkPrint(t, graphOf(2, row{0, 1, 5}), "graph 2 1\narc 0 1 5\nend\n")
	checkPrint(t, graphOf(0), "graph 0 0\nend\n")
	checkPrint(t, graphOf(65536), "graph 65536 0\nend\n")
	checkPrint(t, graphOf(65536, row{65535, 0, api.MaxWeight}, row{10, 10, 0}, row{65535, 0, 100}),
		"graph 65536 3\narc 65535 0 2147483647\narc 10 10 0\narc 65535 0 100\nend\n")
	checkPrint(t, graphOf(1, make([]row, api.MaxArcs)...), "graph 1 262144\n"+strings.Repeat("arc 0 0 0\n", api.MaxArcs)+"end\n")
}

func TestP3_4ThereAndBack(t *testing.T) {
	there := func(g api.Graph) {
		t.Helper()
		text, err := Print(g)
		if err != nil {
			t.Fatalf("Print(%.200v): %v", g, err)
		}
		checkParse(t, text, g, nil)
	}
	for n := range 3 {
		for g := range sample.All(n, 3, 0, 1, api.MaxWeight) {
			there(g)
		}
	}
	dice := sample.Dice{Seed: 3}
	for range 200 {
		there(dice.Graph(1+dice.Below(api.MaxNodes), dice.Below(50), api.MaxWeight))
	}
	there(dice.Graph(api.MaxNodes, 40000, api.MaxWeight))
}

// A text of just MaxText bytes comes back; with one digit more it is printed, but too long to be read.
func TestP3_4AtTheLongestText(t *testing.T) {
	g := graphOf(11)
	for range (api.MaxText-len("graph 11 104856\n")-len("end\n"))/len("arc 0 0 0\n") - 1 {
		g.Arcs = append(g.Arcs, api.Arc{})
	}
	text, err := Print(g)
	if err != nil {
		t.Fatal(err)
	}
	weight := 1
	for range api.MaxText - len(text) - len("arc 0 0 0\n") {
		weight *= 10
	}
	g.Arcs = append(g.Arcs, api.Arc{Weight: weight})
	text, err = Print(g)
	if err != nil || len(text) != api.MaxText {
		t.Fatalf("the text has %d bytes, %v", len(text), err)
	}
	checkParse(t, text, g, nil)

	g.Arcs[0].From = 10
	text, err = Print(g)
	if err != nil || len(text) != api.MaxText+1 {
		t.Fatalf("the text has %d bytes, %v", len(text), err)
	}
	checkParse(t, text, api.Graph{}, api.ErrLong)
}

// checkRight: what Parse answers of the text is an error, or right and there again behind Print.
func checkRight(t *testing.T, text string) bool {
	t.Helper()
	g, err := Parse(text)
	if err != nil {
		return false
	}
	printed, err := Print(g)
	if err != nil {
		t.Errorf("Parse(%q) is not right: %v, %v", text, g, err)
	}
	checkParse(t, printed, g, nil)
	return true
}

func TestP3_4ParsedIsRight(t *testing.T) {
	for _, text := range []string{
		"graph 0 0\nend",
		"  graph\t3 2\n\narc 2 0 5 # x\narc 1 1 2147483647\r\nend#",
		"graph 65536 1\narc 65535 65535 2147483647\nend",
	} {
		if !checkRight(t, text) {
			t.Errorf("Parse(%q) is an error", text)
		}
		for i := range len(text) {
			checkRight(t, text[:i]+text[i+1:])
			for b := range 256 {
				checkRight(t, text[:i]+string([]byte{byte(b)})+text[i+1:])
				checkRight(t, text[:i]+string([]byte{byte(b)})+text[i:])
			}
		}
	}
}

func TestMemory(t *testing.T) {
	g := sample.Roomy(graphOf(2, row{0, 1, 5}, row{1, 1, 0}))
	before := sample.Room(g)
	checkCheck(t, g, nil)
	checkPrint(t, g, "graph 2 2\narc 0 1 5\narc 1 1 0\nend\n")
	if !slices.Equal(sample.Room(g), before) {
		t.Errorf("the graph that was handed in is now %v", sample.Room(g))
	}

	text := "graph 2 2\narc 0 1 5\narc 1 1 0\nend\n"
	first, err := Parse(text)
	if err != nil {
		t.Fatal(err)
	}
	second, _ := Parse(text)
	sample.Spoil(first.Arcs)
	if !sample.SameGraph(second, graphOf(2, row{0, 1, 5}, row{1, 1, 0})) {
		t.Errorf("two answers share memory: %v", second)
	}
	checkParse(t, text, second, nil)
}
