package script

import (
	"bytes"
	"fmt"
	"slices"
	"strings"
	"testing"

	"viaduct/api"
	"viaduct/build"
	"viaduct/fault"
	"viaduct/sample"
)

const far = api.Unreached

// known is a graph with its distances, told in the plainest way.
type known struct {
	nodes int
	far   [][]uint64
}

// model is the service as a plain map from handles to graphs, beside it what else a script changes. It writes a script, command by command, and what must be answered.
type model struct {
	dice    *sample.Dice
	pieces  []string // of the script, one a command
	answers []string

	graph   api.Graph // the text's
	hasText bool
	opts    api.Options
	image   []byte // what it is now
	made    []byte // what it was when it was compiled; nil, if there is none
	of      known  // its graph
	handles map[int]known
	last    int
	keeps   bool // hardly a handle goes, so there comes to be no more room
}

// write puts a command behind the script: rows of words, and the answer; or its error, if it has one.
func (m *model) write(answer string, err error, rows ...string) {
	var piece strings.Builder
	for _, row := range rows {
		for m.dice.Below(6) == 0 {
			piece.WriteString([]string{"\n", "# load\n", " \t\r\n", "\t# graph 1 0 \xff\n"}[m.dice.Below(4)])
		}
		gaps := []string{" ", " ", " ", "  ", "\t", " \t "}
		for i, word := range strings.Fields(row) {
			if i > 0 || m.dice.Below(5) == 0 {
				piece.WriteString(gaps[m.dice.Below(len(gaps))])
			}
			piece.WriteString(word)
		}
		piece.WriteString([]string{"\n", "\n", "\n", " # end\n", "#\n", "\r\n"}[m.dice.Below(6)])
	}
	m.pieces = append(m.pieces, piece.String())
	if err != nil {
		answer = fmt.Sprintf("step %d: %s", len(m.pieces), fault.Text(err))
	}
	m.answers = append(m.answers, answer)
}

func textOf(g api.Graph) string {
	var text strings.Builder
	fmt.Fprintf(&text, "graph %d %d\n", g.N, len(g.Arcs))
	for _, arc := range g.Arcs {
		fmt.Fprintf(&text, "arc %d %d %d\n", arc.From, arc.To, arc.Weight)
	}
	return text.String() + "end\n"
}

// block: a graph's text, now and then one that isn't taken.
func (m *model) block() {
	g := api.Graph{N: m.dice.Below(9)}
	if g.N > 0 {
		g = m.dice.Graph(g.N, m.dice.Below(4*g.N), []int{1, 20, api.MaxWeight}[m.dice.Below(3)])
	}
	rows := strings.Split(strings.TrimSpace(textOf(g)), "\n")
	if m.dice.Below(4) == 0 {
		at := m.dice.Below(len(rows))
		rows[at] += " 7"
		m.write("", fault.At(api.AtLine, at+1, api.ErrExtra), rows...)
		return
	}
	m.graph, m.hasText = g, true
	m.write(fmt.Sprintf("graph %d %d", g.N, len(g.Arcs)), nil, rows...)
}

func (m *model) options() {
	number := func() int { return []int{0, 1, 2, 5, 50, -1, -3, 1000, 1 << 30, -1 << 31}[m.dice.Below(10)] }
	m.opts = api.Options{Hops: number(), Settles: number(), Edge: number(), Deleted: number(), Depth: number()}
	m.write("options", nil, fmt.Sprintln("options", m.opts.Hops, m.opts.Settles, m.opts.Edge, m.opts.Deleted, m.opts.Depth))
}

func (m *model) compile(t *testing.T) {
	if !m.hasText {
		m.write("", api.ErrMissing, "compile")
		return
	}
	x, err := build.Compile(textOf(m.graph), m.opts)
	if err != nil {
		t.Fatal(err)
	}
	m.image, m.made, m.of = x, bytes.Clone(x), known{m.graph.N, sample.Distances(m.graph)}
	m.write(fmt.Sprintf("image %d", len(x)), nil, "compile")
}

// spoil: a bit is turned, now and then one that was turned; or the end is cut.
func (m *model) spoil() {
	command, most := "flip", 8*len(m.image)-1
	if m.dice.Below(5) == 0 {
		command, most = "cut", len(m.image)
	}
	number := max(0, most) - m.dice.Below(2)
	if m.dice.Below(3) > 0 {
		number = []int{0, 9, 33, most, most + 1, m.dice.Below(max(1, most))}[m.dice.Below(6)]
	}
	number = max(0, number)
	var err error
	switch {
	case m.made == nil:
		err = api.ErrMissing
	case number > most:
		err = api.ErrArg
	case command == "cut":
		m.image = m.image[:number]
	default:
		m.image[number/8] ^= 1 << (number % 8)
	}
	m.write(command, err, fmt.Sprint(command, " ", number))
}

func (m *model) load() {
	_, err := build.Load(m.image)
	switch {
	case m.made == nil:
		err = api.ErrMissing
	case bytes.Equal(m.image, m.made) && len(m.handles) == api.MaxHandles:
		err = api.ErrFull
	case bytes.Equal(m.image, m.made):
		err = nil
		m.last++
		m.handles[m.last] = m.of
	}
	m.write(fmt.Sprint("handle ", m.last), err, "load")
}

func (m *model) drop(handle int) {
	var err error
	if _, there := m.handles[handle]; !there {
		err = api.ErrHandle
	}
	delete(m.handles, handle)
	m.write("drop", err, fmt.Sprint("drop ", handle))
}

func (m *model) live() {
	var live []string
	for handle := range m.last + 1 {
		if _, there := m.handles[handle]; there {
			live = append(live, fmt.Sprint(handle))
		}
	}
	if len(live) == 0 {
		live = []string{"-"}
	}
	m.write("live "+strings.Join(live, ","), nil, "live")
}

// nodeError: that of the first number that is no node.
func (k known) nodeError(nodes ...int) error {
	for i, v := range nodes {
		if v >= k.nodes {
			return fault.At(api.AtNode, i, api.ErrNode)
		}
	}
	return nil
}

// question: a distance, a path, a table or the nearest, of a handle that may be there or not.
func (m *model) question(handle int) {
	k, there := m.handles[handle]
	node := func() int {
		if m.dice.Below(20) == 0 {
			return k.nodes
		}
		return m.dice.Below(max(1, k.nodes))
	}
	nodes := func() []int {
		var list []int
		for range m.dice.Below(4) {
			list = append(list, node())
		}
		return list
	}
	s, v, rows, columns := node(), node(), nodes(), nodes()
	var err error
	if !there {
		err = api.ErrHandle
	}
	switch m.dice.Below(4) {
	case 0:
		m.distance("distance", handle, s, v, k, err)
	case 1:
		m.distance("path", handle, s, v, k, err)
	case 2:
		m.table(handle, rows, columns, k, err)
	case 3:
		m.nearest(handle, s, columns, k, err)
	}
}

func (m *model) distance(command string, handle, s, v int, k known, err error) {
	err = fault.First(err, k.nodeError(s, v))
	dist := far
	if err == nil {
		dist = k.far[s][v]
	}
	if err == nil && dist == far {
		err = api.ErrNoWalk
	}
	m.write(fmt.Sprint(command, " ", dist), err, fmt.Sprintln(command, handle, s, v))
}

func listText(list []int) string {
	if len(list) == 0 {
		return "-"
	}
	return strings.ReplaceAll(strings.Trim(fmt.Sprint(list), "[]"), " ", ",")
}

func (m *model) table(handle int, rows, columns []int, k known, err error) {
	err = fault.First(err, k.nodeError(slices.Concat(rows, columns)...))
	answer := "table"
	for _, s := range rows {
		if err != nil {
			break
		}
		row := ","
		for _, v := range columns {
			if k.far[s][v] == far {
				row += "-,"
			} else {
				row += fmt.Sprint(k.far[s][v]) + ","
			}
		}
		if row == "," {
			row = "."
		}
		answer += " " + strings.Trim(row, ",")
	}
	m.write(answer, err, fmt.Sprintln("table", handle, listText(rows), listText(columns)))
}

func (m *model) nearest(handle, s int, columns []int, k known, err error) {
	err = fault.First(err, k.nodeError(slices.Concat([]int{s}, columns)...))
	place, least := 0, far
	for j, v := range columns {
		if err == nil && k.far[s][v] < least {
			place, least = j, k.far[s][v]
		}
	}
	if err == nil && least == far {
		err = api.ErrNoWalk
	}
	m.write(fmt.Sprint("nearest ", place, " ", least), err, fmt.Sprintln("nearest", handle, s, listText(columns)))
}

// wrong: a command that is none.
func (m *model) wrong() {
	type wrong struct {
		row string
		err error
	}
	all := []wrong{
		{"walk 1", api.ErrWord}, {"end", api.ErrWord}, {"arc 0 1 1", api.ErrWord}, {"live 1", api.ErrExtra}, {"drop", api.ErrMissing},
		{"path 1 0", api.ErrMissing}, {"distance x 0 01", api.ErrNumber}, {"distance 1 2147483648 x", api.ErrArg}, {"options 1 2 3 4", api.ErrMissing},
		{"options 1 2 3 4 -0", api.ErrNumber}, {"table 1 1, 2", fault.At(api.AtByte, 2, api.ErrNumber)}, {"nearest 1 0 x", fault.At(api.AtByte, 0, api.ErrNumber)},
	}
	w := all[m.dice.Below(len(all))]
	m.write("", w.err, w.row)
}

func (m *model) step(t *testing.T) {
	handle := max(0, m.last+1-m.dice.Below(6))
	if m.dice.Below(3) == 0 {
		handle = m.dice.Below(m.last + 2)
	}
	switch kind := m.dice.Below(40); {
	case kind < 3:
		m.block()
	case kind < 5:
		m.options()
	case kind < 10:
		m.compile(t)
	case kind < 13:
		m.spoil()
	case kind < 20:
		m.load()
	case kind < 22 && !(m.keeps && m.dice.Below(20) > 0):
		m.drop(handle)
	case kind < 23:
		m.live()
	case kind < 25:
		m.wrong()
	default:
		m.question(handle)
	}
}

func written(t *testing.T, dice *sample.Dice, steps int) *model {
	t.Helper()
	m := &model{dice: dice, handles: map[int]known{}, keeps: dice.Below(2) == 0}
	for range steps {
		m.step(t)
	}
	return m
}

// kindOf: the first word of an answer, or what its error says.
func kindOf(answer string) string {
	if strings.HasPrefix(answer, "step ") {
		return answer[strings.LastIndex(answer, ": ")+2:]
	}
	word, _, _ := strings.Cut(answer, " ")
	return word
}

func TestP9Model(t *testing.T) {
	dice := sample.Dice{Seed: 262}
	counts := map[string]int{}
	for range 250 {
		m := written(t, &dice, 1+dice.Below(900))
		script := strings.Join(m.pieces, "")
		answers, err := Run(script, uint32(dice.Below(3))-1)
		if err != nil {
			t.Fatal(err)
		}
		for i, want := range m.answers {
			counts[kindOf(want)]++
			if i >= len(answers) || answers[i] != want {
				t.Fatalf("the step %d, %q: %s, wanted %q", i+1, m.pieces[i], brief(answers[i:]), want)
			}
		}
		if len(answers) != len(m.answers) {
			t.Fatalf("%d answers, wanted %d", len(answers), len(m.answers))
		}
	}
	for _, kind := range []string{"graph", "options", "image", "flip", "cut", "handle", "drop", "live", "distance", "path", "table", "nearest", badArg, badWord, noNumber, lacks, extra, noNode, noWalk, noHandle, noMoreRoom, "no image", "too short", "another version"} {
		if counts[kind] < 50 {
			t.Errorf("only %d answers %q", counts[kind], kind)
		}
	}
}

// A script that is cut between two commands has the beginning of the answers, of whichever age.
func TestP26_2Beginnings(t *testing.T) {
	dice := sample.Dice{Seed: 263}
	for range 12 {
		m := written(t, &dice, 60)
		for count := range m.pieces {
			script := strings.Join(m.pieces[:count], "")
			answers, err := Run(script, ages()[count%len(ages())])
			if err != nil || !slices.Equal(answers, m.answers[:count]) {
				t.Fatalf("%d steps: %s, %v, wanted %s", count, brief(answers), err, brief(m.answers[:count]))
			}
			// The last line feed makes no difference.
			answers, err = Run(strings.TrimSuffix(script, "\n"), 0)
			if err != nil || !slices.Equal(answers, m.answers[:count]) {
				t.Fatalf("%d steps without the last line feed: %s, %v", count, brief(answers), err)
			}
		}
	}
}

func TestP26_2Ages(t *testing.T) {
	dice := sample.Dice{Seed: 264}
	for range 20 {
		m := written(t, &dice, 200)
		checkRun(t, strings.Join(m.pieces, ""), m.answers...)
	}
}

// P2: a script begins anew, whatever ran before; and answers are new memory.
func TestRunsApart(t *testing.T) {
	first, err := Run(loaded+"distance 1 0 3", 0)
	if err != nil {
		t.Fatal(err)
	}
	second, _ := Run(loaded+"distance 1 0 3", 0)
	want := slices.Clone(second)
	sample.SpoilList(first, "x")
	if !slices.Equal(second, want) {
		t.Errorf("an answer has changed: %q", second)
	}
	checkRun(t, "live\ndistance 1 0 3\nload\ncompile", "live -", "step 2: "+noHandle, "step 3: "+lacks, "step 4: "+lacks)
}

// Scripts of any bytes: as many answers as there are commands, or an error; never a panic.
func TestP1AnyScripts(t *testing.T) {
	dice := sample.Dice{Seed: 265}
	pieces := []string{"graph", "arc", "end", "options", "compile", "flip", "cut", "load", "drop", "live", "distance", "path", "table", "nearest", " ", " ", " ", " ", "\n", "\n", "\n", "\t", "#", "0", "1", "2", "0,1", "-", ",", "\r", "2147483647", "2147483648", "99999999999999999999", "\x00", "\xff", whole, "graph 2 1\narc 0 1 3\nend\n", "compile\nload\n"}
	counts := [2]int{}
	for range 8000 {
		var script strings.Builder
		for range dice.Below(40) {
			script.WriteString(pieces[dice.Below(len(pieces)-2*dice.Below(2))])
		}
		answers, err := Run(script.String(), uint32(dice.Below(1<<32)))
		if err != nil {
			counts[0]++
			if len(answers) > 0 {
				t.Fatalf("%q: %q, %v", script.String(), answers, err)
			}
			continue
		}
		counts[1]++
		for i, answer := range answers {
			if answer == "" || strings.HasPrefix(answer, "step ") && !strings.HasPrefix(answer, fmt.Sprintf("step %d: ", i+1)) {
				t.Fatalf("%q: %q", script.String(), answers)
			}
		}
	}
	if min(counts[0], counts[1]) < 1000 {
		t.Errorf("%d are refused, %d are not", counts[0], counts[1])
	}
}
