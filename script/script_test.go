package script

import (
	"fmt"
	"math"
	"slices"
	"strings"
	"testing"

	"viaduct/api"
	"viaduct/build"
	"viaduct/fault"
	"viaduct/sample"
)

// whole: the text of the document's ten examples.
const whole = "graph 4 5\narc 0 1 4\narc 1 2 1\narc 0 2 9\narc 2 3 2\narc 2 2 7\nend\n"

// loaded: a script by which the handle 1 stands for it.
const loaded = whole + "options 5 5 1 0 0\ncompile\nload\n"

// What errors say.
const (
	badArg     = "a number outside its range"
	tooLong    = "too long"
	badWord    = "a word that may not stand there"
	noNumber   = "not a number"
	lacks      = "a word or a line lacks"
	extra      = "something behind the end"
	noNode     = "no such node"
	noWalk     = "no walk"
	noHandle   = "no such handle"
	noMoreRoom = "no more room"
)

func ages() []uint32 {
	return []uint32{0, 1, 77, math.MaxUint32 - 1, math.MaxUint32}
}

func brief(thing any) string {
	text := fmt.Sprintf("%q", thing)
	return text[:min(len(text), 600)]
}

// sizeOf: how many bytes the image of a text has.
func sizeOf(t *testing.T, text string, opts api.Options) int {
	t.Helper()
	x, err := build.Compile(text, opts)
	if err != nil {
		t.Fatal(err)
	}
	return len(x)
}

func checkRun(t *testing.T, script string, want ...string) {
	t.Helper()
	for _, age := range ages() {
		if answers, err := Run(script, age); !slices.Equal(answers, want) || err != nil {
			t.Errorf("Run(%s, %d): %s, %v, wanted %s", brief(script), age, brief(answers), err, brief(want))
			return
		}
	}
}

// checkLast: the last answers of a script.
func checkLast(t *testing.T, script string, want ...string) {
	t.Helper()
	answers, err := Run(script, 3)
	if err != nil || len(answers) < len(want) || !slices.Equal(answers[len(answers)-len(want):], want) {
		t.Errorf("Run(%s): %s, %v, wanted %s at the end", brief(script), brief(answers), err, brief(want))
	}
}

// checkAlone: a script of this command alone is answered by this error.
func checkAlone(t *testing.T, command, text string) {
	t.Helper()
	checkRun(t, command, "step 1: "+text)
}

// checkThen: behind the four steps of loaded, the command is answered so; then nothing else has changed.
func checkThen(t *testing.T, command, want string) {
	t.Helper()
	checkLast(t, loaded+command+"\nlive\ndistance 1 0 3\nload", want, "live 1", "distance 7", "handle 2")
}

// checkThenError: the same of an error.
func checkThenError(t *testing.T, command, text string) {
	t.Helper()
	checkThen(t, command, "step 5: "+text)
}

func checkRefused(t *testing.T, script string, want error) {
	t.Helper()
	if answers, err := Run(script, 0); len(answers) > 0 || !sample.SameError(err, want) {
		t.Errorf("Run(%s): %s, %v, wanted %v", brief(script), brief(answers), err, want)
	}
}

func TestExamples(t *testing.T) {
	size := sizeOf(t, whole, api.Options{Hops: 5, Settles: 5, Edge: 1})
	checkRun(t, loaded+"distance 1 0 3\npath 1 3 0\ntable 1 0,3 3,0\nflip 9\nload\nwalk 1\n",
		"graph 4 5", "options", fmt.Sprint("image ", size), "handle 1", "distance 7", "step 6: no walk", "table 7,0 0,-", "flip", "step 9: byte 1: no image", "step 10: a word that may not stand there")
	checkAlone(t, "load", lacks)
	checkAlone(t, "distance 1 0", lacks)
	checkAlone(t, "distance 1 x 0", noNumber)
	checkAlone(t, "distance 1 0 0", noHandle)
	checkAlone(t, "table 1 0,,1 -", "byte 2: not a number")
	checkAlone(t, "graph 1 0", "line 1: a word or a line lacks")
	checkRun(t, "live", "live -")
	checkRun(t, "")
	checkRun(t, "\n\n# nothing\n \t\r\n")
}

// Those of DOC.md, by way of a script.
func TestWholeExamples(t *testing.T) {
	for _, options := range []string{"0 0 0 0 0", "5 50 2 1 1", "-1 -7 -1000 3 2147483647", "1048577 99 -2147483648 -1 -1"} {
		begin := whole + "options " + options + "\ncompile\nload\n"
		checkLast(t, begin+"distance 1 0 0\ndistance 1 0 1\ndistance 1 0 2\ndistance 1 0 3\ndistance 1 3 3\ndistance 1 3 2",
			"distance 0", "distance 4", "distance 5", "distance 7", "distance 0", "step 10: no walk")
		checkLast(t, begin+"path 1 0 3\npath 1 3 0\npath 1 2 2", "path 7", "step 6: no walk", "path 0")
		checkLast(t, begin+"table 1 0,3 3,0", "table 7,0 0,-")
		checkLast(t, begin+"drop 1\ndistance 1 0 3\ndistance 1 4 0", "drop", "step 6: no such handle", "step 7: no such handle")
		checkLast(t, begin+"distance 1 4 0\ndistance 1 0 4\ncut 50\nload", "step 5: node 0: no such node", "step 6: node 1: no such node", "cut", "step 8: byte 50: too short")
	}
}

func TestP26_1Questions(t *testing.T) {
	checkThen(t, "distance 1 1 3", "distance 3")
	checkThen(t, "distance 1 2 2", "distance 0")
	checkThen(t, "path 1 1 3", "path 3")
	checkThen(t, "path 1 3 3", "path 0")
	checkThen(t, "table 1 0 3", "table 7")
	checkThen(t, "table 1 0,1,3 3,3,0", "table 7,7,0 3,3,- 0,0,-")
	checkThen(t, "table 1 - -", "table")
	checkThen(t, "table 1 - 0,1", "table")
	checkThen(t, "table 1 0 -", "table .")
	checkThen(t, "table 1 0,1,1 -", "table . . .")
	checkThen(t, "nearest 1 0 3,1,2,1", "nearest 1 4")
	checkThen(t, "nearest 1 3 0,3", "nearest 1 0")
	checkThen(t, "live", "live 1")
	checkThenError(t, "distance 1 3 0", noWalk)
	checkThenError(t, "path 1 3 0", noWalk)
	checkThenError(t, "nearest 1 3 0,1", noWalk)
	checkThenError(t, "nearest 1 0 -", noWalk)
}

func TestErrorsOfCalls(t *testing.T) {
	for _, command := range []string{"distance", "path"} {
		checkThenError(t, command+" 1 4 9", "node 0: no such node")
		checkThenError(t, command+" 1 0 4", "node 1: no such node")
		checkThenError(t, command+" 1 2147483647 0", "node 0: no such node")
		checkThenError(t, command+" 2 9 9", noHandle)
		checkThenError(t, command+" 0 0 0", noHandle)
		checkThenError(t, command+" 2147483647 0 0", noHandle)
	}
	checkThenError(t, "table 1 0,4 9", "node 1: no such node")
	checkThenError(t, "table 1 0,1 2,9", "node 3: no such node")
	checkThenError(t, "table 1 - 4", "node 0: no such node")
	checkThenError(t, "table 2 9 9", noHandle)
	checkThenError(t, "nearest 1 4 9", "node 0: no such node")
	checkThenError(t, "nearest 1 0 1,4", "node 2: no such node")
	checkThenError(t, "nearest 2 9 9", noHandle)
	checkThenError(t, "drop 2", noHandle)
	checkThenError(t, "drop 0", noHandle)
}

// 1. A first word that is none of the commands', whatever stands behind it.
func TestErrorsOfFirstWords(t *testing.T) {
	for _, word := range []string{"walk", "end", "arc", "Graph", "GRAPH", "graph1", "graph,", "loads", "loa", "-", "0", "1", "image", "handle", "distance,1", "table:", "~"} {
		for _, rest := range []string{"", " 1", " x 1", " 1 0 3", " 1 2 3 4 5", " 0,,1 - - 07"} {
			checkAlone(t, word+rest, badWord)
			checkThenError(t, word+rest, badWord)
		}
	}
}

// counts: the commands that are no blocks, and how many words stand behind their first one.
func counts() map[string]int {
	return map[string]int{
		"compile": 0, "load": 0, "live": 0, "flip": 1, "cut": 1, "drop": 1,
		"distance": 3, "path": 3, "table": 3, "nearest": 3, "options": 5,
	}
}

// 2. The count of words comes ahead of all that they say, and of what lacks.
func TestErrorsOfCounts(t *testing.T) {
	for command, count := range counts() {
		for words := range 8 {
			for _, word := range []string{" 0", " x", " 1,,2"} {
				line, want := command+strings.Repeat(word, words), lacks
				if words > count {
					want = extra
				}
				if words != count {
					checkAlone(t, line, want)
					checkThenError(t, line, want)
				}
			}
		}
	}
	// Comments are no words.
	checkThen(t, "distance 1 0 3 # 4", "distance 7")
	checkThenError(t, "distance 1 0 # 3", lacks)
}

// 3. What lacks comes ahead of the words' forms.
func TestErrorsOfLack(t *testing.T) {
	for _, command := range []string{"compile", "load", "flip 0", "flip x", "flip 99999999999", "cut 0", "cut x", "cut 99999999999"} {
		checkAlone(t, command, lacks)
		checkLast(t, "graph 1 1\nend\n"+command, "step 2: "+lacks)
		if command != "compile" {
			checkLast(t, whole+command, "step 2: "+lacks)
		}
	}
	checkLast(t, whole+"compile\ncut 0\nload\nflip 0\ncut 1\ncut 0", "cut", "step 4: byte 0: too short", "step 5: "+badArg, "step 6: "+badArg, "cut")
	// A text that isn't taken leaves the one ahead of it.
	checkLast(t, "graph 2 1\narc 0 1 6\nend\ngraph 3 3\nend\ncompile\nload\ndistance 1 0 1", "handle 1", "distance 6")
}

// 4. The first word that is not of its form, from the left, ahead of what the call would say.
func TestErrorsOfForms(t *testing.T) {
	for word, want := range map[string]string{"x": noNumber, "01": noNumber, "-": noNumber, "-1": noNumber, "+1": noNumber, "1x": noNumber, "0,1": noNumber, "2147483648": badArg, "18446744073709551617": badArg} {
		for _, command := range []string{"flip", "cut", "drop"} {
			checkThenError(t, command+" "+word, want)
		}
		for _, command := range []string{"distance", "path"} {
			checkThenError(t, command+" "+word+" y 2147483648", want)
			checkThenError(t, command+" 9 "+word+" 02", want)
			checkThenError(t, command+" 9 9 "+word, want)
		}
		checkThenError(t, "table "+word+" y ,", want)
		checkThenError(t, "nearest "+word+" y ,", want)
		checkThenError(t, "nearest 9 "+word+" ,", want)
	}
	for word, want := range map[string]string{"x": "byte 0: " + noNumber, ",": "byte 0: " + noNumber, "--": "byte 0: " + noNumber, "0,,1": "byte 2: " + noNumber, "10,": "byte 3: " + noNumber, "3,-": "byte 2: " + noNumber, "1,2147483648": "byte 2: " + badArg, "07": "byte 0: " + noNumber} {
		checkThenError(t, "table 9 "+word+" x", want)
		checkThenError(t, "table 9 - "+word, want)
		checkThenError(t, "nearest 9 9 "+word, want)
	}
}

func TestErrorsOfOptions(t *testing.T) {
	for word, want := range map[string]string{"x": noNumber, "01": noNumber, "-": noNumber, "-0": noNumber, "--1": noNumber, "+3": noNumber, "1,2": noNumber, "2147483648": badArg, "-2147483649": badArg} {
		for place := range 5 {
			words := []string{"1", "-2", "3", "-4", "5"}
			words[place] = word
			checkThenError(t, "options "+strings.Join(words, " "), want)
			for later := place + 1; later < 5; later++ {
				words[later] = map[string]string{noNumber: "2147483648", badArg: "x"}[want]
				checkThenError(t, "options "+strings.Join(words, " "), want)
			}
		}
	}
	checkLast(t, "options -2147483648 2147483647 0 -1 1", "options")
}

// 5. Bits and bytes that the image hasn't.
func TestErrorsOfRanges(t *testing.T) {
	size := sizeOf(t, whole, api.Options{Hops: 5, Settles: 5, Edge: 1})
	for _, beyond := range []int{8 * size, 8*size + 1, 16 * size, math.MaxInt32} {
		checkThenError(t, fmt.Sprint("flip ", beyond), badArg)
	}
	for _, beyond := range []int{size + 1, 8 * size, math.MaxInt32} {
		checkThenError(t, fmt.Sprint("cut ", beyond), badArg)
	}
	last := fmt.Sprint("flip ", 8*size-1, "\n")
	sum := fmt.Sprint("byte ", size-4, ": the check sum doesn't fit")
	checkLast(t, loaded+last+"load\n"+last+"load", "flip", "step 6: "+sum, "flip", "handle 2")
	checkLast(t, loaded+fmt.Sprint("cut ", size)+"\nload", "cut", "handle 2")
	checkLast(t, loaded+fmt.Sprint("cut ", size-1)+"\nload\n"+last+fmt.Sprint("cut ", size), "cut", fmt.Sprint("step 6: byte ", size-1, ": too short"), "step 7: "+badArg, "step 8: "+badArg)
}

// Each bit that is turned is refused; turned again it isn't.
func TestP26_1Flip(t *testing.T) {
	x, err := build.Compile(whole, api.Options{Hops: 5, Settles: 5, Edge: 1})
	if err != nil {
		t.Fatal(err)
	}
	for bit := range 8 * len(x) {
		_, wrong := build.Load(sample.Turned(x, bit, 1))
		if wrong == nil {
			t.Fatalf("the bit %d makes no difference", bit)
		}
		flip := fmt.Sprint("flip ", bit, "\n")
		checkLast(t, loaded+flip+"load\nlive\n"+flip+"load\ndistance 2 0 3", "flip", "step 6: "+fault.Text(wrong), "live 1", "flip", "handle 2", "distance 7")
	}
}

func TestP26_1Cut(t *testing.T) {
	size := sizeOf(t, whole, api.Options{Hops: 5, Settles: 5, Edge: 1})
	for count := range size {
		checkLast(t, loaded+fmt.Sprint("cut ", count)+"\nload\ncompile\nload", "cut", fmt.Sprint("step 6: byte ", count, ": too short"), fmt.Sprint("image ", size), "handle 2")
	}
}

// Bits by which one image differs from another one make it that one: what is loaded is what the bytes are.
func TestP26_1FlipToAnother(t *testing.T) {
	one, err := build.Compile("graph 3 2\narc 0 1 5\narc 1 2 1\nend", api.Options{})
	if err != nil {
		t.Fatal(err)
	}
	other, err := build.Compile("graph 3 2\narc 0 1 7\narc 1 2 1\nend", api.Options{})
	if err != nil || len(other) != len(one) {
		t.Fatal(err)
	}
	script := "graph 3 2\narc 0 1 5\narc 1 2 1\nend\ncompile\nload\n"
	for bit := range 8 * len(one) {
		if (one[bit/8]^other[bit/8])>>(bit%8)&1 == 1 {
			script += fmt.Sprint("flip ", bit, "\n")
		}
	}
	checkLast(t, script+"load\ndistance 1 0 2\ndistance 2 0 2\npath 1 0 1\npath 2 0 1\ncompile\nload\ndistance 3 0 1",
		"handle 2", "distance 6", "distance 8", "path 5", "path 7", fmt.Sprint("image ", len(one)), "handle 3", "distance 5")
}

// Options count from the next compile on; the image stays till then, whatever text comes.
func TestP26_1State(t *testing.T) {
	other := "graph 2 1\narc 0 1 6\nend\n"
	checkLast(t, loaded+other+"load\ndistance 2 0 3\ncompile\nload\ndistance 3 0 1\ndistance 3 0 3\ndistance 1 0 3",
		"graph 2 1", "handle 2", "distance 7", fmt.Sprint("image ", sizeOf(t, other, api.Options{Hops: 5, Settles: 5, Edge: 1})), "handle 3", "distance 6", "step 11: node 1: no such node", "distance 7")
}

// The options reach the image, each of them: its bytes are as many as with them, and all its bits.
func TestP26_1EachOption(t *testing.T) {
	dice := sample.Dice{Seed: 261}
	changes := []api.Options{{}, {Hops: 9, Settles: 99}, {Hops: 9, Settles: 99, Edge: 2}, {Hops: 9, Settles: 99, Deleted: -3}, {Hops: 9, Settles: 99, Depth: 4}, {Hops: 1, Settles: 99, Edge: 2}, {Hops: 9, Settles: 2, Edge: 2}}
	seen := map[int]bool{}
	for range 3 {
		g := dice.Graph(25, 90, 30)
		script, want := textOf(g), []string{fmt.Sprintf("graph %d %d", g.N, len(g.Arcs))}
		for _, o := range changes {
			script += fmt.Sprintln("options", o.Hops, o.Settles, o.Edge, o.Deleted, o.Depth) + "compile\n"
			size := sizeOf(t, textOf(g), o)
			seen[size] = true
			want = append(want, "options", fmt.Sprint("image ", size))
		}
		checkRun(t, script, want...)
	}
	if len(seen) < 12 {
		t.Errorf("only %d sizes", len(seen))
	}
}

// A compile that fails leaves the image.
func TestP26_1CompileLimit(t *testing.T) {
	var arcs strings.Builder
	for i := range 1024 {
		fmt.Fprintf(&arcs, "arc %d 0 1\narc 0 %d 2\n", 1+i, 1025+i)
	}
	checkLast(t, loaded+"graph 2050 2048\n"+arcs.String()+"end\noptions 0 0 -1 0 0\ncompile\nload\ndistance 2 0 3\noptions 0 0 1 0 0\ncompile",
		"graph 2050 2048", "options", "step 7: more than may be", "handle 2", "distance 7", "options", fmt.Sprint("image ", 32+12*2050+20*2048))
}

func TestP26_1Handles(t *testing.T) {
	checkLast(t, loaded+"load\nload\nlive\ndrop 2\nlive\ndrop 2\nload\nlive\ndrop 1\ndrop 4\nlive\ndrop 3\nlive\ndistance 3 0 0\nload",
		"handle 2", "handle 3", "live 1,2,3", "drop", "live 1,3", "step 10: "+noHandle, "handle 4", "live 1,3,4", "drop", "drop", "live 3", "drop", "live -", "step 18: "+noHandle, "handle 5")
	full := strings.Repeat("load\n", api.MaxHandles-1)
	checkLast(t, loaded+full+"load\nlive", fmt.Sprint("step ", 4+api.MaxHandles, ": ", noMoreRoom), "live "+upTo(api.MaxHandles))
	checkLast(t, loaded+full+"drop 7\nload\nload\nflip 0\nload", "drop", fmt.Sprint("handle ", api.MaxHandles+1), fmt.Sprint("step ", 6+api.MaxHandles, ": ", noMoreRoom), "flip", fmt.Sprint("step ", 8+api.MaxHandles, ": byte 0: no image"))
}

// upTo: the numbers from 1 on, cut by commas.
func upTo(last int) string {
	var words []string
	for i := range last {
		words = append(words, fmt.Sprint(i+1))
	}
	return strings.Join(words, ",")
}

// A path's length is told, by whichever nodes it goes, of the cheapest arcs.
func TestP26_1Path(t *testing.T) {
	checkLast(t, "graph 3 6\narc 0 1 4\narc 0 1 3\narc 0 1 5\narc 1 2 2\narc 1 1 0\narc 0 2 5\nend\ncompile\nload\npath 1 0 2\npath 1 0 1", "path 5", "path 3")
	checkLast(t, "graph 3 2\narc 0 1 2147483647\narc 1 2 2147483647\nend\ncompile\nload\npath 1 0 2\ndistance 1 0 2\ntable 1 0 2,1", "path 4294967294", "distance 4294967294", "table 4294967294,2147483647")
}
