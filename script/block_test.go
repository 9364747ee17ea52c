package script

import (
	"fmt"
	"strings"
	"testing"

	"viaduct/api"
	"viaduct/fault"
)

func TestBlocks(t *testing.T) {
	checkRun(t, "graph 0 0\nend", "graph 0 0")
	checkRun(t, "graph 1 0\nend\nlive", "graph 1 0", "live -")
	// Rows, not lines: gaps and comments don't count, and are no part of the text.
	checkRun(t, "# first\n\n  graph\t2   1 # two nodes\r\n\n\tarc  0 1\t\t5 #\n# arc\n  end # of it\n\nlive", "graph 2 1", "live -")
	// Counts of a text, not of its normal graph.
	checkRun(t, "graph 2 3\narc 0 0 1\narc 0 1 5\narc 0 1 5\nend", "graph 2 3")
}

func TestErrorsOfBlocks(t *testing.T) {
	for _, c := range []struct{ block, want string }{
		{"graph", "line 1: " + lacks},
		{"graph 1", "line 1: " + lacks},
		{"graph 1 0 0", "line 1: " + extra},
		{"graph x 0\nend", "line 1: " + noNumber},
		{"graph 65537 0\nend", "line 1: more than may be"},
		{"graph 1 262145\nend", "line 1: more than may be"},
		{"graph 1 0", "line 1: " + lacks},
		{"graph 2 1\nend", "line 2: " + badWord},
		{"graph 2 1\narc 0 1 5", "line 2: " + lacks},
		{"graph 2 1\narc 0 2 x\nend", "line 2: " + noNode},
		{"graph 2 1\narc 0 1 2147483648\nend", "line 2: a weight outside its range"},
		{"graph 2 1\narc 0 1 1\nend 1", "line 3: " + extra},
		{"graph 2 1\narc 0 1 1\narc 0 1 1\nend", "line 3: " + badWord},
		{"graph 1 0\nend 1\n", "line 2: " + extra},
		// What isn't the block's affair is swallowed, to the first end.
		{"graph 2 1\ngraph 1 0\nend", "line 2: " + badWord},
		{"graph 1 0\nload\nlive\ncompile", "line 2: " + badWord},
		{"graph 1 0\nlive\nend", "line 2: " + badWord},
		// By rows, not by lines.
		{"\n# c\ngraph 2 2 # c\n\n\narc 0 1 1\n#\n\narc 0 9 1\n\nend", "line 3: " + noNode},
	} {
		checkAlone(t, c.block, c.want)
		checkAlone(t, "\n\n"+c.block, c.want)
		// From 1 on, wherever it stands; and what was taken ahead of it stays.
		checkLast(t, loaded+"\n# c\n\n"+c.block, "step 5: "+c.want)
	}
}

// A block ends at its first end; what stands behind it are further commands.
func TestBlockEnds(t *testing.T) {
	checkRun(t, "graph 1 0\nend\nend", "graph 1 0", "step 2: "+badWord)
	checkRun(t, "graph 2 1\nend\narc 0 1 5\nend\nlive", "step 1: line 2: "+badWord, "step 2: "+badWord, "step 3: "+badWord, "live -")
	checkRun(t, "graph 1 0\nend x\nlive", "step 1: line 2: "+extra, "live -")
	checkRun(t, "graph 1 0\nlive\ngraph 1 0\nend\nlive", "step 1: line 2: "+badWord, "live -")
	checkRun(t, "graph 0 0\nend\ngraph 1 0\nend\ngraph 2 0", "graph 0 0", "graph 1 0", "step 3: line 1: "+lacks)
	// "end" must be the whole word.
	checkRun(t, "graph 1 0\nends\nendx\nlive", "step 1: line 2: "+badWord)
	checkRun(t, "graph 1 0\nlive end\nend\nlive", "step 1: line 2: "+badWord, "live -")
}

// fullBlock: a block of just so many bytes, no byte of which is idle, without the last line feed.
func fullBlock(size int) string {
	const arc, digits = "\narc 0 1 ", 8
	count := (size - 100) / (len(arc) + digits)
	head := fmt.Sprintf("graph 2 %d", count)
	left := size - len(head) - len("\nend") - count*(len(arc)+digits)
	var block strings.Builder
	block.WriteString(head)
	for i := range count {
		block.WriteString(arc + "10000000"[:digits])
		if i < left {
			block.WriteByte('7')
		}
	}
	return block.String() + "\nend"
}

// The text of a block has a line feed behind each row, be there one in the script or not: so it may be one byte longer.
func TestLongBlocks(t *testing.T) {
	for _, spare := range []int{0, 1, 2} {
		block := fullBlock(api.MaxText - spare)
		if len(block) != api.MaxText-spare {
			t.Fatalf("%d bytes, wanted %d", len(block), api.MaxText-spare)
		}
		answers, err := Run(block, 0)
		if err != nil || len(answers) != 1 {
			t.Fatalf("%s, %v", brief(answers), err)
		}
		head, _, _ := strings.Cut(block, "\n")
		want := head
		if spare == 0 {
			want = "step 1: " + tooLong
		}
		if answers[0] != want {
			t.Errorf("%d bytes less: %q, wanted %q", spare, answers[0], want)
		}
	}
	checkRefused(t, fullBlock(api.MaxText)+"\n", api.ErrLong)
	head, _, _ := strings.Cut(fullBlock(api.MaxText-1), "\n")
	checkLast(t, fullBlock(api.MaxText-1)+"\n", head)
}

func TestErrorsOfRows(t *testing.T) {
	atLine := func(k int, e api.Errno) error { return fault.At(api.AtLine, k, e) }
	checkRefused(t, strings.Repeat("\n", api.MaxText+1), api.ErrLong)
	checkRun(t, strings.Repeat("\n", api.MaxText-len("live"))+"live", "live -")
	checkRun(t, "live"+strings.Repeat(" ", api.MaxLine-len("live"))+"\nlive", "live -", "live -")
	checkRefused(t, "live\nlive"+strings.Repeat(" ", api.MaxLine-len("live")+1), atLine(2, api.ErrLong))
	checkRefused(t, "live\n\x00", atLine(2, api.ErrWord))
	checkRefused(t, loaded+"live \x7f\nwalk", atLine(11, api.ErrWord))
	checkRefused(t, "graph 1 0\n\nlive\xff\nend", atLine(3, api.ErrWord))
	checkRun(t, "live # \xff\x00", "live -")
}

func TestSteps(t *testing.T) {
	most := strings.Repeat("live\n", api.MaxSteps-1)
	answers, err := Run(most+"walk", 0)
	if err != nil || len(answers) != api.MaxSteps || answers[api.MaxSteps-1] != "step 4096: "+badWord {
		t.Errorf("%d answers, %v", len(answers), err)
	}
	checkRefused(t, most+"walk\nlive", api.ErrLimit)
	checkRefused(t, strings.Repeat("x\n", api.MaxSteps+1), api.ErrLimit)
	// The rows' error comes first.
	checkRefused(t, most+"walk\nlive\nx\x00", fault.At(api.AtLine, api.MaxSteps+2, api.ErrWord))
	// A block is one command; empty lines are none.
	blocks := strings.Repeat("graph 1 0\n\nend\n\n", api.MaxSteps)
	if answers, err := Run(blocks, 0); len(answers) != api.MaxSteps || err != nil || answers[api.MaxSteps-1] != "graph 1 0" {
		t.Errorf("%d answers, %v", len(answers), err)
	}
	checkRefused(t, blocks+"graph", api.ErrLimit)
	checkRun(t, "graph 1 0\n"+strings.Repeat("live\n", 2*api.MaxSteps), "step 1: line 2: "+badWord)
	checkRun(t, strings.Repeat("# live\n", 2*api.MaxSteps)+"live", "live -")
}
