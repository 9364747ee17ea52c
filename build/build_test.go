package build

import (
	"bytes"
	"fmt"
	"strings"
	"testing"

	"viaduct/api"
	"viaduct/fault"
	"viaduct/image"
	"viaduct/order"
	"viaduct/sample"
)

// brief: what a failure tells of a thing, which may have a million links.
func brief(thing any) string {
	text := fmt.Sprint(thing)
	return text[:min(len(text), 300)]
}

func lineAt(k int, e api.Errno) error {
	return fault.At(api.AtLine, k, e)
}

func byteAt(k int, e api.Errno) error {
	return fault.At(api.AtByte, k, e)
}

func falseAt(rank int) error {
	return fault.At(api.AtNode, rank, api.ErrFalse)
}

func checkCompile(t *testing.T, text string, opts api.Options, want []byte, wantErr error) {
	t.Helper()
	if x, err := Compile(text, opts); !bytes.Equal(x, want) || !sample.SameError(err, wantErr) {
		t.Errorf("Compile(%s, %v): %s, %v, wanted %s, %v", brief(text), opts, brief(x), err, brief(want), wantErr)
	}
}

// checkText: a text that is refused, whatever the options.
func checkText(t *testing.T, text string, want error) {
	t.Helper()
	for _, opts := range sample.Options() {
		checkCompile(t, text, opts, nil, want)
	}
}

func checkLoad(t *testing.T, x []byte, want api.Hier, wantErr error) {
	t.Helper()
	if h, err := Load(x); !sample.SameHier(h, want) || !sample.SameError(err, wantErr) {
		t.Errorf("Load(%s), of %d bytes: %s, %v, wanted %s, %v", brief(x), len(x), brief(h), err, brief(want), wantErr)
	}
}

func checkRefused(t *testing.T, x []byte, want error) {
	t.Helper()
	checkLoad(t, x, api.Hier{}, want)
}

func checkDescribe(t *testing.T, h api.Hier, want Info, wantErr error) {
	t.Helper()
	if info, err := Describe(h); info != want || !sample.SameError(err, wantErr) {
		t.Errorf("Describe(%s): %v, %v, wanted %v, %v", brief(h), info, err, want, wantErr)
	}
}

func mustEncode(t *testing.T, h api.Hier) []byte {
	t.Helper()
	x, err := image.Encode(h)
	if err != nil {
		t.Fatalf("Encode(%s): %v", brief(h), err)
	}
	return x
}

func mustCompile(t *testing.T, text string, opts api.Options) []byte {
	t.Helper()
	x, err := Compile(text, opts)
	if err != nil {
		t.Fatalf("Compile(%s, %v): %v", brief(text), opts, err)
	}
	return x
}

func mustLoad(t *testing.T, x []byte) api.Hier {
	t.Helper()
	h, err := Load(x)
	if err != nil {
		t.Fatalf("Load(%s): %v", brief(x), err)
	}
	return h
}

// textOf: a graph as a text, told here by itself.
func textOf(g api.Graph) string {
	var text strings.Builder
	fmt.Fprintf(&text, "graph %d %d\n", g.N, len(g.Arcs))
	for _, arc := range g.Arcs {
		fmt.Fprintf(&text, "arc %d %d %d\n", arc.From, arc.To, arc.Weight)
	}
	return text.String() + "end\n"
}

// whole: the text of the document's ten examples. with: the same with another line.
const whole = "graph 4 5\narc 0 1 4\narc 1 2 1\narc 0 2 9\narc 2 3 2\narc 2 2 7\nend\n"

func with(line int, other string) string {
	lines := strings.Split(whole, "\n")
	lines[line-1] = other
	return strings.Join(lines, "\n")
}

// wholeGraph: the graph that it is.
func wholeGraph() api.Graph {
	type row = [3]int
	return sample.Graph(4, row{0, 1, 4}, row{1, 2, 1}, row{0, 2, 9}, row{2, 3, 2}, row{2, 2, 7})
}

// noneBytes: the image of no nodes, byte by byte.
func noneBytes() []byte {
	x := append([]byte{0x56, 0x44, 0x43, 0x54, 1, 0, 0, 0}, make([]byte, 20)...)
	return append(x, 0xf7, 0x36, 0x21, 0x9f)
}

// none: the hierarchy of no nodes.
func none() api.Hier {
	return sample.Flat(0, 0, 0)
}

// without: the hierarchy of chapter 10's example without its shortcut.
func without() api.Hier {
	h := sample.Three()
	h.UpFirst, h.Up = []uint32{0, 1, 1, 1}, h.Up[:1]
	return h
}

func TestP24_1Examples(t *testing.T) {
	for _, opts := range sample.Options() {
		checkCompile(t, "graph 0 0\nend", opts, noneBytes(), nil)
	}
	checkText(t, "", lineAt(0, api.ErrMissing))
	checkRefused(t, nil, byteAt(0, api.ErrShort))
	checkRefused(t, []byte{}, byteAt(0, api.ErrShort))
	checkLoad(t, noneBytes(), none(), nil)
	checkLoad(t, mustEncode(t, sample.Three()), sample.Three(), nil)
	checkRefused(t, mustEncode(t, without()), falseAt(0))
}

// checkMade: the text's image is that of the hierarchy that order makes of the graph.
func checkMade(t *testing.T, text string, g api.Graph, opts api.Options) {
	t.Helper()
	h, err := order.Build(g, opts)
	if err != nil {
		t.Fatalf("Build(%s, %v): %v", brief(g), opts, err)
	}
	checkCompile(t, text, opts, mustEncode(t, h), nil)
}

func TestP24_1Compile(t *testing.T) {
	all, i := sample.Options(), 0
	for g := range sample.Some() {
		checkMade(t, textOf(g), g, all[i%len(all)])
		i++
	}
	for _, opts := range all {
		checkMade(t, whole, wholeGraph(), opts)
	}
}

// The options make a difference to the image, each of them: none is lost on the way.
func TestP24_1EachOption(t *testing.T) {
	dice := sample.Dice{Seed: 241}
	base := api.Options{Hops: 4, Settles: 6, Edge: 2, Deleted: 1, Depth: 1}
	changes := []func(*api.Options){
		func(o *api.Options) { o.Hops = 1 }, func(o *api.Options) { o.Settles = 1 },
		func(o *api.Options) { o.Edge = -2 }, func(o *api.Options) { o.Deleted = -3 }, func(o *api.Options) { o.Depth = -4 },
	}
	differ := make([]int, len(changes))
	for range 10 {
		g := dice.Graph(20, 60, 30)
		x := mustCompile(t, textOf(g), base)
		for i, change := range changes {
			opts := base
			change(&opts)
			checkMade(t, textOf(g), g, opts)
			if !bytes.Equal(mustCompile(t, textOf(g), opts), x) {
				differ[i]++
			}
		}
	}
	for i, count := range differ {
		if count == 0 {
			t.Errorf("the option %d makes no difference", i)
		}
	}
}

// Comments, empty lines and the order of rows are the text's affair: what counts is the normal graph.
func TestP24_1Forms(t *testing.T) {
	opts := sample.Options()[1]
	x := mustCompile(t, whole, opts)
	for _, text := range []string{
		strings.TrimSuffix(whole, "\n"),
		"# five arcs\r\n\n" + strings.ReplaceAll(whole, " ", " \t ") + "\n# the end",
		strings.ReplaceAll(whole, "\n", " # so\r\n"),
		"graph 4 7\narc 2 3 2\narc 0 1 4\narc 3 3 0\narc 0 2 9\narc 1 2 1\narc 0 2 9\narc 2 3 5\nend",
		"graph 4 4\narc 2 3 2\narc 0 2 9\narc 1 2 1\narc 0 1 4\nend",
	} {
		checkCompile(t, text, opts, x, nil)
	}
}

func TestErrorsOfTexts(t *testing.T) {
	for _, c := range []struct {
		text string
		want error
	}{
		{with(1, "graph 4 6"), lineAt(7, api.ErrWord)},
		{with(2, "arc 0 9 4"), lineAt(2, api.ErrNode)},
		{with(2, "arc 0 1 04"), lineAt(2, api.ErrNumber)},
		{with(2, "arc 0 1 2147483648"), lineAt(2, api.ErrWeight)},
		{with(7, ""), lineAt(6, api.ErrMissing)},
		{with(1, "graph 4 4"), lineAt(6, api.ErrWord)},
		{with(1, "graf 4 5"), lineAt(1, api.ErrWord)},
		{with(1, "graph 4"), lineAt(1, api.ErrMissing)},
		{with(1, "graph -4 5"), lineAt(1, api.ErrNumber)},
		{with(1, "graph 65537 5"), lineAt(1, api.ErrLimit)},
		{with(1, "graph 4 262145"), lineAt(1, api.ErrLimit)},
		{with(6, "arc 2 2"), lineAt(6, api.ErrMissing)},
		{with(6, "arc 2 2 7 1"), lineAt(6, api.ErrExtra)},
		{with(6, "arc 4 2 7"), lineAt(6, api.ErrNode)},
		{with(3, "arc 1 2 -1"), lineAt(3, api.ErrNumber)},
		{with(3, "arc 1 2 1\xff"), lineAt(3, api.ErrWord)},
		{with(3, "arc 1 2 1 #"+strings.Repeat("x", api.MaxLine)), lineAt(3, api.ErrLong)},
		{whole + "end", lineAt(8, api.ErrExtra)},
		{whole + whole, lineAt(8, api.ErrExtra)},
		{"\n\n", lineAt(0, api.ErrMissing)},
		{"graph 0 0", lineAt(1, api.ErrMissing)},
		{"graph 0 0\nend\x00", lineAt(2, api.ErrWord)},
		{"\x56\x44\x43\x54", lineAt(1, api.ErrWord)},
	} {
		checkText(t, c.text, c.want)
	}
}

func TestErrorsOfLongTexts(t *testing.T) {
	full := whole + strings.Repeat("\n", api.MaxText-len(whole))
	opts := sample.Options()[1]
	checkMade(t, full, wholeGraph(), opts)
	checkText(t, full+"\n", api.ErrLong)
	// The comment is part of the line.
	comment := "#" + strings.Repeat("x", api.MaxLine-len("arc 0 1 4")-1)
	checkMade(t, with(2, "arc 0 1 4"+comment), wholeGraph(), opts)
	checkText(t, with(2, "arc 0 1 4"+comment+"x"), lineAt(2, api.ErrLong))
}

// Each hierarchy in form is loaded just if it is true.
func TestP24_1Load(t *testing.T) {
	counts := [2]int{}
	check := func(h api.Hier) {
		x := mustEncode(t, h)
		if rank := sample.FirstFalse(h); rank >= 0 {
			counts[0]++
			checkRefused(t, x, falseAt(rank))
			return
		}
		counts[1]++
		checkLoad(t, x, h, nil)
	}
	for h := range sample.Hiers() {
		check(h)
	}
	for h := range sample.LooseHiers(242, 3000, 12) {
		check(h)
	}
	if min(counts[0], counts[1]) < 300 {
		t.Errorf("%d are false, %d true", counts[0], counts[1])
	}
}

func TestP24_2Examples(t *testing.T) {
	checkDescribe(t, sample.Three(), Info{Nodes: 3, Plain: 2, Shortcuts: 1}, nil)
	checkDescribe(t, none(), Info{}, nil)
	checkDescribe(t, sample.Flat(1, 0, 0), Info{Nodes: 1}, nil)
	checkDescribe(t, sample.Flat(4, 3, 5), Info{Nodes: 4, Plain: 8}, nil)
	// Its form is asked, not whether it is true.
	checkDescribe(t, without(), Info{Nodes: 3, Plain: 2}, nil)
	// Four plain links up, as many down; of those between the four higher nodes all are shortcuts.
	checkDescribe(t, sample.Doubling(5, 3), Info{Nodes: 5, Plain: 8, Shortcuts: 12}, nil)
}

// infoOf: what is counted link by link.
func infoOf(h api.Hier) Info {
	info := Info{Nodes: len(h.Node)}
	for _, list := range [][]api.Link{h.Up, h.Down} {
		for _, link := range list {
			if link.Left == api.NoLink && link.Right == api.NoLink {
				info.Plain++
			} else {
				info.Shortcuts++
			}
		}
	}
	return info
}

func TestP24_2Describe(t *testing.T) {
	for h := range sample.Hiers() {
		checkDescribe(t, h, infoOf(h), nil)
	}
	some := 0
	for h := range sample.LooseHiers(243, 500, 15) {
		info := infoOf(h)
		checkDescribe(t, h, info, nil)
		if info.Plain > 0 && info.Shortcuts > 0 && info.Plain != info.Shortcuts {
			some++
		}
	}
	if some < 100 {
		t.Errorf("only %d have links of both kinds", some)
	}
}

// There may be more plain links than a graph may have arcs.
func TestP24_2Limits(t *testing.T) {
	const half = api.MaxLinks / 2
	checkDescribe(t, sample.Flat(1025, half, half), Info{Nodes: 1025, Plain: api.MaxLinks}, nil)
	checkDescribe(t, sample.Flat(1500, api.MaxLinks, 0), Info{Nodes: 1500, Plain: api.MaxLinks}, nil)
	checkDescribe(t, sample.Flat(api.MaxNodes, 0, 7), Info{Nodes: api.MaxNodes, Plain: 7}, nil)
	checkDescribe(t, sample.Flat(1025, half+1, half), Info{}, api.ErrLimit)
	checkDescribe(t, sample.Flat(api.MaxNodes+1, 0, 7), Info{}, api.ErrLimit)
}

func TestErrorsOfForm(t *testing.T) {
	for _, w := range sample.WrongHiers() {
		checkDescribe(t, w.Hier, Info{}, w.Err)
	}
}
