package sample

import (
	"math"
	"slices"

	"viaduct/api"
	"viaduct/fault"
)

// WrongHier is a hierarchy that is not in form, with hier.Check's error of it.
type WrongHier struct {
	Name string
	Hier api.Hier
	Err  error
}

// WrongHiers: hierarchies that are not in form, with one fault, or with several, of which the one that is asked first counts.
func WrongHiers() []WrongHier {
	return slices.Concat(wrongCounts(), wrongFirsts(), wrongNodes(), wrongLinks(), wrongShortcuts(), wrongTurned())
}

func changed(name string, err error, change func(*api.Hier)) WrongHier {
	h := Three()
	change(&h)
	return WrongHier{name, h, err}
}

func wrongCounts() []WrongHier {
	type numbers = []uint32
	return []WrongHier{
		{"no list", api.Hier{}, api.ErrShape},
		{"no DownFirst", api.Hier{UpFirst: numbers{0}}, api.ErrShape},
		{"no UpFirst", api.Hier{DownFirst: numbers{0}}, api.ErrShape},
		{"no UpFirst, but a node", api.Hier{Node: numbers{0}, DownFirst: numbers{0, 0}}, api.ErrShape},
		{"a node too many", api.Hier{Node: make(numbers, api.MaxNodes+1), UpFirst: make(numbers, api.MaxNodes+2), DownFirst: make(numbers, api.MaxNodes+2)}, api.ErrLimit},
		{"a node too many, and no Firsts", api.Hier{Node: make(numbers, api.MaxNodes+1)}, api.ErrLimit},
		changed("an up link too many", api.ErrLimit, func(h *api.Hier) { h.Up, h.Down = make([]api.Link, api.MaxLinks+1), nil }),
		changed("a down link too many", api.ErrLimit, func(h *api.Hier) { h.Up, h.Down = nil, make([]api.Link, api.MaxLinks+1) }),
		changed("a link too many, and no Firsts", api.ErrLimit, func(h *api.Hier) {
			h.Up, h.Down = make([]api.Link, api.MaxLinks/2), make([]api.Link, api.MaxLinks/2+1)
			h.UpFirst, h.DownFirst = nil, nil
		}),
		changed("UpFirst too short", api.ErrShape, func(h *api.Hier) { h.UpFirst = numbers{0, 1, 2} }),
		changed("UpFirst too long", api.ErrShape, func(h *api.Hier) { h.UpFirst = numbers{0, 1, 2, 2, 2} }),
		changed("DownFirst too short", api.ErrShape, func(h *api.Hier) { h.DownFirst = numbers{0, 1, 1} }),
		changed("DownFirst too long", api.ErrShape, func(h *api.Hier) { h.DownFirst = numbers{0, 1, 1, 1, 1} }),
		changed("DownFirst too short, and UpFirst falls", api.ErrShape, func(h *api.Hier) { h.UpFirst, h.DownFirst = numbers{0, 2, 1, 2}, nil }),
		changed("a node too few", api.ErrShape, func(h *api.Hier) { h.Node = numbers{1, 0} }),
		changed("a node beside", api.ErrShape, func(h *api.Hier) { h.Node = numbers{1, 0, 2, 3} }),
	}
}

func wrongFirsts() []WrongHier {
	type numbers = []uint32
	atRank := func(r int) error { return fault.At(api.AtNode, r, api.ErrShape) }
	firsts := func(name string, up, down numbers, err error) WrongHier {
		return changed(name, err, func(h *api.Hier) { h.UpFirst, h.DownFirst = up, down })
	}
	up, down := Three().UpFirst, Three().DownFirst
	return []WrongHier{
		firsts("UpFirst begins with 1", numbers{1, 1, 2, 2}, down, api.ErrShape),
		firsts("UpFirst begins with 1 and falls", numbers{1, 0, 2, 2}, down, api.ErrShape),
		firsts("UpFirst begins far off", numbers{math.MaxUint32, 0, 2, 2}, down, api.ErrShape),
		firsts("UpFirst falls", numbers{0, 2, 1, 2}, down, atRank(1)),
		firsts("UpFirst falls at the end", numbers{0, 1, 2, 1}, down, atRank(2)),
		firsts("UpFirst falls twice", numbers{0, 3, 2, 1}, down, atRank(1)),
		firsts("UpFirst falls from afar", numbers{0, math.MaxUint32, 2, 2}, down, atRank(1)),
		firsts("UpFirst ends too early", numbers{0, 1, 1, 1}, down, api.ErrShape),
		firsts("UpFirst ends too late", numbers{0, 1, 2, 3}, down, api.ErrShape),
		firsts("UpFirst ends far off", numbers{0, 1, 2, math.MaxUint32}, down, api.ErrShape),
		firsts("DownFirst begins with 1", up, numbers{1, 1, 1, 1}, api.ErrShape),
		firsts("DownFirst begins with 1 and falls", up, numbers{1, 1, 0, 1}, api.ErrShape),
		firsts("DownFirst falls", up, numbers{0, 1, 0, 1}, atRank(1)),
		firsts("DownFirst falls twice", up, numbers{0, 9, 8, 7}, atRank(1)),
		firsts("DownFirst ends too early", up, numbers{0, 0, 0, 0}, api.ErrShape),
		firsts("DownFirst ends too late", up, numbers{0, 1, 1, 2}, api.ErrShape),
		firsts("both fall", numbers{0, 1, 2, 1}, numbers{0, 1, 0, 1}, atRank(2)),
		firsts("UpFirst falls, DownFirst begins with 1", numbers{0, 2, 1, 2}, numbers{1, 1, 1, 1}, atRank(1)),
		firsts("UpFirst ends too late, DownFirst falls", numbers{0, 1, 2, 3}, numbers{0, 1, 0, 1}, api.ErrShape),
		changed("UpFirst falls, and a node is twice", atRank(1), func(h *api.Hier) { h.UpFirst, h.Node = numbers{0, 2, 1, 2}, numbers{1, 1, 1} }),
		changed("DownFirst ends too late, and a node is twice", api.ErrShape, func(h *api.Hier) { h.DownFirst, h.Node = numbers{0, 1, 1, 2}, numbers{1, 1, 1} }),
		{"no nodes, but a link up", api.Hier{UpFirst: numbers{0}, DownFirst: numbers{0}, Up: []api.Link{Plain(1, 1)}}, api.ErrShape},
		{"no nodes, and UpFirst 1", api.Hier{UpFirst: numbers{1}, DownFirst: numbers{0}}, api.ErrShape},
		{"no nodes, and DownFirst 1", api.Hier{UpFirst: numbers{0}, DownFirst: numbers{1}}, api.ErrShape},
	}
}

func wrongNodes() []WrongHier {
	type numbers = []uint32
	nodes := func(name string, list numbers, rank int) WrongHier {
		return changed(name, fault.At(api.AtNode, rank, api.ErrOrder), func(h *api.Hier) { h.Node = list })
	}
	return []WrongHier{
		nodes("a node twice", numbers{1, 0, 1}, 2),
		nodes("a node thrice", numbers{1, 1, 1}, 1),
		nodes("a node beyond the last", numbers{3, 0, 2}, 0),
		nodes("a node far off", numbers{1, 0, math.MaxUint32}, 2),
		nodes("a node twice, then one beyond", numbers{2, 2, 3}, 1),
		nodes("a node beyond, then one twice", numbers{2, 4, 2}, 1),
		changed("a node twice, and a link beyond the last", fault.At(api.AtNode, 2, api.ErrOrder), func(h *api.Hier) { h.Node[2], h.Up[0].To = 0, 3 }),
	}
}

func wrongLinks() []WrongHier {
	type links = []api.Link
	atLink := func(i int, e api.Errno) error { return fault.At(api.AtArc, i, e) }
	plainUp := func(name string, err error, list ...api.Link) WrongHier {
		count := uint32(len(list))
		return WrongHier{name, api.Hier{Node: []uint32{0, 1, 2}, UpFirst: []uint32{0, count, count, count}, Up: list, DownFirst: make([]uint32, 4)}, err}
	}
	plainDown := func(name string, err error, list ...api.Link) WrongHier {
		w := plainUp(name, err, list...)
		h := w.Hier
		w.Hier = api.Hier{Node: h.Node, UpFirst: []uint32{0, 0, 1, 1}, Up: links{Plain(2, 1)}, DownFirst: h.UpFirst, Down: h.Up}
		return w
	}
	return []WrongHier{
		plainUp("up beyond the last", atLink(0, api.ErrShape), Plain(3, 1)),
		plainUp("up far off", atLink(1, api.ErrShape), Plain(1, 1), Plain(math.MaxUint32, 1)),
		plainUp("up to its own rank", atLink(0, api.ErrShape), Plain(0, 1)),
		plainUp("up twice the same", atLink(1, api.ErrShape), Plain(1, 1), Plain(1, 1)),
		plainUp("up not rising", atLink(1, api.ErrShape), Plain(2, 1), Plain(1, 1)),
		plainUp("up too dear", atLink(0, api.ErrWeight), Plain(1, api.MaxWeight+1), Plain(1, 1)),
		plainUp("up far too dear", atLink(1, api.ErrWeight), Plain(1, api.MaxWeight), Plain(2, math.MaxUint64)),
		plainUp("up too dear and beyond", atLink(0, api.ErrShape), Plain(3, math.MaxUint64)),
		plainUp("up too dear, then beyond", atLink(0, api.ErrWeight), Plain(1, math.MaxUint64), Plain(3, 1)),
		plainDown("down beyond the last", atLink(1, api.ErrShape), Plain(3, 1)),
		plainDown("down far off", atLink(2, api.ErrShape), Plain(1, 1), Plain(math.MaxUint32, 1)),
		plainDown("down from its own rank", atLink(1, api.ErrShape), Plain(0, 1)),
		plainDown("down twice the same", atLink(2, api.ErrShape), Plain(2, 1), Plain(2, 1)),
		plainDown("down not rising", atLink(2, api.ErrShape), Plain(2, 1), Plain(1, 1)),
		plainDown("down too dear", atLink(2, api.ErrWeight), Plain(1, api.MaxWeight), Plain(2, api.MaxWeight+1)),
		changed("up to a lower rank", atLink(1, api.ErrShape), func(h *api.Hier) { h.Up[1] = Plain(0, 5) }),
		changed("a shortcut to its own rank", atLink(1, api.ErrShape), func(h *api.Hier) { h.Up[1].To = 1 }),
		changed("up wrong ahead of down", atLink(1, api.ErrShape), func(h *api.Hier) { h.Up[1].To, h.Down[0].To = 0, 0 }),
		changed("the plain link of a shortcut is wrong", atLink(0, api.ErrWeight), func(h *api.Hier) { h.Up[0].Weight, h.Up[1].Weight = api.MaxWeight+1, api.MaxWeight+5 }),
	}
}

func wrongShortcuts() []WrongHier {
	atLink := func(i int, e api.Errno) error { return fault.At(api.AtArc, i, e) }
	children := func(name string, left, right uint32) WrongHier {
		return changed(name, atLink(1, api.ErrShape), func(h *api.Hier) { h.Up[1].Left, h.Up[1].Right = left, right })
	}
	shortcut := func(name string, e api.Errno, change func(*api.Hier)) WrongHier {
		return changed(name, atLink(1, e), change)
	}
	return []WrongHier{
		children("no Left", api.NoLink, 0),
		children("no Right", 2, api.NoLink),
		children("Left outside", 3, 0),
		children("Right outside", 2, 3),
		children("Left far off", api.NoLink-1, 0),
		children("Left is up", 0, 0),
		children("Right is down", 2, 2),
		children("Left and Right exchanged", 0, 2),
		children("its own child", 2, 1),
		shortcut("Left of another tail", api.ErrShape, func(h *api.Hier) { h.Down[0].To = 2 }),
		shortcut("Right of another head", api.ErrShape, func(h *api.Hier) { h.Up[0].To = 1 }),
		shortcut("no Left, and too dear", api.ErrShape, func(h *api.Hier) { h.Up[1] = api.Link{To: 2, Weight: math.MaxUint64, Left: api.NoLink, Right: 0} }),
		shortcut("too dear for its children", api.ErrWeight, func(h *api.Hier) { h.Up[1].Weight = 6 }),
		shortcut("too cheap for its children", api.ErrWeight, func(h *api.Hier) { h.Up[1].Weight = 4 }),
		shortcut("beyond MaxTotal", api.ErrWeight, func(h *api.Hier) { h.Up[1].Weight, h.Down[0].Weight = api.MaxTotal+1, api.MaxTotal }),
		shortcut("a child beyond MaxTotal", api.ErrWeight, func(h *api.Hier) { h.Up[1].Weight, h.Down[0].Weight = 0, math.MaxUint64 }),
		{"Right beyond MaxTotal", rightTooDear(), atLink(0, api.ErrWeight)},
		{"doubled beyond MaxTotal", Doubling(20, 1<<30), atLink(19*20/2-1, api.ErrWeight)},
		{"children at unlike ranks", unlikeRanks(), atLink(1, api.ErrShape)},
	}
}

// rightTooDear: a shortcut ahead of its right child, which is so dear that the sum wraps round to the shortcut's own weight. (The left child leads from below, but stands behind both.)
func rightTooDear() api.Hier {
	return api.Hier{
		Node:      []uint32{0, 1, 2},
		UpFirst:   []uint32{0, 1, 2, 2},
		Up:        []api.Link{{To: 2, Weight: 0, Left: 2, Right: 1}, Plain(2, math.MaxUint64)},
		DownFirst: []uint32{0, 0, 1, 1},
		Down:      []api.Link{Plain(0, 1)},
	}
}

// unlikeRanks: a shortcut whose children have the right ends, but don't meet.
func unlikeRanks() api.Hier {
	return api.Hier{
		Node:      []uint32{0, 1, 2, 3},
		UpFirst:   []uint32{0, 0, 1, 2, 2},
		Up:        []api.Link{Plain(3, 1), {To: 3, Weight: 5, Left: 2, Right: 0}},
		DownFirst: []uint32{0, 1, 1, 1, 1},
		Down:      []api.Link{Plain(2, 4)},
	}
}

// wrongTurned: as wrongShortcuts, of a shortcut that leads down.
func wrongTurned() []WrongHier {
	turned := func(name string, e api.Errno, change func(*api.Hier)) WrongHier {
		h := api.Hier{
			Node:      []uint32{1, 0, 2},
			UpFirst:   []uint32{0, 1, 1, 1},
			Up:        []api.Link{Plain(1, 4)},
			DownFirst: []uint32{0, 1, 2, 2},
			Down:      []api.Link{Plain(2, 1), {To: 2, Weight: 5, Left: 1, Right: 0}},
		}
		change(&h)
		return WrongHier{name, h, fault.At(api.AtArc, 2, e)}
	}
	return []WrongHier{
		turned("down: no Left", api.ErrShape, func(h *api.Hier) { h.Down[1].Left = api.NoLink }),
		turned("down: no Right", api.ErrShape, func(h *api.Hier) { h.Down[1].Right = api.NoLink }),
		turned("down: Left outside", api.ErrShape, func(h *api.Hier) { h.Down[1].Left = 3 }),
		turned("down: Left is up", api.ErrShape, func(h *api.Hier) { h.Down[1].Left = 0 }),
		turned("down: Right is down", api.ErrShape, func(h *api.Hier) { h.Down[1].Right = 1 }),
		turned("down: Left of another tail", api.ErrShape, func(h *api.Hier) { h.Down[0].To = 1 }),
		turned("down: Right of another head", api.ErrShape, func(h *api.Hier) { h.Up[0].To = 2 }),
		turned("down: too dear for its children", api.ErrWeight, func(h *api.Hier) { h.Down[1].Weight = 6 }),
		turned("down: far too cheap", api.ErrWeight, func(h *api.Hier) { h.Down[1].Weight = 0 }),
	}
}
