package unpack

import (
	"slices"
	"testing"

	"viaduct/api"
	"viaduct/sample"
)

// checkMemory: the hierarchy stays as it is, and nothing that happens to it or to one answer is seen in another one.
func checkMemory(t *testing.T, name string, h api.Hier, ask func(h api.Hier) (ints, error)) {
	t.Helper()
	roomy := sample.RoomyHier(h)
	was := sample.RoomOfHier(roomy)
	one, err := ask(roomy)
	other, errOther := ask(roomy)
	if !slices.Equal(one, other) || !sample.SameError(err, errOther) {
		t.Fatalf("%s: %v, %v, then %v, %v", name, one, err, other, errOther)
	}
	kept := sample.RoomOf(other)
	sample.SpoilList(one, -7)
	if !sample.SameHier(sample.RoomOfHier(roomy), was) {
		t.Errorf("%s: %s has changed", name, brief(h))
	}
	if again, err := ask(roomy); !slices.Equal(again, other) || !sample.SameError(err, errOther) {
		t.Errorf("%s: asked again: %v, %v, it was %v, %v", name, again, err, other, errOther)
	}
	sample.SpoilHier(roomy)
	if now := sample.RoomOf(other); !slices.Equal(now, kept) {
		t.Errorf("%s: the answer is now %v, it was %v", name, now, kept)
	}
}

func checkAllMemory(t *testing.T, h api.Hier, i, s, v int) {
	t.Helper()
	checkMemory(t, "Links", h, func(h api.Hier) (ints, error) { return Links(h, i) })
	checkMemory(t, "Nodes", h, func(h api.Hier) (ints, error) { return Nodes(h, i) })
	checkMemory(t, "Path", h, func(h api.Hier) (ints, error) { return Path(h, s, v) })
	checkMemory(t, "Count", h, func(h api.Hier) (ints, error) {
		n, err := Count(h, i)
		return ints{n}, err
	})
}

func TestMemory(t *testing.T) {
	for i := range 4 {
		for s := range 4 {
			checkAllMemory(t, sample.Three(), i, s, (s+i)%4)
		}
	}
	dice := sample.Dice{Seed: 229}
	for h := range sample.LooseHiers(230, 200, 8) {
		n := len(h.Node)
		checkAllMemory(t, h, dice.Below(len(h.Up)+len(h.Down)+1), dice.Below(n), dice.Below(n))
	}
	tooLong := sample.Doubling(20, 1)
	checkAllMemory(t, tooLong, int(tooLong.UpFirst[18]), 18, 19)
	for _, w := range sample.WrongHiers() {
		checkAllMemory(t, w.Hier, 0, 0, 1)
	}
}

// P2: the same answers, whatever was asked between.
func TestQuestionsChangeNothing(t *testing.T) {
	for range 3 {
		checkLink(t, sample.Three(), 1, ints{2, 0}, ints{0, 1, 2})
		checkPathIs(t, sample.Three(), 0, 2, ints{0, 1, 2}, nil)
		checkLinkRefused(t, sample.Doubling(20, 1), len(sample.Doubling(20, 1).Up)-1, api.ErrLong)
		checkPathIs(t, sample.PlainHier(9), 8, 8, ints{8}, nil)
		checkPathIs(t, api.Hier{}, 0, 0, nil, api.ErrShape)
		checkPathIs(t, sample.Three(), 2, 0, nil, api.ErrNoWalk)
		checkLinkRefused(t, sample.Three(), 3, api.ErrArg)
	}
}
