package build

import (
	"bytes"
	"testing"

	"viaduct/api"
	"viaduct/sample"
)

// Writing over one image, spare room too, changes no other one.
func TestMemoryOfCompile(t *testing.T) {
	for _, opts := range sample.Options() {
		first, second := mustCompile(t, whole, opts), mustCompile(t, whole, opts)
		kept := bytes.Clone(second)
		sample.SpoilList(first, 0x99)
		if !bytes.Equal(second, kept) {
			t.Fatalf("an image has changed: %s", brief(second))
		}
		checkCompile(t, whole, opts, kept, nil)
	}
}

// Bytes stay as they are, spare room too; a hierarchy shares nothing with them, nor its lists with each other.
func TestMemoryOfLoad(t *testing.T) {
	dice := sample.Dice{Seed: 253}
	for _, x := range compiled(t) {
		roomy := sample.RoomyList(x, 0xee)
		was := sample.RoomOf(roomy)
		first, second := mustLoad(t, roomy), mustLoad(t, roomy)
		kept := sample.CopyHier(second)
		if !sample.ListsApart(first) {
			t.Fatalf("Load of %s: two lists have memory in common", brief(x))
		}
		if !bytes.Equal(sample.RoomOf(roomy), was) {
			t.Fatalf("what was handed in has changed: %s", brief(roomy))
		}
		sample.SpoilList(roomy, 0x99)
		if !sample.SameHier(second, kept) {
			t.Fatalf("a hierarchy has changed: %s", brief(second))
		}
		checkLoad(t, x, kept, nil)
		for range 20 {
			wrong := sample.RoomyList(spoilt(x, &dice), 0xee)
			was := sample.RoomOf(wrong)
			Load(wrong)
			if !bytes.Equal(sample.RoomOf(wrong), was) {
				t.Fatalf("what was refused has changed: %s", brief(wrong))
			}
		}
	}
}

func TestMemoryOfDescribe(t *testing.T) {
	check := func(h api.Hier) {
		t.Helper()
		roomy := sample.RoomyHier(h)
		was := sample.RoomOfHier(roomy)
		info, err := Describe(roomy)
		if !sample.SameHier(sample.RoomOfHier(roomy), was) {
			t.Errorf("the hierarchy has changed: %s", brief(roomy))
		}
		checkDescribe(t, h, info, err)
	}
	for h := range sample.Hiers() {
		check(h)
	}
	for _, w := range sample.WrongHiers() {
		check(w.Hier)
	}
}

// P2: the same answers, whatever was asked between.
func TestQuestionsChangeNothing(t *testing.T) {
	dice := sample.Dice{Seed: 254}
	opts := sample.Options()[1]
	x := mustCompile(t, whole, opts)
	h := mustLoad(t, x)
	for i := range 50 {
		checkCompile(t, whole, opts, x, nil)
		checkCompile(t, with(2, "arc 0 9 4"), opts, nil, lineAt(2, api.ErrNode))
		mustCompile(t, textOf(dice.Graph(20, 60, 9)), sample.Options()[i%7])
		checkLoad(t, x, h, nil)
		checkRefused(t, x[:50], byteAt(50, api.ErrShort))
		checkRefused(t, mustEncode(t, without()), falseAt(0))
		checkDescribe(t, api.Hier{}, Info{}, api.ErrShape)
		checkDescribe(t, sample.Three(), Info{Nodes: 3, Plain: 2, Shortcuts: 1}, nil)
	}
}
