package fault

import (
	"errors"
	"math"
	"slices"
	"strconv"
	"testing"

	"viaduct/api"
)

// layer is a foreign link that wraps another error.
type layer struct{ inner error }

func (l layer) Error() string { return "layer" }
func (l layer) Unwrap() error { return l.inner }

// liar is a foreign link that claims by its methods to be what it isn't.
type liar struct{ layer }

func (liar) Is(error) bool { return true }
func (liar) As(target any) bool {
	switch to := target.(type) {
	case *api.Errno:
		*to = api.ErrFull
	case **api.Fault:
		*to = &api.Fault{Place: api.Place{Kind: api.AtArc, At: 99}, Err: api.ErrFull}
	default:
		return false
	}
	return true
}

// bomb is a foreign link whose Unwrap panics.
type bomb struct{ pad []int }

func (b *bomb) Error() string { return "bomb" }
func (b *bomb) Unwrap() error { return errors.New(strconv.Itoa(b.pad[0])) }

// circle is a foreign link that wraps itself.
type circle struct{}

func (circle) Error() string { return "circle" }
func (circle) Unwrap() error { return circle{} }

// costume is a foreign link that holds a fault without being one.
type costume struct{ *api.Fault }

// bulky is an error that == can't compare.
type bulky []int

func (bulky) Error() string { return "bulky" }

func place(kind api.Kind, at int) api.Place { return api.Place{Kind: kind, At: at} }

func inRing() error {
	f := &api.Fault{Place: place(api.AtByte, 5)}
	f.Err = f
	return f
}

// nested is a number in n faults: byte n-1 is the outermost, byte 0 the innermost.
func nested(n int, innermost error) error {
	err := innermost
	for i := range n {
		err = &api.Fault{Place: place(api.AtByte, i), Err: err}
	}
	return err
}

func nestedPlaces(n int) []api.Place {
	var places []api.Place
	for i := range n {
		places = append(places, place(api.AtByte, n-1-i))
	}
	return places
}

type sample struct {
	name   string
	err    error
	number api.Errno
	places []api.Place
	text   string
}

// samples are errors of all kinds that the chapter's words tell apart, with what they are. A text left out is that of the other cases.
func samples() []sample {
	x := errors.New("x")
	var noFault *api.Fault
	var noBomb *bomb
	line3 := place(api.AtLine, 3)
	return []sample{
		{"nil", nil, 0, nil, ""},
		{"foreign", x, 0, nil, ""},
		{"number", api.ErrFull, api.ErrFull, nil, "no more room"},
		{"number 0", api.Errno(0), 0, nil, ""},
		{"unknown number", api.Errno(77), 77, nil, "error 77"},
		{"number below 0", api.Errno(-1), -1, nil, "error -1"},
		{"place and number", nested(1, api.ErrSum), api.ErrSum, nestedPlaces(1), "byte 0: the check sum doesn't fit"},
		{"two places", &api.Fault{Place: place(api.AtStep, 2), Err: &api.Fault{Place: line3, Err: api.ErrNumber}}, api.ErrNumber, []api.Place{place(api.AtStep, 2), line3}, "step 2: line 3: not a number"},
		{"place of nothing", &api.Fault{Place: line3}, 0, []api.Place{line3}, "line 3"},
		{"place of number 0", &api.Fault{Place: line3, Err: api.Errno(0)}, 0, []api.Place{line3}, "line 3"},
		{"place of a foreign one", &api.Fault{Place: place(9, -4), Err: x}, 0, []api.Place{place(9, -4)}, "place -4"},
		{"zero place", &api.Fault{Err: api.ErrArg}, api.ErrArg, []api.Place{{}}, "place 0: a number outside its range"},
		{"foreign links between", layer{&api.Fault{Place: line3, Err: layer{layer{api.ErrLong}}}}, api.ErrLong, []api.Place{line3}, "line 3: too long"},
		{"nil fault", noFault, 0, nil, ""},
		{"nil fault inside", &api.Fault{Place: line3, Err: noFault}, 0, []api.Place{line3}, "line 3"},
		{"nil fault in a foreign one", layer{noFault}, 0, nil, ""},
		{"foreign link of nothing", layer{nil}, 0, nil, ""},
		{"branches", errors.Join(api.ErrLong, nested(2, api.ErrArg)), 0, nil, ""},
		{"branches inside", &api.Fault{Place: line3, Err: errors.Join(api.ErrLong)}, 0, []api.Place{line3}, "line 3"},
		{"liar", liar{layer{api.ErrLong}}, api.ErrLong, nil, "too long"},
		{"liar at the end", &api.Fault{Place: line3, Err: liar{}}, 0, []api.Place{line3}, "line 3"},
		{"costume", costume{&api.Fault{Place: line3, Err: api.ErrLong}}, api.ErrLong, nil, "too long"},
		{"empty costume", costume{}, 0, nil, ""},
		{"nil foreign pointer", noBomb, 0, nil, ""},
		{"Unwrap that panics", &api.Fault{Place: line3, Err: &bomb{}}, 0, []api.Place{line3}, "line 3"},
		{"not comparable", &api.Fault{Place: line3, Err: bulky{1}}, 0, []api.Place{line3}, "line 3"},
		{"ring of a fault", inRing(), 0, slices.Repeat([]api.Place{place(api.AtByte, 5)}, 64), ""},
		{"foreign circle", circle{}, 0, nil, ""},
		{"place of a circle", &api.Fault{Place: line3, Err: circle{}}, 0, []api.Place{line3}, "line 3"},
		{"64 links", nested(63, api.ErrSum), api.ErrSum, nestedPlaces(63), ""},
		{"65 links", nested(64, api.ErrSum), 0, nestedPlaces(64), ""},
		{"66 links", nested(65, api.ErrSum), 0, nestedPlaces(65)[:64], ""},
		{"64 links, one foreign", layer{nested(62, api.ErrSum)}, api.ErrSum, nestedPlaces(62), ""},
		{"65 links, one foreign", layer{nested(63, api.ErrSum)}, 0, nestedPlaces(63), ""},
	}
}

func TestP1_1At(t *testing.T) {
	var noFault *api.Fault
	x := errors.New("x")
	for _, kind := range []api.Kind{api.AtLine, api.AtByte, api.AtNode, api.AtArc, api.AtStep, 0, 6, -1, math.MinInt, math.MaxInt} {
		for _, at := range []int{0, 1, -1, math.MinInt, math.MaxInt} {
			if got := At(kind, at, nil); got != nil {
				t.Errorf("At(%d, %d, nil) = %v", kind, at, got)
			}
			for _, err := range []error{x, api.ErrArg, api.Errno(0), inRing(), noFault} {
				f, ok := At(kind, at, err).(*api.Fault)
				if !ok || f == nil || f.Place != place(kind, at) || f.Err != err {
					t.Errorf("At(%d, %d, ..) = %#v", kind, at, f)
				}
			}
		}
	}
	err := At(api.AtLine, 3, api.ErrNumber)
	if !errors.Is(err, api.ErrNumber) || errors.Is(err, api.ErrArg) {
		t.Errorf("errors.Is of %v", err)
	}
	if At(api.AtLine, 3, x) == At(api.AtLine, 3, x) {
		t.Error("two answers of At are one fault")
	}
}

func TestP1_2CodeAndPlaces(t *testing.T) {
	for _, s := range samples() {
		if got := Code(s.err); got != s.number {
			t.Errorf("%s: Code %d, wanted %d", s.name, got, s.number)
		}
		if got := Places(s.err); !slices.Equal(got, s.places) {
			t.Errorf("%s: Places %v, wanted %v", s.name, got, s.places)
		}
	}
}

func TestP1_2Has(t *testing.T) {
	for _, s := range samples() {
		for e := api.Errno(-2); e < 80; e++ {
			want := s.number == e && e != 0
			if e == 0 { // a number 0 is told from none by its name alone
				want = s.name == "number 0" || s.name == "place of number 0"
			}
			if got := Has(s.err, e); got != want {
				t.Errorf("%s: Has %d: %v", s.name, e, got)
			}
		}
	}
	if !Has(At(api.AtByte, 1, api.Errno(77)), 77) || Has(nil, 0) {
		t.Error("the chapter's example 5")
	}
}

func TestP1_2PlacesAreNewMemory(t *testing.T) {
	err := At(api.AtStep, 2, At(api.AtLine, 3, api.ErrNumber))
	first := Places(err)
	first[0] = place(api.AtArc, 9)
	_ = append(first[:1], place(api.AtArc, 9))
	if got := Places(err); !slices.Equal(got, []api.Place{place(api.AtStep, 2), place(api.AtLine, 3)}) {
		t.Errorf("Places after an earlier answer was written to: %v", got)
	}
}

func TestP1_3Text(t *testing.T) {
	for _, s := range samples() {
		if s.text == "" && (s.number != 0 || len(s.places) > 0) {
			continue
		}
		if got := Text(s.err); got != s.text {
			t.Errorf("%s: Text %q, wanted %q", s.name, got, s.text)
		}
	}
	words := map[api.Kind]string{api.AtLine: "line", api.AtByte: "byte", api.AtNode: "node", api.AtArc: "arc", api.AtStep: "step", 0: "place", 6: "place", -1: "place", math.MaxInt: "place"}
	for kind, word := range words {
		if got := Text(At(kind, 7, errors.New("x"))); got != word+" 7" {
			t.Errorf("Text of the kind %d: %q", kind, got)
		}
	}
	if got := Text(At(api.AtNode, math.MinInt, At(api.AtArc, math.MaxInt, api.ErrNil))); got != "node -9223372036854775808: arc 9223372036854775807: nil" {
		t.Errorf("Text at the ends of int: %q", got)
	}
	long := ""
	for i := range 63 {
		long += "byte " + strconv.Itoa(62-i) + ": "
	}
	if got := Text(nested(63, api.ErrSum)); got != long+api.ErrSum.Error() {
		t.Errorf("Text of 64 links: %q", got)
	}
	for e := api.ErrArg; e <= api.ErrOrder; e++ {
		if Text(e) != e.Error() {
			t.Errorf("Text of the number %d: %q", e, Text(e))
		}
	}
}

func TestP1_4First(t *testing.T) {
	var noFault *api.Fault
	x, y := errors.New("x"), errors.New("y")
	for _, c := range []struct {
		errs []error
		want error
	}{
		{nil, nil},
		{[]error{}, nil},
		{[]error{nil}, nil},
		{[]error{nil, nil, nil}, nil},
		{[]error{x}, x},
		{[]error{x, y, nil}, x},
		{[]error{nil, y, x}, y},
		{[]error{nil, api.ErrLong, api.ErrArg}, api.ErrLong},
		{[]error{nil, api.Errno(0), x}, api.Errno(0)},
		{[]error{nil, noFault, x}, noFault},
	} {
		before := slices.Clone(c.errs)
		if got := First(c.errs...); got != c.want {
			t.Errorf("First(%v) = %v", c.errs, got)
		}
		if !slices.Equal(c.errs, before) {
			t.Errorf("First changed its list to %v", c.errs)
		}
	}
	if First() != nil {
		t.Error("First of nothing")
	}
}

// links is a chain's links, if it is made of faults and at the end a number or nothing, and nothing else.
func links(err error) (places []api.Place, number api.Errno, ok bool) {
	for {
		switch link := err.(type) {
		case nil:
			return places, 0, true
		case api.Errno:
			return places, link, link != 0
		case *api.Fault:
			if link == nil {
				return nil, 0, false
			}
			places, err = append(places, link.Place), link.Err
		default:
			return nil, 0, false
		}
	}
}

func TestP1_5Shift(t *testing.T) {
	for _, s := range samples() {
		for _, kind := range []api.Kind{api.AtLine, api.AtByte, api.AtStep, 9, 0} {
			for _, by := range []int{0, 1, -1, 10, math.MaxInt, math.MinInt} {
				var want []api.Place
				for _, p := range s.places {
					if p.Kind == kind {
						p.At += by
					}
					want = append(want, p)
				}
				shifted := Shift(s.err, kind, by)
				places, number, ok := links(shifted)
				if !ok || number != s.number || !slices.Equal(places, want) {
					t.Errorf("%s: Shift(%d, %d): %v %v", s.name, kind, by, places, number)
				}
				if (shifted == nil) != (len(s.places) == 0 && s.number == 0) {
					t.Errorf("%s: Shift is nil: %v", s.name, shifted == nil)
				}
				if Code(s.err) != s.number || !slices.Equal(Places(s.err), s.places) {
					t.Errorf("%s: Shift changed what it was given", s.name)
				}
			}
		}
	}
}

func TestP1_5ShiftExamples(t *testing.T) {
	err := At(api.AtStep, 2, At(api.AtLine, 3, api.ErrNumber))
	for _, c := range []struct {
		kind api.Kind
		by   int
		want string
	}{
		{api.AtLine, 10, "step 2: line 13: not a number"},
		{api.AtStep, -1, "step 1: line 3: not a number"},
		{api.AtByte, 5, "step 2: line 3: not a number"},
	} {
		if got := Text(Shift(err, c.kind, c.by)); got != c.want {
			t.Errorf("Shift(%d, %d): %q", c.kind, c.by, got)
		}
	}
	twice := At(api.AtLine, 1, At(api.AtByte, 1, At(api.AtLine, math.MaxInt, api.ErrLong)))
	if got := Text(Shift(twice, api.AtLine, 1)); got != "line 2: byte 1: line -9223372036854775808: too long" {
		t.Errorf("Shift moves each place of the kind, and wraps round as Go adds: %q", got)
	}
}

func TestP1_5ShiftIsNewMemory(t *testing.T) {
	inner := &api.Fault{Place: place(api.AtLine, 3), Err: api.ErrNumber}
	err := At(api.AtStep, 2, inner)
	var outer, second *api.Fault
	if !errors.As(Shift(err, api.AtByte, 1), &outer) || !errors.As(outer.Err, &second) {
		t.Fatal("Shift lost a fault")
	}
	outer.Place.At, second.Place.At, second.Err = 70, 80, nil
	if Text(err) != "step 2: line 3: not a number" || inner.Err != api.ErrNumber {
		t.Errorf("writing to Shift's answer changed what it was given: %q", Text(err))
	}
}

func TestP1_6Same(t *testing.T) {
	all := samples()
	for _, a := range all {
		for _, b := range all {
			want := a.number == b.number && slices.Equal(a.places, b.places)
			if got := Same(a.err, b.err); got != want {
				t.Errorf("Same(%s, %s) = %v", a.name, b.name, got)
			}
		}
		if !Same(a.err, Shift(a.err, api.AtLine, 0)) {
			t.Errorf("%s: Same of itself moved by 0", a.name)
		}
	}
	first := At(api.AtLine, 1, At(api.AtByte, 2, api.ErrSum))
	for _, other := range []error{
		At(api.AtByte, 2, At(api.AtLine, 1, api.ErrSum)),
		At(api.AtLine, 1, At(api.AtByte, 3, api.ErrSum)),
		At(api.AtLine, 1, At(api.AtNode, 2, api.ErrSum)),
		At(api.AtLine, 1, At(api.AtByte, 2, api.ErrArg)),
		At(api.AtLine, 1, api.ErrSum),
		At(api.AtByte, 2, api.ErrSum),
		api.ErrSum,
		nil,
	} {
		if Same(first, other) || Same(other, first) {
			t.Errorf("Same(%v, %v)", first, other)
		}
	}
	if Same(api.ErrLong, At(api.AtByte, 0, api.ErrLong)) || !Same(nil, nil) || !Same(nil, errors.New("x")) || !Same(errors.New("x"), errors.New("y")) {
		t.Error("the chapter's examples of Same")
	}
}

func TestExamples(t *testing.T) {
	err := At(api.AtLine, 3, api.ErrNumber)
	if Code(err) != api.ErrNumber || !slices.Equal(Places(err), []api.Place{place(api.AtLine, 3)}) || Text(err) != "line 3: not a number" || !errors.Is(err, api.ErrNumber) {
		t.Errorf("example 1: %v", err)
	}
	x := errors.New("x")
	if Text(api.ErrFull) != "no more room" || Text(x) != "" || Text(nil) != "" || Code(x) != 0 || Code(nil) != 0 || Text(At(api.Kind(9), -4, x)) != "place -4" {
		t.Error("example 3")
	}
}

// What the calls tell hangs on their arguments alone (P2): asked again, after all others, they tell the same.
func TestP2AskedAgain(t *testing.T) {
	tell := func(err error) string { return Text(err) + Text(Shift(err, api.AtByte, 1)) }
	var before []string
	all := samples()
	for _, s := range all {
		before = append(before, tell(s.err))
	}
	for i, s := range slices.Backward(all) {
		if got := tell(s.err); got != before[i] {
			t.Errorf("%s: asked again: %q, at first %q", s.name, got, before[i])
		}
	}
}
