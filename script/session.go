package script

import (
	"strconv"

	"viaduct/api"
	"viaduct/fault"
	"viaduct/gtext"
	"viaduct/nav"
)

// session is what the commands of a script change.
type session struct {
	service  *nav.Nav
	opts     api.Options
	text     string // of a graph; the empty text, which is none, while it lacks
	image    []byte
	hasImage bool // one that was cut to no bytes doesn't lack
}

// carryOut: a command's answer, or its error: then nothing has changed.
func (s *session) carryOut(c command) (string, error) {
	if c.isBlock() {
		return s.takeGraph(c.text())
	}
	words := c.words()
	name := words[0]
	if err := fault.First(checkCount(words), s.checkThere(name)); err != nil {
		return "", err
	}
	return s.answer(name, &reader{words: words[1:]})
}

// checkThere asks whether there is what a command works on.
func (s *session) checkThere(name string) error {
	lacks := false
	switch name {
	case compileWord:
		lacks = s.text == ""
	case flipWord, cutWord, loadWord:
		lacks = !s.hasImage
	}
	if lacks {
		return api.ErrMissing
	}
	return nil
}

func (s *session) answer(name string, r *reader) (string, error) {
	switch name {
	case optionsWord:
		return s.setOptions(r)
	case compileWord:
		return s.compile()
	case flipWord:
		return s.flip(r)
	case cutWord:
		return s.cut(r)
	case loadWord:
		return s.load()
	case dropWord:
		return s.drop(r)
	case liveWord:
		return s.live()
	case distanceWord:
		return s.distance(r)
	case pathWord:
		return s.path(r)
	case tableWord:
		return s.table(r)
	case nearestWord:
		return s.nearest(r)
	}
	// No word comes here: what is no command was refused when its words were counted.
	return "", api.ErrWord
}

func (s *session) takeGraph(text string) (string, error) {
	g, err := gtext.Parse(text)
	if err != nil {
		return "", err
	}
	s.text = text
	return line(graphWord, strconv.Itoa(g.N), strconv.Itoa(len(g.Arcs))), nil
}

func (s *session) setOptions(r *reader) (string, error) {
	opts := api.Options{Hops: r.signed(), Settles: r.signed(), Edge: r.signed(), Deleted: r.signed(), Depth: r.signed()}
	if r.err != nil {
		return "", r.err
	}
	s.opts = opts
	return optionsWord, nil
}

func (s *session) compile() (string, error) {
	x, err := s.service.Compile(s.text, s.opts)
	if err != nil {
		return "", err
	}
	s.image, s.hasImage = x, true
	return line("image", strconv.Itoa(len(x))), nil
}

func (s *session) flip(r *reader) (string, error) {
	bit := r.number()
	if r.err != nil {
		return "", r.err
	}
	if bit >= 8*len(s.image) {
		return "", api.ErrArg
	}
	s.image[bit/8] ^= 1 << (bit % 8)
	return flipWord, nil
}

func (s *session) cut(r *reader) (string, error) {
	count := r.number()
	if r.err != nil {
		return "", r.err
	}
	if count > len(s.image) {
		return "", api.ErrArg
	}
	s.image = s.image[:count]
	return cutWord, nil
}
