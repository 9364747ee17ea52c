package script

import (
	"strconv"
	"strings"

	"viaduct/api"
	"viaduct/csr"
	"viaduct/walk"
)

func (s *session) load() (string, error) {
	handle, err := s.service.Load(s.image)
	if err != nil {
		return "", err
	}
	return line("handle", strconv.Itoa(handle)), nil
}

func (s *session) drop(r *reader) (string, error) {
	handle := r.number()
	if r.err != nil {
		return "", r.err
	}
	if err := s.service.Drop(handle); err != nil {
		return "", err
	}
	return dropWord, nil
}

func (s *session) live() (string, error) {
	return line(liveWord, joined(s.service.Live(), "-", strconv.Itoa)), nil
}

func (s *session) distance(r *reader) (string, error) {
	handle, from, to := r.number(), r.number(), r.number()
	if r.err != nil {
		return "", r.err
	}
	dist, err := s.service.Distance(handle, from, to)
	if err != nil {
		return "", err
	}
	return line(distanceWord, distText(dist)), nil
}

func (s *session) path(r *reader) (string, error) {
	handle, from, to := r.number(), r.number(), r.number()
	if r.err != nil {
		return "", r.err
	}
	path, err := s.service.Path(handle, from, to)
	if err != nil {
		return "", err
	}
	length, err := s.length(handle, path)
	if err != nil {
		return "", err
	}
	return line(pathWord, distText(length)), nil
}

// length: that of a walk in a handle's graph. (Which path it is is free, so its length alone can be told.)
func (s *session) length(handle int, nodes []int) (uint64, error) {
	g, err := s.service.Graph(handle)
	if err != nil {
		return 0, err
	}
	c, err := csr.Build(g)
	if err != nil {
		return 0, err
	}
	return walk.Length(c, nodes)
}

func (s *session) table(r *reader) (string, error) {
	handle, rows, columns := r.number(), r.list(), r.list()
	if r.err != nil {
		return "", r.err
	}
	table, err := s.service.Table(handle, rows, columns)
	if err != nil {
		return "", err
	}
	words := []string{tableWord}
	for _, row := range table {
		words = append(words, joined(row, ".", distText))
	}
	return line(words...), nil
}

func (s *session) nearest(r *reader) (string, error) {
	handle, from, columns := r.number(), r.number(), r.list()
	if r.err != nil {
		return "", r.err
	}
	place, dist, err := s.service.Nearest(handle, from, columns)
	if err != nil {
		return "", err
	}
	return line(nearestWord, strconv.Itoa(place), distText(dist)), nil
}

// line: words cut by blanks.
func line(words ...string) string {
	return strings.Join(words, " ")
}

// joined: what a list has, cut by commas; none, if it has nothing.
func joined[T any](list []T, none string, text func(T) string) string {
	if len(list) == 0 {
		return none
	}
	var parts []string
	for _, item := range list {
		parts = append(parts, text(item))
	}
	return strings.Join(parts, ",")
}

func distText(dist uint64) string {
	if dist == api.Unreached {
		return "-"
	}
	return strconv.FormatUint(dist, 10)
}
