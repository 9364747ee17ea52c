package image

import (
	"viaduct/api"
	"viaduct/crc"
	"viaduct/fault"
	"viaduct/wire"
)

// reader takes the parts of an image one behind the other. Where it can't go on, it gives up by a panic with a fault.
type reader struct {
	bytes []byte
	at    int
}

// hierOf reads a whole image. The hierarchy need not be in form.
func hierOf(x []byte) api.Hier {
	r := &reader{bytes: x}
	r.reach(emptySize)
	r.sign(magic, api.ErrMagic)
	r.sign(version, api.ErrVersion)
	nodes := r.count(api.MaxNodes)
	ups := r.count(api.MaxLinks)
	downs := r.count(api.MaxLinks)
	r.end(sizeOf(nodes, ups, downs))
	var h api.Hier
	h.Node = r.words(nodes)
	h.UpFirst = r.words(nodes + 1)
	h.Up = r.links(ups)
	h.DownFirst = r.words(nodes + 1)
	h.Down = r.links(downs)
	return h
}

// giveUp ends the reading for a fault at a byte; Decode catches it.
func giveUp(at int, e api.Errno) {
	panic(fault.At(api.AtByte, at, e))
}

// reach asks for so many bytes in all.
func (r *reader) reach(size int) {
	if len(r.bytes) < size {
		giveUp(len(r.bytes), api.ErrShort)
	}
}

// end asks whether there are so many bytes and no more, and the sum fits. It comes ahead of the lists: so no more memory is taken for them than the bytes are worth.
func (r *reader) end(size int) {
	r.reach(size)
	if len(r.bytes) > size {
		giveUp(size, api.ErrExtra)
	}
	if !crc.Fits(r.bytes) {
		giveUp(size-sumSize, api.ErrSum)
	}
}

// sign asks for the bytes of a text.
func (r *reader) sign(text string, e api.Errno) {
	for i := range len(text) {
		if r.bytes[r.at+i] != text[i] {
			giveUp(r.at+i, e)
		}
	}
	r.at += len(text)
}

// count is a number that may be at most most.
func (r *reader) count(most int) int {
	from := r.at
	count := int(r.words(1)[0])
	if count > most {
		giveUp(from, api.ErrLimit)
	}
	return count
}

func (r *reader) words(count int) []uint32 {
	list, err := wire.Words(r.bytes, r.at, count)
	if err != nil {
		panic(err)
	}
	r.at += wordSize * count
	return list
}

func (r *reader) links(count int) []api.Link {
	list := make([]api.Link, count)
	words := r.words(linkWords * count)
	for i := range list {
		part := words[linkWords*i:]
		list[i] = api.Link{To: part[0], Left: part[1], Right: part[2], Weight: uint64(part[4])<<32 | uint64(part[3])}
	}
	return list
}
