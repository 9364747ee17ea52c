package image

import (
	"bytes"
	"encoding/binary"
	"hash/crc32"

	"viaduct/api"
	"viaduct/fault"
	"viaduct/hier"
)

// record is a link as it stands in an image.
type record struct {
	To, Left, Right uint32
	Weight          uint64
}

// sealed: bytes with their sum behind them.
func sealed(p []byte) []byte {
	return binary.LittleEndian.AppendUint32(bytes.Clone(p), crc32.ChecksumIEEE(p))
}

// sealedAnew: bytes whose last four are made the sum of the others.
func sealedAnew(x []byte) []byte {
	return sealed(x[:len(x)-4])
}

// bytesOf: the chapter's table, row by row, of a hierarchy in form or not.
func bytesOf(h api.Hier) []byte {
	var out bytes.Buffer
	put := func(part any) {
		if err := binary.Write(&out, binary.LittleEndian, part); err != nil {
			panic(err)
		}
	}
	put([]byte{0x56, 0x44, 0x43, 0x54, 1, 0, 0, 0})
	put([]uint32{uint32(len(h.Node)), uint32(len(h.Up)), uint32(len(h.Down))})
	put(h.Node)
	put(h.UpFirst)
	put(records(h.Up))
	put(h.DownFirst)
	put(records(h.Down))
	return sealed(out.Bytes())
}

func records(links []api.Link) []record {
	list := make([]record, len(links))
	for i, l := range links {
		list[i] = record{To: l.To, Left: l.Left, Right: l.Right, Weight: l.Weight}
	}
	return list
}

func byteAt(i int, e api.Errno) error {
	return fault.At(api.AtByte, i, e)
}

// model: Decode as the chapter's words have it, one error after the other.
func model(x []byte) (api.Hier, error) {
	k := len(x)
	if k < 32 {
		return api.Hier{}, byteAt(k, api.ErrShort)
	}
	for i, v := range []byte{0x56, 0x44, 0x43, 0x54, 1, 0, 0, 0} {
		if x[i] != v && i < 4 {
			return api.Hier{}, byteAt(i, api.ErrMagic)
		}
		if x[i] != v {
			return api.Hier{}, byteAt(i, api.ErrVersion)
		}
	}
	word := func(i int) int { return int(binary.LittleEndian.Uint32(x[i:])) }
	n, a, b := word(8), word(12), word(16)
	for i, isMore := range []bool{n > 65536, a > 1048576, b > 1048576} {
		if isMore {
			return api.Hier{}, byteAt(8+4*i, api.ErrLimit)
		}
	}
	m := 32 + 12*n + 20*(a+b)
	if k < m {
		return api.Hier{}, byteAt(k, api.ErrShort)
	}
	if k > m {
		return api.Hier{}, byteAt(m, api.ErrExtra)
	}
	if !bytes.Equal(x, sealedAnew(x)) {
		return api.Hier{}, byteAt(m-4, api.ErrSum)
	}
	h := modelLists(x[20:], n, a, b)
	if err := hier.Check(h); err != nil {
		return api.Hier{}, err
	}
	return h, nil
}

func modelLists(x []byte, n, a, b int) api.Hier {
	in := bytes.NewReader(x)
	get := func(part any) {
		if err := binary.Read(in, binary.LittleEndian, part); err != nil {
			panic(err)
		}
	}
	h := api.Hier{Node: make([]uint32, n), UpFirst: make([]uint32, n+1), DownFirst: make([]uint32, n+1)}
	up, down := make([]record, a), make([]record, b)
	get(h.Node)
	get(h.UpFirst)
	get(up)
	get(h.DownFirst)
	get(down)
	h.Up, h.Down = links(up), links(down)
	return h
}

func links(list []record) []api.Link {
	out := make([]api.Link, len(list))
	for i, r := range list {
		out[i] = api.Link{To: r.To, Weight: r.Weight, Left: r.Left, Right: r.Right}
	}
	return out
}
