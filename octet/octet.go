// Package octet is layer 1: numbers, edges, vertices and labels as bytes (see shared/doc/01-octet.md).
package octet

import "milepost/api"

// How many bytes a row of each kind has.
const (
	edgeSize  = 20
	vertSize  = 12
	labelSize = 20
)

// sizes are those that a number may have, in bytes.
var sizes = [4]int{1, 2, 4, 8}

// unsigned are the kinds of numbers that are taken to pieces.
type unsigned interface {
	uint | uint8 | uint16 | uint32 | uint64
}

// isSize says whether a number may have so many bytes.
func isSize(size int) bool {
	for _, s := range sizes {
		if s == size {
			return true
		}
	}
	return false
}

// appendNumber puts the lowest bytes of x, so many of them, behind b. It may write into the room behind b's end: b must be the caller's own.
func appendNumber[T unsigned](b []byte, x T, size int) []byte {
	for i := range size {
		b = append(b, byte(x>>(8*i)))
	}
	return b
}

// joinNumber is the number whose bytes these are; they must not be more than T has.
func joinNumber[T unsigned](b []byte) T {
	var x T
	for i, c := range b {
		x |= T(c) << (8 * i)
	}
	return x
}

// Get is the number of so many bytes at a place.
func Get(b []byte, at, size int) (uint64, api.Errno) {
	// The size goes to the other side, as at + size might wrap.
	if !isSize(size) || at < 0 || at > len(b)-size {
		return 0, api.ErrArg
	}
	return joinNumber[uint64](b[at : at+size]), api.OK
}

// Put is bytes with a number behind them.
func Put(b []byte, x uint64, size int) []byte {
	if !isSize(size) {
		size = 0
	}
	// A copy, as there may be room behind b's end, which is not to be written to.
	own := append(make([]byte, 0, len(b)+size), b...)
	return appendNumber(own, x, size)
}

// Edge is an edge's bytes.
func Edge(e api.Edge) []byte {
	b := make([]byte, 0, edgeSize)
	b = appendNumber(b, e.Tail, 4)
	b = appendNumber(b, e.Head, 4)
	b = appendNumber(b, e.Weight, 8)
	return appendNumber(b, e.Mid, 4)
}

// ReadEdge is the edge of bytes.
func ReadEdge(b []byte) (api.Edge, api.Errno) {
	if len(b) != edgeSize {
		return api.Edge{}, api.ErrForm
	}
	return api.Edge{
		Tail:   joinNumber[uint32](b[0:4]),
		Head:   joinNumber[uint32](b[4:8]),
		Weight: joinNumber[uint64](b[8:16]),
		Mid:    joinNumber[uint32](b[16:20]),
	}, api.OK
}

// Vert is the bytes of what is kept of a vertex.
func Vert(v api.Vert) []byte {
	b := make([]byte, 0, vertSize)
	b = appendNumber(b, v.Rank, 4)
	b = appendNumber(b, v.Level, 4)
	return appendNumber(b, v.Gone, 4)
}

// ReadVert is what is kept of a vertex.
func ReadVert(b []byte) (api.Vert, api.Errno) {
	if len(b) != vertSize {
		return api.Vert{}, api.ErrForm
	}
	return api.Vert{
		Rank:  joinNumber[uint32](b[0:4]),
		Level: joinNumber[uint32](b[4:8]),
		Gone:  joinNumber[uint32](b[8:12]),
	}, api.OK
}

// Label is the bytes of a vertex' label.
func Label(v uint32, l api.Label) []byte {
	b := make([]byte, 0, labelSize)
	b = appendNumber(b, v, 4)
	b = appendNumber(b, l.Hub, 4)
	b = appendNumber(b, l.Next, 4)
	return appendNumber(b, l.Dist, 8)
}

// ReadLabel is a vertex, and its label.
func ReadLabel(b []byte) (uint32, api.Label, api.Errno) {
	if len(b) != labelSize {
		return 0, api.Label{}, api.ErrForm
	}
	return joinNumber[uint32](b[0:4]), api.Label{
		Hub:  joinNumber[uint32](b[4:8]),
		Next: joinNumber[uint32](b[8:12]),
		Dist: joinNumber[uint64](b[12:20]),
	}, api.OK
}
