package octet_test

import (
	"bytes"
	"encoding/binary"
	"math"
	"testing"

	"milepost/api"
	"milepost/octet"
)

// hugeInts are numbers at the edges of int, where a sum would wrap.
var hugeInts = []int{math.MinInt, math.MinInt + 1, math.MinInt + 8, math.MaxInt - 8, math.MaxInt - 7, math.MaxInt - 1, math.MaxInt}

// noSizes are numbers that are no sizes, those among them that are one modulo a power of two.
var noSizes = append([]int{-8, -4, -2, -1, 0, 3, 5, 6, 7, 9, 10, 12, 16, 32, 64, 256, 257, 258, 1 << 16, 1<<32 + 1, 1<<32 + 8}, hugeInts...)

// numbers need from no byte to all eight.
var numbers = []uint64{0, 1, 0x7f, 0x80, 0xff, 0x100, 0xfffe, 0xffff, 0x10000, 0x010203, 0xffffffff, 1 << 32, 0x0102030405060708, 0xf0e1d2c3b4a59687, 1<<63 - 1, 1 << 63, 1<<64 - 1}

// rising are so many bytes, none like another, with the highest bit set in some.
func rising(n int) []byte {
	b := make([]byte, n)
	for i := range b {
		b[i] = byte(0x71 + 13*i)
	}
	return b
}

// inRoom is b with room behind its end, and all of that memory.
func inRoom(b []byte, room int) (part, whole []byte) {
	whole = append(bytes.Clone(b), bytes.Repeat([]byte{0xee}, room)...)
	return whole[:len(b)], whole
}

// padded are the eight bytes of which b are the first ones.
func padded(b []byte) []byte {
	p := make([]byte, 8)
	copy(p, b)
	return p
}

// turn turns all bits of b, its room too.
func turn(b []byte) {
	b = b[:cap(b)]
	for i := range b {
		b[i] ^= 0xff
	}
}

func TestGetNumbers(t *testing.T) { // P1.1
	b := rising(20)
	for _, size := range []int{1, 2, 4, 8} {
		for at := 0; at+size <= len(b); at++ {
			want := binary.LittleEndian.Uint64(padded(b[at : at+size]))
			if got, e := octet.Get(b, at, size); got != want || e != api.OK {
				t.Errorf("Get at %d, %d: %x, %d; want %x", at, size, got, e, want)
			}
		}
	}
}

func TestGetExamples(t *testing.T) { // P1.1
	b := []byte{1, 2, 3}
	for _, x := range []struct {
		at, size int
		want     uint64
		e        api.Errno
	}{
		{0, 2, 513, api.OK},
		{1, 2, 770, api.OK},
		{2, 2, 0, api.ErrArg},
		{0, 3, 0, api.ErrArg},
		{-1, 1, 0, api.ErrArg},
	} {
		if got, e := octet.Get(b, x.at, x.size); got != x.want || e != x.e {
			t.Errorf("Get at %d, %d: %d, %d", x.at, x.size, got, e)
		}
	}
}

func TestGetNoSize(t *testing.T) { // P1.1
	b := rising(600)
	for _, size := range noSizes {
		for _, at := range append([]int{0, 1, 20, len(b)}, hugeInts...) {
			if got, e := octet.Get(b, at, size); got != 0 || e != api.ErrArg {
				t.Errorf("Get at %d, %d: %d, %d", at, size, got, e)
			}
		}
	}
}

func TestGetPlaces(t *testing.T) { // P1.1
	for n := range 18 {
		b, _ := inRoom(rising(n), 16)
		for _, size := range []int{1, 2, 4, 8} {
			for at := -9; at < n+9; at++ {
				got, e := octet.Get(b, at, size)
				if in := at >= 0 && at+size <= n; in != (e == api.OK) || !in && (got != 0 || e != api.ErrArg) {
					t.Errorf("Get of %d bytes at %d, %d: %d, %d", n, at, size, got, e)
				}
			}
			for _, at := range hugeInts {
				if got, e := octet.Get(b, at, size); got != 0 || e != api.ErrArg {
					t.Errorf("Get of %d bytes at %d, %d: %d, %d", n, at, size, got, e)
				}
			}
		}
	}
	if got, e := octet.Get(nil, 0, 1); got != 0 || e != api.ErrArg {
		t.Errorf("Get of nil: %d, %d", got, e)
	}
}

func TestGetChangesNothing(t *testing.T) { // R3
	b, whole := inRoom(rising(20), 8)
	was := bytes.Clone(whole)
	octet.Get(b, 3, 8)
	octet.Get(b, 16, 8)
	if !bytes.Equal(whole, was) {
		t.Errorf("Get: what is handed in is changed: %x", whole)
	}
}

func TestPutNumbers(t *testing.T) { // P1.2
	for _, ahead := range [][]byte{nil, {}, {9}, rising(7), rising(300)} {
		for _, x := range numbers {
			all := binary.LittleEndian.AppendUint64(nil, x)
			for _, size := range []int{1, 2, 4, 8} {
				want := append(bytes.Clone(ahead), all[:size]...)
				if got := octet.Put(ahead, x, size); !bytes.Equal(got, want) {
					t.Errorf("Put of %d bytes, %x, %d: %x", len(ahead), x, size, got)
				}
			}
		}
	}
}

func TestPutExamples(t *testing.T) { // P1.2
	if got := octet.Put([]byte{9}, 66051, 2); !bytes.Equal(got, []byte{9, 3, 2}) {
		t.Errorf("Put of 9, 66051, 2: %x", got)
	}
	if got := octet.Put([]byte{9}, 7, 3); !bytes.Equal(got, []byte{9}) {
		t.Errorf("Put of 9, 7, 3: %x", got)
	}
}

func TestPutNoSize(t *testing.T) { // P1.2
	for _, size := range noSizes {
		for _, ahead := range [][]byte{nil, {}, {9}, rising(7)} {
			if got := octet.Put(ahead, 0x0102030405060708, size); !bytes.Equal(got, ahead) {
				t.Errorf("Put of %x, %d: %x", ahead, size, got)
			}
		}
	}
}

func TestPutNewMemory(t *testing.T) { // R3
	for _, size := range []int{1, 2, 4, 8, 3, 0, -1} {
		b, whole := inRoom(rising(7), 16)
		was := bytes.Clone(whole)
		one := octet.Put(b, 0x1111111111111111, size)
		kept := bytes.Clone(one)
		two := octet.Put(b, 0x2222222222222222, size)
		if !bytes.Equal(whole, was) {
			t.Errorf("Put of size %d: what is handed in, or the room behind it, is changed: %x", size, whole)
		}
		turn(two)
		if !bytes.Equal(one, kept) {
			t.Errorf("Put of size %d: two answers share memory", size)
		}
		turn(one)
		if !bytes.Equal(whole, was) {
			t.Errorf("Put of size %d: the answer shares memory with what is handed in", size)
		}
	}
}

func TestPutOfWhatWasPut(t *testing.T) { // R3
	b := octet.Put(nil, 1, 4)
	one := octet.Put(b, 2, 4)
	two := octet.Put(b, 3, 4)
	if want := []byte{1, 0, 0, 0, 2, 0, 0, 0}; !bytes.Equal(one, want) {
		t.Errorf("the first of two: %x", one)
	}
	if want := []byte{1, 0, 0, 0, 3, 0, 0, 0}; !bytes.Equal(two, want) {
		t.Errorf("the second of two: %x", two)
	}
}

func TestWhatWasPutIsGot(t *testing.T) { // What follows
	for _, size := range []int{1, 2, 4, 8} {
		for _, x := range numbers {
			b := octet.Put(rising(5), x, size)
			want := x
			if size < 8 {
				want = x % (1 << (8 * size))
			}
			if got, e := octet.Get(b, 5, size); got != want || e != api.OK {
				t.Errorf("put and got: %x, %d: %x, %d", x, size, got, e)
			}
		}
	}
}

func TestEdgeBytes(t *testing.T) { // P1.3
	for _, x := range []struct {
		e    api.Edge
		want []byte
	}{
		{api.Edge{}, make([]byte, 20)},
		{api.Edge{Tail: 1, Head: 2, Weight: 3, Mid: api.None}, []byte{1, 0, 0, 0, 2, 0, 0, 0, 3, 0, 0, 0, 0, 0, 0, 0, 0xff, 0xff, 0xff, 0xff}},
		{api.Edge{Tail: 0x04030201, Head: 0x88878685, Weight: 0x100f0e0d0c0b0a09, Mid: 0x94939291}, []byte{1, 2, 3, 4, 0x85, 0x86, 0x87, 0x88, 9, 10, 11, 12, 13, 14, 15, 16, 0x91, 0x92, 0x93, 0x94}},
		{api.Edge{Tail: 1<<32 - 1, Head: 1<<32 - 1, Weight: 1<<64 - 1, Mid: 1<<32 - 1}, bytes.Repeat([]byte{0xff}, 20)},
	} {
		if got := octet.Edge(x.e); !bytes.Equal(got, x.want) {
			t.Errorf("Edge of %v: %x", x.e, got)
		}
		if got, e := octet.ReadEdge(x.want); got != x.e || e != api.OK {
			t.Errorf("ReadEdge of %x: %v, %d", x.want, got, e)
		}
	}
}

func TestVertBytes(t *testing.T) { // P1.4
	for _, x := range []struct {
		v    api.Vert
		want []byte
	}{
		{api.Vert{}, make([]byte, 12)},
		{api.Vert{Rank: 1, Level: 2, Gone: 3}, []byte{1, 0, 0, 0, 2, 0, 0, 0, 3, 0, 0, 0}},
		{api.Vert{Rank: 0x04030201, Level: 0x88878685, Gone: 0x0c0b0a09}, []byte{1, 2, 3, 4, 0x85, 0x86, 0x87, 0x88, 9, 10, 11, 12}},
		{api.Vert{Rank: api.None, Level: 1<<32 - 1, Gone: 1<<32 - 1}, bytes.Repeat([]byte{0xff}, 12)},
	} {
		if got := octet.Vert(x.v); !bytes.Equal(got, x.want) {
			t.Errorf("Vert of %v: %x", x.v, got)
		}
		if got, e := octet.ReadVert(x.want); got != x.v || e != api.OK {
			t.Errorf("ReadVert of %x: %v, %d", x.want, got, e)
		}
	}
}

func TestLabelBytes(t *testing.T) { // P1.5
	for _, x := range []struct {
		v    uint32
		l    api.Label
		want []byte
	}{
		{0, api.Label{}, make([]byte, 20)},
		{5, api.Label{Hub: 6, Next: 7, Dist: 8}, []byte{5, 0, 0, 0, 6, 0, 0, 0, 7, 0, 0, 0, 8, 0, 0, 0, 0, 0, 0, 0}},
		{0x04030201, api.Label{Hub: 0x88878685, Next: 0x0c0b0a09, Dist: 0x94939291100f0e0d}, []byte{1, 2, 3, 4, 0x85, 0x86, 0x87, 0x88, 9, 10, 11, 12, 13, 14, 15, 16, 0x91, 0x92, 0x93, 0x94}},
		{1<<32 - 1, api.Label{Hub: 1<<32 - 1, Next: 1<<32 - 1, Dist: 1<<64 - 1}, bytes.Repeat([]byte{0xff}, 20)},
	} {
		if got := octet.Label(x.v, x.l); !bytes.Equal(got, x.want) {
			t.Errorf("Label of %d, %v: %x", x.v, x.l, got)
		}
		if v, l, e := octet.ReadLabel(x.want); v != x.v || l != x.l || e != api.OK {
			t.Errorf("ReadLabel of %x: %d, %v, %d", x.want, v, l, e)
		}
	}
}

func TestReadOtherLengths(t *testing.T) { // P1.3, P1.4, P1.5
	for n := range 64 {
		b, _ := inRoom(rising(n), 32) // the room behind the end does not count as bytes
		if n == 0 {
			b = nil
		}
		if x, e := octet.ReadEdge(b); n != 20 && (x != api.Edge{} || e != api.ErrForm) || n == 20 && e != api.OK {
			t.Errorf("ReadEdge of %d bytes: %v, %d", n, x, e)
		}
		if x, e := octet.ReadVert(b); n != 12 && (x != api.Vert{} || e != api.ErrForm) || n == 12 && e != api.OK {
			t.Errorf("ReadVert of %d bytes: %v, %d", n, x, e)
		}
		if v, x, e := octet.ReadLabel(b); n != 20 && (v != 0 || x != api.Label{} || e != api.ErrForm) || n == 20 && e != api.OK {
			t.Errorf("ReadLabel of %d bytes: %d, %v, %d", n, v, x, e)
		}
	}
}

// everyBit calls with each text of so many bytes that has one bit set, and each that has all but one.
func everyBit(n int, call func(b []byte)) {
	for _, fill := range []byte{0, 0xff} {
		for i := range 8 * n {
			b := bytes.Repeat([]byte{fill}, n)
			b[i/8] ^= 1 << (i % 8)
			call(b)
		}
	}
}

func TestWhatIsReadIsWrittenAgain(t *testing.T) { // What follows
	everyBit(20, func(b []byte) {
		if x, e := octet.ReadEdge(b); e != api.OK || !bytes.Equal(octet.Edge(x), b) {
			t.Errorf("ReadEdge of %x: %v, %d", b, x, e)
		}
		if v, x, e := octet.ReadLabel(b); e != api.OK || !bytes.Equal(octet.Label(v, x), b) {
			t.Errorf("ReadLabel of %x: %d, %v, %d", b, v, x, e)
		}
	})
	everyBit(12, func(b []byte) {
		if x, e := octet.ReadVert(b); e != api.OK || !bytes.Equal(octet.Vert(x), b) {
			t.Errorf("ReadVert of %x: %v, %d", b, x, e)
		}
	})
}

func TestReadChangesNothing(t *testing.T) { // R3
	for _, n := range []int{11, 12, 19, 20, 21} {
		b, whole := inRoom(rising(n), 8)
		was := bytes.Clone(whole)
		octet.ReadEdge(b)
		octet.ReadVert(b)
		octet.ReadLabel(b)
		if !bytes.Equal(whole, was) {
			t.Errorf("reading %d bytes: what is handed in is changed: %x", n, whole)
		}
	}
}

func TestWrittenIsNewMemory(t *testing.T) { // R3
	for _, write := range []func() []byte{
		func() []byte { return octet.Edge(api.Edge{Tail: 1, Head: 2, Weight: 3, Mid: 4}) },
		func() []byte { return octet.Vert(api.Vert{Rank: 1, Level: 2, Gone: 3}) },
		func() []byte { return octet.Label(1, api.Label{Hub: 2, Next: 3, Dist: 4}) },
	} {
		one := write()
		kept := bytes.Clone(one)
		turn(write())
		if !bytes.Equal(one, kept) || !bytes.Equal(write(), kept) {
			t.Errorf("two answers share memory: %x", one)
		}
	}
}
