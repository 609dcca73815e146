package input_test

import (
	"bytes"
	"cmp"
	"encoding/binary"
	"math"
	"math/big"
	"slices"
	"testing"

	"milepost/api"
	"milepost/input"
)

// The limits as the chapter tells them, not as package api does, and what stands in an edge that came out of a row.
const (
	maxN     uint32 = 2147483647
	maxM     uint32 = 16777216
	headSize        = 12
	rowSize         = 16
	none     uint32 = 4294967295
	top      uint32 = math.MaxUint32
	topW     uint64 = math.MaxUint64
	far      uint64 = 1 << 63
)

// told is an error and its place.
type told struct {
	e  api.Errno
	at int
}

// fine is what is told where nothing is wrong.
var fine = told{}

// headOf is a head.
func headOf(n, m uint32) []byte {
	b := []byte("MPG1")
	b = binary.LittleEndian.AppendUint32(b, n)
	return binary.LittleEndian.AppendUint32(b, m)
}

// rowOf is a row.
func rowOf(tail, head uint32, w uint64) []byte {
	var b []byte
	b = binary.LittleEndian.AppendUint32(b, tail)
	b = binary.LittleEndian.AppendUint32(b, head)
	return binary.LittleEndian.AppendUint64(b, w)
}

// whole is an input of n vertices and so many rows as are handed in.
func whole(n uint32, rows ...[]byte) []byte {
	return append(headOf(n, uint32(len(rows))), bytes.Join(rows, nil)...)
}

// edge is an edge as it comes out of a row.
func edge(tail, head uint32, w uint64) api.Edge {
	return api.Edge{Tail: tail, Head: head, Weight: w, Mid: none}
}

// by is an edge with a middle.
func by(tail, head uint32, w uint64, mid uint32) api.Edge {
	return api.Edge{Tail: tail, Head: head, Weight: w, Mid: mid}
}

// greatest is the greatest weight that fits n times, n being 1 or more.
func greatest(n uint32) uint64 { return (far - 1) / uint64(n) }

// fits says whether a weight so many times is below Far, reckoned without an end.
func fits(n uint32, w uint64) bool {
	x := new(big.Int).Mul(new(big.Int).SetUint64(uint64(n)), new(big.Int).SetUint64(w))
	return x.Cmp(new(big.Int).SetUint64(far)) < 0
}

// wantHead is what P5.1 says of bytes.
func wantHead(b []byte) (n, m uint32, is told) {
	for i := range 4 {
		if i == len(b) || b[i] != "MPG1"[i] {
			return 0, 0, told{8, i}
		}
	}
	if len(b) < headSize {
		return 0, 0, told{8, len(b)}
	}
	n, m = binary.LittleEndian.Uint32(b[4:]), binary.LittleEndian.Uint32(b[8:])
	if n > maxN {
		return 0, 0, told{9, 4}
	}
	if m > maxM {
		return 0, 0, told{9, 8}
	}
	if n == 0 && m > 0 {
		return 0, 0, told{8, 8}
	}
	return n, m, fine
}

// wantRow is what P5.2 says of bytes.
func wantRow(b []byte, n uint32) (api.Edge, told) {
	if len(b) < rowSize {
		return api.Edge{}, told{8, len(b)}
	}
	if len(b) > rowSize {
		return api.Edge{}, told{1, 0}
	}
	e := edge(binary.LittleEndian.Uint32(b), binary.LittleEndian.Uint32(b[4:]), binary.LittleEndian.Uint64(b[8:]))
	if e.Tail >= n {
		return api.Edge{}, told{13, 0}
	}
	if e.Head >= n {
		return api.Edge{}, told{13, 4}
	}
	if !fits(n, e.Weight) {
		return api.Edge{}, told{11, 8}
	}
	return e, fine
}

// wantCheck is what P5.3 says of bytes.
func wantCheck(b []byte) (uint32, []api.Edge, told) {
	n, m, is := wantHead(b)
	if is != fine {
		return 0, nil, is
	}
	var l []api.Edge
	for k := range int(m) {
		begin := headSize + rowSize*k
		if begin > len(b) {
			return 0, nil, told{8, len(b)}
		}
		e, is := wantRow(b[begin:min(len(b), begin+rowSize)], n)
		if is != fine {
			return 0, nil, told{is.e, begin + is.at}
		}
		l = append(l, e)
	}
	if end := headSize + rowSize*int(m); len(b) > end {
		return 0, nil, told{8, end}
	}
	return n, l, fine
}

// checkHead asks Head, of b and of b with room behind its end.
func checkHead(t *testing.T, b []byte, n, m uint32, is told) {
	t.Helper()
	for _, c := range [][]byte{slices.Clip(b), append(slices.Clone(b), "MPG1MPG1MPG1"...)[:len(b)]} {
		gotN, gotM, e, at := input.Head(c)
		if gotN != n || gotM != m || (told{e, at}) != is {
			t.Errorf("Head of % x: %d, %d, %d, %d; want %d, %d, %v", b, gotN, gotM, e, at, n, m, is)
		}
	}
}

// checkRow asks Row, of b and of b with room behind its end.
func checkRow(t *testing.T, b []byte, n uint32, want api.Edge, is told) {
	t.Helper()
	for _, c := range [][]byte{slices.Clip(b), append(slices.Clone(b), make([]byte, 40)...)[:len(b)]} {
		got, e, at := input.Row(c, n)
		if got != want || (told{e, at}) != is {
			t.Errorf("Row of % x, %d: %v, %d, %d; want %v, %v", b, n, got, e, at, want, is)
		}
	}
}

// checkAll asks Check.
func checkAll(t *testing.T, b []byte, n uint32, l []api.Edge, is told) {
	t.Helper()
	gotN, gotL, e, at := input.Check(b)
	if gotN != n || !slices.Equal(gotL, l) || (told{e, at}) != is {
		t.Errorf("Check of % x: %d, %v, %d, %d; want %d, %v, %v", b, gotN, gotL, e, at, n, l, is)
	}
}

// isRefused asks Check for bytes that are no input.
func isRefused(t *testing.T, b []byte, e api.Errno, at int) {
	t.Helper()
	checkAll(t, b, 0, nil, told{e, at})
}

// checkWrite asks Write.
func checkWrite(t *testing.T, n uint32, l []api.Edge, want []byte, is api.Errno) {
	t.Helper()
	got, e := input.Write(n, l)
	if !bytes.Equal(got, want) || e != is {
		t.Errorf("Write of %d, %v: % x, %d; want % x, %d", n, l, got, e, want, is)
	}
}

// checkReduce asks Reduce.
func checkReduce(t *testing.T, l []api.Edge, want ...api.Edge) {
	t.Helper()
	if got := input.Reduce(l); !slices.Equal(got, want) {
		t.Errorf("Reduce of %v: %v; want %v", l, got, want)
	}
}

func TestLimits(t *testing.T) { // Words
	if api.MaxN != int(maxN) || api.MaxM != int(maxM) || api.Head != headSize || api.Row != rowSize || api.None != int(none) {
		t.Error("package api has other limits than the chapter")
	}
}

// The chapter's examples.

func TestExamples(t *testing.T) { // P5.1, P5.2, P5.3
	good := whole(2, rowOf(0, 1, 5))
	checkAll(t, good, 2, []api.Edge{edge(0, 1, 5)}, fine)
	isRefused(t, good[:3], api.ErrForm, 3)
	isRefused(t, []byte("MPX1"), api.ErrForm, 2)
	isRefused(t, good[:11], api.ErrForm, 11)
	isRefused(t, good[:len(good)-1], api.ErrForm, 27)
	isRefused(t, append(slices.Clone(good), 0), api.ErrForm, 28)
	isRefused(t, whole(2, rowOf(2, 1, 5)), api.ErrVertex, 12)
	isRefused(t, whole(2, rowOf(0, 2, 5)), api.ErrVertex, 16)
	isRefused(t, whole(2, rowOf(0, 1, 1<<62)), api.ErrOver, 20)
	isRefused(t, append(headOf(1<<31, 1), rowOf(0, 1, 5)...), api.ErrMany, 4)
	isRefused(t, append(headOf(2, 1<<24+1), rowOf(0, 1, 5)...), api.ErrMany, 8)
	isRefused(t, append(headOf(0, 1), rowOf(0, 1, 5)...), api.ErrForm, 8)
	checkReduce(t, []api.Edge{edge(1, 1, 3), edge(2, 1, 9), edge(0, 1, 5), edge(0, 1, 4)}, edge(0, 1, 4), edge(2, 1, 9))
}

func TestExamplesOfTheWhole(t *testing.T) { // P5.3: DOC.md, its example 8
	two := whole(3, rowOf(0, 1, 1), rowOf(1, 2, 1))
	checkAll(t, two, 3, []api.Edge{edge(0, 1, 1), edge(1, 2, 1)}, fine)
	isRefused(t, append([]byte("MPGX"), two[4:]...), api.ErrForm, 3)
	isRefused(t, two[:40], api.ErrForm, 40)
}

// P5.1: Head.

func TestHeadOrdinary(t *testing.T) { // P5.1
	checkHead(t, []byte{'M', 'P', 'G', '1', 4, 3, 2, 1, 7, 6, 5, 0}, 0x01020304, 0x00050607, fine)
	checkHead(t, headOf(1, 1), 1, 1, fine)
	checkHead(t, headOf(1, 0), 1, 0, fine)
	checkHead(t, headOf(0, 0), 0, 0, fine)
	checkHead(t, headOf(256, 65536), 256, 65536, fine)
}

func TestHeadMoreMayFollow(t *testing.T) { // P5.1
	for more := range 40 {
		for _, c := range []byte{0, 'M', 255} {
			checkHead(t, append(headOf(3, 2), bytes.Repeat([]byte{c}, more)...), 3, 2, fine)
		}
	}
	checkHead(t, whole(2, rowOf(9, 9, topW)), 2, 1, fine) // rows are not looked at
}

func TestHeadNoBytes(t *testing.T) { // P5.1
	checkHead(t, nil, 0, 0, told{api.ErrForm, 0})
	checkHead(t, []byte{}, 0, 0, told{api.ErrForm, 0})
}

func TestHeadCut(t *testing.T) { // P5.1
	for _, b := range [][]byte{headOf(3, 2), headOf(0, 0), headOf(0, 5), headOf(top, top)} {
		for n := range headSize { // whatever is wrong in what there is of the numbers
			checkHead(t, b[:n], 0, 0, told{api.ErrForm, n})
		}
	}
}

func TestHeadMagic(t *testing.T) { // P5.1
	for i := range 4 {
		for x := range 256 {
			b := whole(3, rowOf(0, 1, 2))
			if b[i] == byte(x) {
				continue
			}
			b[i] = byte(x)
			for n := i + 1; n <= len(b); n++ { // ahead of its being cut
				checkHead(t, b[:n], 0, 0, told{api.ErrForm, i})
			}
			checkHead(t, b[:i], 0, 0, told{api.ErrForm, i}) // it begins right, but ends there
		}
	}
}

func TestHeadMagicFirst(t *testing.T) { // P5.1
	for i := range 4 {
		for j := i; j < 4; j++ { // of several bytes the first
			for _, b := range [][]byte{headOf(3, 2), headOf(top, 2), headOf(3, top), headOf(0, 2)} {
				b[i]++
				b[j] += 7
				checkHead(t, b, 0, 0, told{api.ErrForm, i})
			}
		}
	}
	checkHead(t, []byte("mpg1        "), 0, 0, told{api.ErrForm, 0})
	checkHead(t, []byte("PG1M        "), 0, 0, told{api.ErrForm, 0})
	checkHead(t, []byte("MPG2        "), 0, 0, told{api.ErrForm, 3})
}

func TestHeadManyVertices(t *testing.T) { // P5.1
	for _, m := range []uint32{0, 1, maxM, maxM + 1, top} { // ahead of too many rows
		for _, n := range []uint32{maxN + 1, maxN + 2, 3 << 30, top - 1, top} {
			checkHead(t, headOf(n, m), 0, 0, told{api.ErrMany, 4})
		}
	}
	for _, n := range []uint32{1, maxN - 1, maxN} {
		checkHead(t, headOf(n, 1), n, 1, fine)
	}
}

func TestHeadManyRows(t *testing.T) { // P5.1
	for _, n := range []uint32{0, 1, maxN} { // ahead of rows without vertices
		for _, m := range []uint32{maxM + 1, maxM + 2, 1 << 25, 1 << 31, top} {
			checkHead(t, headOf(n, m), 0, 0, told{api.ErrMany, 8})
		}
	}
	for _, m := range []uint32{0, 1, maxM - 1, maxM} {
		checkHead(t, headOf(1, m), 1, m, fine)
		checkHead(t, headOf(maxN, m), maxN, m, fine)
	}
}

func TestHeadNoVertices(t *testing.T) { // P5.1
	for _, m := range []uint32{1, 2, 256, 1 << 16, maxM - 1, maxM} {
		checkHead(t, headOf(0, m), 0, 0, told{api.ErrForm, 8})
	}
	checkHead(t, headOf(0, 0), 0, 0, fine)
}

func TestHeadAll(t *testing.T) { // P5.1: each fault together with each other one
	counts := []uint32{0, 1, 2, 255, 256, 65535, 65536, maxM - 1, maxM, maxM + 1, 1 << 25, maxN - 1, maxN, maxN + 1, top - 1, top}
	for _, n := range counts {
		for _, m := range counts {
			for wrong := range 5 { // 4: none
				b := headOf(n, m)
				if wrong < 4 {
					b[wrong] ^= 0x20
				}
				b = append(b, 1, 2, 3)
				for size := range len(b) + 1 {
					wantN, wantM, is := wantHead(b[:size])
					checkHead(t, b[:size], wantN, wantM, is)
				}
			}
		}
	}
}

// P5.2: Row.

func TestRowOrdinary(t *testing.T) { // P5.2
	checkRow(t, rowOf(0, 1, 5), 2, edge(0, 1, 5), fine)
	checkRow(t, rowOf(1, 0, 0), 2, edge(1, 0, 0), fine)
	b := []byte{4, 3, 2, 1, 8, 7, 6, 5, 16, 15, 14, 13, 0, 0, 0, 0}
	checkRow(t, b, maxN, edge(0x01020304, 0x05060708, 0x0d0e0f10), fine)
	b = []byte{0, 0, 0, 0, 0, 0, 0, 0, 16, 15, 14, 13, 12, 11, 10, 9}
	checkRow(t, b, 1, edge(0, 0, 0x090a0b0c0d0e0f10), fine)
}

func TestRowToItself(t *testing.T) { // P5.2
	for _, n := range []uint32{1, 2, 1000, maxN} {
		checkRow(t, rowOf(n-1, n-1, 1), n, edge(n-1, n-1, 1), fine)
		checkRow(t, rowOf(0, 0, 0), n, edge(0, 0, 0), fine)
	}
}

func TestRowShort(t *testing.T) { // P5.2
	for n := range rowSize { // ahead of all that is wrong in it
		checkRow(t, rowOf(0, 1, 5)[:n], 2, api.Edge{}, told{api.ErrForm, n})
		checkRow(t, rowOf(9, 9, topW)[:n], 2, api.Edge{}, told{api.ErrForm, n})
		checkRow(t, rowOf(0, 0, 0)[:n], 0, api.Edge{}, told{api.ErrForm, n})
	}
	checkRow(t, nil, 2, api.Edge{}, told{api.ErrForm, 0})
	checkRow(t, []byte{}, 0, api.Edge{}, told{api.ErrForm, 0})
}

func TestRowLong(t *testing.T) { // P5.2
	for more := 1; more < 40; more++ { // ahead of all that is wrong in it
		b := make([]byte, more)
		checkRow(t, append(rowOf(0, 1, 5), b...), 2, api.Edge{}, told{api.ErrArg, 0})
		checkRow(t, append(rowOf(9, 9, topW), b...), 2, api.Edge{}, told{api.ErrArg, 0})
		checkRow(t, append(rowOf(0, 0, 0), b...), 0, api.Edge{}, told{api.ErrArg, 0})
	}
	checkRow(t, whole(2, rowOf(0, 1, 5)), 9, api.Edge{}, told{api.ErrArg, 0})
}

func TestRowTail(t *testing.T) { // P5.2
	for _, n := range []uint32{0, 1, 2, 256, maxN, maxN + 1, top} {
		for _, tail := range []uint32{n, n + 1, top} {
			if tail < n {
				continue
			}
			for _, head := range []uint32{0, n, top} { // ahead of the head
				for _, w := range []uint64{0, 1 << 62, topW} { // and of the weight
					checkRow(t, rowOf(tail, head, w), n, api.Edge{}, told{api.ErrVertex, 0})
				}
			}
		}
		if n > 0 {
			checkRow(t, rowOf(n-1, 0, 1), n, edge(n-1, 0, 1), fine)
		}
	}
}

func TestRowHead(t *testing.T) { // P5.2
	for _, n := range []uint32{1, 2, 256, maxN, maxN + 1, top} {
		for _, head := range []uint32{n, n + 1, top} {
			if head < n {
				continue
			}
			for _, tail := range []uint32{0, n - 1} {
				for _, w := range []uint64{0, 1, greatest(n) + 1, topW} { // ahead of the weight
					checkRow(t, rowOf(tail, head, w), n, api.Edge{}, told{api.ErrVertex, 4})
				}
			}
		}
		checkRow(t, rowOf(0, n-1, 1), n, edge(0, n-1, 1), fine)
	}
}

func TestRowNoVertices(t *testing.T) { // P5.2
	for _, v := range []uint32{0, 1, top} {
		checkRow(t, rowOf(v, v, 0), 0, api.Edge{}, told{api.ErrVertex, 0})
		checkRow(t, rowOf(v, v, topW), 0, api.Edge{}, told{api.ErrVertex, 0})
	}
}

func TestRowWeight(t *testing.T) { // P5.2
	for _, n := range []uint32{1, 2, 3, 7, 641, 1 << 16, 1<<16 + 1, 1 << 30, maxN - 1, maxN, maxN + 1, top} {
		for _, w := range []uint64{0, 1, greatest(n) - 1, greatest(n)} {
			checkRow(t, rowOf(0, n-1, w), n, edge(0, n-1, w), fine)
		}
		for _, w := range []uint64{greatest(n) + 1, greatest(n) + 2, far, far + 1, topW - 1, topW} {
			checkRow(t, rowOf(n-1, 0, w), n, api.Edge{}, told{api.ErrOver, 8})
		}
	}
	checkRow(t, rowOf(0, 0, far-1), 1, edge(0, 0, far-1), fine)
	checkRow(t, rowOf(0, 0, far), 1, api.Edge{}, told{api.ErrOver, 8})
	checkRow(t, rowOf(0, 0, far), 2, api.Edge{}, told{api.ErrOver, 8})          // 2^64: 0, if it wrapped
	checkRow(t, rowOf(0, 0, topW/641+1), 641, api.Edge{}, told{api.ErrOver, 8}) // 2^64 + 640
}

func TestRowAll(t *testing.T) { // P5.2: each fault together with each other one
	for _, n := range []uint32{0, 1, 2, 3, 256, maxN, maxN + 1, top} {
		for _, tail := range []uint32{0, 1, n - 1, n, n + 1, top} {
			for _, head := range []uint32{0, 1, n - 1, n, n + 1, top} {
				for _, w := range []uint64{0, 1, 1 << 32, 1<<33 - 1, 1 << 33, 1 << 61, 1<<62 - 1, 1 << 62, far - 1, far, topW} {
					b := append(rowOf(tail, head, w), 0, 1)
					for _, size := range []int{0, 4, 8, 15, 16, 17, 18} {
						want, is := wantRow(b[:size], n)
						checkRow(t, b[:size], n, want, is)
					}
				}
			}
		}
	}
}

// P5.3: Check.

// three is an input of 5 vertices and three rows, and what it says.
func three() ([]byte, []api.Edge) {
	return whole(5, rowOf(0, 1, 5), rowOf(4, 4, 0), rowOf(3, 0, greatest(5))), []api.Edge{edge(0, 1, 5), edge(4, 4, 0), edge(3, 0, greatest(5))}
}

func TestCheckOrdinary(t *testing.T) { // P5.3
	b, l := three()
	checkAll(t, b, 5, l, fine)
	checkAll(t, headOf(0, 0), 0, nil, fine)
	checkAll(t, headOf(1, 0), 1, nil, fine)
	checkAll(t, headOf(maxN, 0), maxN, nil, fine)
	checkAll(t, whole(1, rowOf(0, 0, far-1)), 1, []api.Edge{edge(0, 0, far-1)}, fine)
	checkAll(t, whole(maxN, rowOf(maxN-1, 0, 1<<32)), maxN, []api.Edge{edge(maxN-1, 0, 1<<32)}, fine)
}

func TestCheckKeepsAllRowsInOrder(t *testing.T) { // P5.3: not reduced, not sorted
	b := whole(3, rowOf(2, 1, 9), rowOf(0, 1, 5), rowOf(0, 1, 4), rowOf(1, 1, 3), rowOf(0, 1, 5), rowOf(0, 0, 0))
	checkAll(t, b, 3, []api.Edge{edge(2, 1, 9), edge(0, 1, 5), edge(0, 1, 4), edge(1, 1, 3), edge(0, 1, 5), edge(0, 0, 0)}, fine)
}

func TestCheckManyRows(t *testing.T) { // P5.3
	for _, m := range []int{1, 2, 3, 100, 1000} {
		var rows [][]byte
		var l []api.Edge
		for k := range uint32(m) {
			rows = append(rows, rowOf(k%7, k*3%7, uint64(k)<<32|uint64(k)))
			l = append(l, edge(k%7, k*3%7, uint64(k)<<32|uint64(k)))
		}
		checkAll(t, whole(7, rows...), 7, l, fine)
	}
}

func TestCheckNoBytes(t *testing.T) { // P5.3
	isRefused(t, nil, api.ErrForm, 0)
	isRefused(t, []byte{}, api.ErrForm, 0)
}

func TestCheckHeadsFaults(t *testing.T) { // P5.3: ahead of all that is wrong in rows, and behind them
	for _, rows := range [][]byte{nil, rowOf(0, 1, 5), rowOf(9, 9, topW), rowOf(0, 1, 5)[:7], make([]byte, 33)} {
		isRefused(t, append([]byte("NPG1\x02\x00\x00\x00\x01\x00\x00\x00"), rows...), api.ErrForm, 0)
		isRefused(t, append([]byte("MPg1\x02\x00\x00\x00\x01\x00\x00\x00"), rows...), api.ErrForm, 2)
		isRefused(t, append(headOf(maxN+1, 1), rows...), api.ErrMany, 4)
		isRefused(t, append(headOf(top, top), rows...), api.ErrMany, 4)
		isRefused(t, append(headOf(2, maxM+1), rows...), api.ErrMany, 8)
		isRefused(t, append(headOf(0, top), rows...), api.ErrMany, 8)
		isRefused(t, append(headOf(0, 1), rows...), api.ErrForm, 8)
		isRefused(t, append(headOf(0, maxM), rows...), api.ErrForm, 8)
	}
}

func TestCheckRowsFaults(t *testing.T) { // P5.3: each at its own place in its own row
	for _, x := range []struct {
		row []byte
		is  told
	}{
		{rowOf(5, 1, 5), told{api.ErrVertex, 0}}, {rowOf(top, top, topW), told{api.ErrVertex, 0}}, {rowOf(0, 5, 5), told{api.ErrVertex, 4}}, {rowOf(0, top, topW), told{api.ErrVertex, 4}}, {rowOf(0, 1, greatest(5)+1), told{api.ErrOver, 8}}, {rowOf(4, 4, topW), told{api.ErrOver, 8}},
	} {
		for m := 1; m <= 4; m++ {
			for k := range m {
				rows := slices.Repeat([][]byte{rowOf(0, 1, 5)}, m)
				rows[k] = x.row
				b := whole(5, rows...)
				isRefused(t, b, x.is.e, 12+16*k+x.is.at)
				isRefused(t, append(b, 1, 2), x.is.e, 12+16*k+x.is.at) // ahead of bytes behind the rows
				rows[m-1] = x.row
				isRefused(t, whole(5, rows...), x.is.e, 12+16*k+x.is.at) // of several the first
			}
		}
	}
}

func TestCheckFirstRowFirst(t *testing.T) { // P5.3: whatever the kinds of the faults
	isRefused(t, whole(5, rowOf(0, 1, topW), rowOf(5, 1, 5)), api.ErrOver, 20)
	isRefused(t, whole(5, rowOf(0, 5, 1), rowOf(5, 1, 5)), api.ErrVertex, 16)
	isRefused(t, whole(5, rowOf(0, 1, topW), rowOf(0, 1, 5))[:30], api.ErrOver, 20) // ahead of its being cut in a later row
	isRefused(t, append(headOf(5, 3), rowOf(5, 1, 5)...), api.ErrVertex, 12)
	isRefused(t, whole(5, rowOf(0, 1, 5), rowOf(5, 1, 5))[:43], api.ErrForm, 43) // a row that is cut is not looked at
	isRefused(t, whole(5, rowOf(5, 5, topW))[:27], api.ErrForm, 27)
}

func TestCheckVerticesOfTheHead(t *testing.T) { // P5.3: rows are held against this n
	for n := uint32(1); n < 12; n++ {
		b := whole(n, rowOf(4, 6, greatest(8)))
		switch {
		case n <= 4:
			isRefused(t, b, api.ErrVertex, 12)
		case n <= 6:
			isRefused(t, b, api.ErrVertex, 16)
		case n <= 8:
			checkAll(t, b, n, []api.Edge{edge(4, 6, greatest(8))}, fine)
		default:
			isRefused(t, b, api.ErrOver, 20)
		}
	}
}

func TestCheckCut(t *testing.T) { // P5.3, What follows
	b, _ := three()
	for _, b := range [][]byte{b, whole(2, rowOf(0, 1, 5)), headOf(0, 0), headOf(9, 0), whole(1, slices.Repeat([][]byte{rowOf(0, 0, 1)}, 20)...)} {
		for size := range len(b) {
			isRefused(t, b[:size], api.ErrForm, size)
			isRefused(t, slices.Clone(b[:size]), api.ErrForm, size)
		}
	}
}

func TestCheckMoreRowsSaid(t *testing.T) { // P5.3
	b, _ := three()
	for _, m := range []uint32{4, 5, 256, 1 << 16, maxM - 1, maxM} {
		isRefused(t, append(headOf(5, m), b[12:]...), api.ErrForm, len(b))
		isRefused(t, headOf(5, m), api.ErrForm, 12)
	}
}

func TestCheckBehindTheRows(t *testing.T) { // P5.3
	b, _ := three()
	for _, b := range [][]byte{b, headOf(0, 0), headOf(1, 0), whole(5, rowOf(0, 1, 5))} {
		for more := 1; more < 40; more++ {
			isRefused(t, append(slices.Clone(b), make([]byte, more)...), api.ErrForm, len(b))
		}
		isRefused(t, append(slices.Clone(b), rowOf(0, 0, 1)...), api.ErrForm, len(b)) // a row that would be right
		isRefused(t, append(slices.Clone(b), rowOf(9, 9, topW)...), api.ErrForm, len(b))
		isRefused(t, append(slices.Clone(b), b...), api.ErrForm, len(b))
	}
}

func TestCheckRoomBehindTheEnd(t *testing.T) { // P5.3: what stands there is not of the input
	b, l := three()
	long := append(slices.Clone(b), b...)
	checkAll(t, long[:len(b)], 5, l, fine)
	for size := range len(b) {
		isRefused(t, long[:size], api.ErrForm, size)
	}
}

func TestCheckAll(t *testing.T) { // P5.3: each byte otherwise, and cut and followed by others too
	b, _ := three()
	b = append(b, 0)
	for i := range b {
		for x := range 256 {
			c := slices.Clone(b)
			c[i] = byte(x)
			for _, size := range []int{len(c), len(c) - 1, len(c) - 2, 44, 29, 28, 12, 11} {
				n, l, is := wantCheck(c[:size])
				checkAll(t, c[:size], n, l, is)
			}
		}
	}
}

// P5.4: Write.

func TestWriteOrdinary(t *testing.T) { // P5.4
	b, l := three()
	checkWrite(t, 5, l, b, api.OK)
	checkWrite(t, 2, []api.Edge{edge(0, 1, 5)}, whole(2, rowOf(0, 1, 5)), api.OK)
	checkWrite(t, 0x01020304, []api.Edge{edge(0x00030201, 0x00060504, 0x0f0e0d0c)}, []byte{
		'M', 'P', 'G', '1', 4, 3, 2, 1, 1, 0, 0, 0,
		1, 2, 3, 0, 4, 5, 6, 0, 12, 13, 14, 15, 0, 0, 0, 0,
	}, api.OK)
	l = []api.Edge{edge(2, 1, 9), edge(0, 1, 5), edge(0, 1, 4), edge(1, 1, 3), edge(0, 1, 5)} // as they are
	checkWrite(t, 3, l, whole(3, rowOf(2, 1, 9), rowOf(0, 1, 5), rowOf(0, 1, 4), rowOf(1, 1, 3), rowOf(0, 1, 5)), api.OK)
}

func TestWriteNoEdges(t *testing.T) { // P5.4
	for _, n := range []uint32{0, 1, 2, 256, maxN - 1, maxN} {
		checkWrite(t, n, nil, headOf(n, 0), api.OK)
		checkWrite(t, n, []api.Edge{}, headOf(n, 0), api.OK)
	}
}

func TestWriteMiddles(t *testing.T) { // P5.4
	for _, mid := range []uint32{0, 1, 2, 256, maxN, maxN + 1, none - 1, none} {
		checkWrite(t, 2, []api.Edge{by(0, 1, 5, mid)}, whole(2, rowOf(0, 1, 5)), api.OK)
		checkWrite(t, 2, []api.Edge{by(0, 1, 5, none), by(1, 0, 6, mid), by(1, 1, 7, 1)}, whole(2, rowOf(0, 1, 5), rowOf(1, 0, 6), rowOf(1, 1, 7)), api.OK)
		checkWrite(t, 2, []api.Edge{by(0, 2, 5, mid)}, nil, api.ErrArg)
	}
}

func TestWriteManyVertices(t *testing.T) { // P5.4
	for _, n := range []uint32{maxN + 1, maxN + 2, top} {
		checkWrite(t, n, nil, nil, api.ErrArg)
		checkWrite(t, n, []api.Edge{edge(0, 1, 5)}, nil, api.ErrArg)
	}
	checkWrite(t, maxN, []api.Edge{edge(maxN-1, 0, 1<<32)}, whole(maxN, rowOf(maxN-1, 0, 1<<32)), api.OK)
}

func TestWriteNoVertices(t *testing.T) { // P5.4
	for _, l := range [][]api.Edge{{{}}, {edge(0, 0, 0)}, {edge(0, 1, 5), edge(1, 0, 5)}} {
		checkWrite(t, 0, l, nil, api.ErrArg)
	}
}

func TestWriteRefusedRows(t *testing.T) { // P5.4
	for _, n := range []uint32{1, 2, 256, maxN} {
		right := edge(n-1, 0, greatest(n))
		for _, wrong := range []api.Edge{edge(n, 0, 0), edge(top, 0, 0), edge(0, n, 0), edge(0, top, 0), edge(0, 0, greatest(n)+1), edge(0, 0, far), edge(0, 0, topW), by(0, 0, topW, 0)} {
			for m := 1; m <= 4; m++ {
				for k := range m {
					l := slices.Repeat([]api.Edge{right}, m)
					checkWrite(t, n, l, whole(n, slices.Repeat([][]byte{rowOf(n-1, 0, greatest(n))}, m)...), api.OK)
					l[k] = wrong
					checkWrite(t, n, l, nil, api.ErrArg)
				}
			}
		}
	}
}

func TestAsManyEdgesAsThereMayBe(t *testing.T) { // P5.3, P5.4
	l := make([]api.Edge, maxM+1)
	l[maxM-1] = edge(0, 0, 7)
	if b, e := input.Write(1, l); len(b) != 0 || e != api.ErrArg {
		t.Errorf("Write of %d edges: %d bytes, %d", len(l), len(b), e)
	}
	b, e := input.Write(1, l[:maxM])
	if len(b) != headSize+rowSize*int(maxM) || e != api.OK {
		t.Fatalf("Write of %d edges: %d bytes, %d", maxM, len(b), e)
	}
	l = nil // there is to be room for what Check answers
	if !bytes.HasPrefix(b, headOf(1, maxM)) || !bytes.HasSuffix(b, rowOf(0, 0, 7)) {
		t.Errorf("Write of %d edges: % x .. % x", maxM, b[:12], b[len(b)-16:])
	}
	n, got, e, at := input.Check(b)
	if n != 1 || len(got) != int(maxM) || e != api.OK || at != 0 {
		t.Fatalf("Check of %d rows: %d, %d edges, %d, %d", maxM, n, len(got), e, at)
	}
	if got[0] != edge(0, 0, 0) || got[maxM-1] != edge(0, 0, 7) {
		t.Errorf("Check of %d rows: the first is %v, the last %v", maxM, got[0], got[maxM-1])
	}
}

// P5.5: Reduce.

// wantReduce is what P5.5 says of edges, each held against each other one.
func wantReduce(l []api.Edge) []api.Edge {
	var want []api.Edge
	for _, e := range l {
		if e.Tail == e.Head || slices.Contains(want, e) {
			continue
		}
		if !slices.ContainsFunc(l, func(x api.Edge) bool {
			return x.Tail == e.Tail && x.Head == e.Head && (x.Weight < e.Weight || x.Weight == e.Weight && x.Mid+1 < e.Mid+1)
		}) {
			want = append(want, e)
		}
	}
	slices.SortFunc(want, func(a, b api.Edge) int {
		return cmp.Or(cmp.Compare(a.Tail, b.Tail), cmp.Compare(a.Head, b.Head))
	})
	return want
}

// everyOrder calls with l in each order that there is.
func everyOrder(l []api.Edge, call func(l []api.Edge)) {
	var from func(i int)
	from = func(i int) {
		if i == len(l) {
			call(l)
			return
		}
		for j := i; j < len(l); j++ {
			l[i], l[j] = l[j], l[i]
			from(i + 1)
			l[i], l[j] = l[j], l[i]
		}
	}
	from(0)
}

// checkOrders asks Reduce for l in each order that there is.
func checkOrders(t *testing.T, l []api.Edge, want ...api.Edge) {
	t.Helper()
	everyOrder(slices.Clone(l), func(l []api.Edge) {
		t.Helper()
		checkReduce(t, l, want...)
	})
}

// mixed are n edges of 5 vertices in no order: several of one pair, several to the vertex itself, some that say the same.
func mixed(n int) []api.Edge {
	var l []api.Edge
	x := uint64(n) + 1
	for range n {
		x = x*6364136223846793005 + 1442695040888963407
		l = append(l, by(uint32(x>>33%5), uint32(x>>40%5), x>>47%3, uint32(x>>54%4)-1))
	}
	return l
}

func TestReduceOfNone(t *testing.T) { // P5.5
	checkReduce(t, nil)
	checkReduce(t, []api.Edge{})
	checkReduce(t, []api.Edge{edge(3, 3, 0), edge(0, 0, 0), edge(none, none, 1), by(3, 3, 1, 2)})
}

func TestReduceToItself(t *testing.T) { // P5.5
	for _, v := range []uint32{0, 1, 255, maxN - 1, 1 << 31, none} {
		checkReduce(t, []api.Edge{edge(v, v, 0)})
		checkOrders(t, []api.Edge{edge(v, v, 0), edge(7, 9, 3), by(v, v, 0, 1), edge(9, 7, 4)}, edge(7, 9, 3), edge(9, 7, 4))
	}
	checkReduce(t, []api.Edge{edge(0, 256, 1), edge(256, 0, 1), edge(1, 1<<31+1, 1)}, edge(0, 256, 1), edge(1, 1<<31+1, 1), edge(256, 0, 1)) // ends that only seem the same
}

func TestReduceLeastWeight(t *testing.T) { // P5.5
	checkOrders(t, []api.Edge{edge(0, 1, 5), edge(0, 1, 4), edge(0, 1, 6), edge(0, 1, 4)}, edge(0, 1, 4))
	checkOrders(t, []api.Edge{edge(0, 1, 0), edge(0, 1, 1), edge(0, 1, topW)}, edge(0, 1, 0))
	checkOrders(t, []api.Edge{edge(0, 1, far), edge(0, 1, far-1), edge(0, 1, topW)}, edge(0, 1, far-1))
	checkOrders(t, []api.Edge{edge(0, 1, topW), edge(0, 1, topW-1), edge(0, 1, 1<<32)}, edge(0, 1, 1<<32))
	checkOrders(t, []api.Edge{edge(0, 1, 5), by(0, 1, 4, 9), by(0, 1, 5, 0)}, by(0, 1, 4, 9)) // ahead of the middles
}

func TestReduceLeastMiddle(t *testing.T) { // P5.5
	checkOrders(t, []api.Edge{by(0, 1, 5, 0), by(0, 1, 5, none), by(0, 1, 5, 7)}, by(0, 1, 5, none))
	checkOrders(t, []api.Edge{by(0, 1, 5, 2), by(0, 1, 5, 1), by(0, 1, 5, none-1), by(0, 1, 5, 1<<31)}, by(0, 1, 5, 1))
	checkOrders(t, []api.Edge{by(0, 1, 5, 0), by(0, 1, 5, 1), by(0, 1, 6, none)}, by(0, 1, 5, 0))
	checkOrders(t, []api.Edge{by(0, 1, 5, none-1), by(0, 1, 5, 1<<31-1), by(0, 1, 5, 1<<31)}, by(0, 1, 5, 1<<31-1))
}

func TestReduceSame(t *testing.T) { // P5.5: several that say the same are one
	checkReduce(t, slices.Repeat([]api.Edge{by(4, 2, 5, 3)}, 9), by(4, 2, 5, 3))
	checkOrders(t, []api.Edge{edge(0, 1, 4), edge(0, 1, 4), edge(0, 1, 5), edge(1, 0, 4), edge(1, 0, 4)}, edge(0, 1, 4), edge(1, 0, 4))
	checkOrders(t, []api.Edge{{}, {}, by(0, 1, 0, 0), by(0, 1, 0, 0)}, by(0, 1, 0, 0))
}

func TestReducePairs(t *testing.T) { // P5.5: each for itself
	checkOrders(t, []api.Edge{edge(0, 1, 9), edge(1, 0, 1), edge(0, 2, 5), edge(2, 1, 4), edge(0, 2, 6), edge(0, 1, 8)}, edge(0, 1, 8), edge(0, 2, 5), edge(1, 0, 1), edge(2, 1, 4))
	checkReduce(t, []api.Edge{edge(1, 12, 1), edge(11, 2, 1), edge(1, 2, 1), edge(2, 1, 1), edge(257, 2, 1), edge(1, 258, 1)},
		edge(1, 2, 1), edge(1, 12, 1), edge(1, 258, 1), edge(2, 1, 1), edge(11, 2, 1), edge(257, 2, 1))
}

func TestReduceRises(t *testing.T) { // P5.5
	ends := []uint32{0, 1, 2, 255, 256, 65535, 65536, 1<<31 - 1, 1 << 31, none - 1, none}
	var want []api.Edge
	for _, tail := range ends {
		for _, head := range ends {
			if tail != head {
				want = append(want, by(tail, head, uint64(none-tail)+uint64(none-head), head))
			}
		}
	}
	checkReduce(t, want, want...)
	l := slices.Clone(want)
	slices.Reverse(l)
	checkReduce(t, l, want...)
	for _, step := range []int{3, 7, 13, 37} { // so many places on, again and again
		for i := range l {
			l[i] = want[i*step%len(want)]
		}
		checkReduce(t, l, want...)
	}
	checkOrders(t, []api.Edge{edge(2, 0, 1), edge(0, 2, 2), edge(1, 2, 3), edge(0, 1, 4), edge(2, 1, 5)}, edge(0, 1, 4), edge(0, 2, 2), edge(1, 2, 3), edge(2, 0, 1), edge(2, 1, 5))
}

func TestReduceAll(t *testing.T) { // P5.5
	for n := range 300 {
		l := mixed(n)
		checkReduce(t, l, wantReduce(l)...)
	}
}

func TestReduceManyEdges(t *testing.T) { // P5.5
	var l, want []api.Edge
	for v := range uint32(20000) {
		l = append(l, edge(v, v+1, 3), edge(v, v, 0), edge(v, v+1, 2), by(v, v+1, 2, 0))
		want = append(want, edge(v, v+1, 2))
	}
	slices.Reverse(l)
	checkReduce(t, l, want...)
}

// What follows.

func TestWhatIsWrittenIsTaken(t *testing.T) { // What follows
	for _, n := range []uint32{0, 1, 2, 5, 1000, maxN} {
		for m := range 30 {
			var l []api.Edge
			for _, e := range mixed(m) {
				if n > 0 {
					l = append(l, by(e.Tail%n, (e.Head*77)%n, greatest(n)-e.Weight, e.Mid))
				}
			}
			b, e := input.Write(n, l)
			if e != api.OK {
				t.Fatalf("Write of %d, %v: %d", n, l, e)
			}
			for i := range l {
				l[i].Mid = none
			}
			checkAll(t, b, n, l, fine)
		}
	}
}

func TestWhatIsTakenIsWrittenAgain(t *testing.T) { // What follows
	b, _ := three()
	taken := 0
	for i := range b {
		for x := range 256 {
			c := slices.Clone(b)
			c[i] = byte(x)
			n, l, e, _ := input.Check(c)
			if e != api.OK {
				continue
			}
			taken++
			checkWrite(t, n, l, c, api.OK)
		}
	}
	if taken < 1000 {
		t.Errorf("%d inputs were taken", taken)
	}
	for _, n := range []uint32{0, 1, maxN} {
		n, l, _, _ := input.Check(headOf(n, 0))
		checkWrite(t, n, l, headOf(n, 0), api.OK)
	}
}

func TestRefusedByWriteAndByCheck(t *testing.T) { // What follows: both hold the same edges to be wrong
	for _, n := range []uint32{1, 2, 3, maxN} {
		for _, tail := range []uint32{0, n - 1, n, top} {
			for _, head := range []uint32{0, n - 1, n, top} {
				for _, w := range []uint64{0, greatest(n), greatest(n) + 1, topW} {
					_, isWritten := input.Write(n, []api.Edge{edge(tail, head, w)})
					_, _, isTaken, _ := input.Check(whole(n, rowOf(tail, head, w)))
					if (isWritten == api.OK) != (isTaken == api.OK) {
						t.Errorf("%d vertices, %d to %d of %d: Write says %d, Check %d", n, tail, head, w, isWritten, isTaken)
					}
				}
			}
		}
	}
}

func TestCutIsRefusedAtItsEnd(t *testing.T) { // What follows
	for m := range 8 {
		b, _ := input.Write(5, mixed(m))
		for size := range len(b) {
			isRefused(t, b[:size], api.ErrForm, size)
		}
	}
}

func TestReduceOfWhatWasReduced(t *testing.T) { // What follows
	for n := range 120 {
		l := input.Reduce(mixed(n))
		checkReduce(t, l, l...)
		slices.Reverse(l)
		checkReduce(t, l, wantReduce(l)...)
	}
}

func TestReduceWhateverTheOrder(t *testing.T) { // What follows
	for n := range 8 {
		l := mixed(n)
		checkOrders(t, l, wantReduce(l)...)
	}
	for n := range 120 {
		l := mixed(n)
		want := input.Reduce(l)
		slices.Reverse(l)
		checkReduce(t, l, want...)
		for i := range l { // each in turn ahead of all others
			checkReduce(t, append(slices.Clone(l[i:]), l[:i]...), want...)
		}
	}
}

// The rules that hold everywhere.

func TestBytesStayAsTheyAre(t *testing.T) { // R3
	good, _ := three()
	for _, size := range []int{0, 3, 11, 12, 27, 28, len(good)} {
		room := bytes.Repeat([]byte{0xa5}, 100)
		b := append(room[:0], good[:size]...)
		is := slices.Clone(room)
		input.Head(b)
		input.Check(b)
		input.Row(b[min(12, size):min(28, size)], 5)
		input.Row(b, 5)
		if !bytes.Equal(room, is) {
			t.Errorf("%d bytes, and the room behind them: % x; want % x", size, room, is)
		}
	}
}

func TestEdgesStayAsTheyAre(t *testing.T) { // R3
	for n := range 40 {
		room := slices.Repeat([]api.Edge{by(9, 8, 7, 6)}, 2*n+5)
		l := append(room[:0], mixed(n)...)
		is := slices.Clone(room)
		input.Reduce(l)
		input.Write(5, l)
		input.Write(2, l)
		slices.SortFunc(l, func(a, b api.Edge) int { return cmp.Compare(b.Head, a.Head) })
		copy(is, l)
		input.Reduce(l)
		input.Reduce(input.Reduce(l))
		if !slices.Equal(room, is) {
			t.Errorf("%d edges, and the room behind them: %v; want %v", n, room, is)
		}
	}
}

func TestAnswersAreNewMemory(t *testing.T) { // R3
	b, want := three()
	_, one, _, _ := input.Check(b)
	_, two, _, _ := input.Check(b)
	clear(one)
	clear(b)
	if !slices.Equal(two, want) {
		t.Errorf("Check: %v behind a change of what was handed in, and of another answer", two)
	}
	reduced := input.Reduce(want)
	again := input.Reduce(reduced)
	other := input.Reduce(reduced)
	is := slices.Clone(reduced)
	clear(reduced)
	clear(again)
	if !slices.Equal(other, is) {
		t.Errorf("Reduce: %v behind a change of what was handed in, and of another answer", other)
	}
	x, _ := input.Write(5, want)
	y, _ := input.Write(5, want)
	clear(x)
	clear(want)
	if z, _ := three(); !bytes.Equal(y, z) {
		t.Errorf("Write: % x behind a change of what was handed in, and of another answer", y)
	}
}

func TestNothingIsKept(t *testing.T) { // R5
	b, l := three()
	for range 3 {
		isRefused(t, b[:20], api.ErrForm, 20)
		checkAll(t, b, 5, l, fine)
		checkHead(t, b, 5, 3, fine)
		checkHead(t, headOf(0, 1), 0, 0, told{api.ErrForm, 8})
		checkRow(t, rowOf(2, 0, 1), 2, api.Edge{}, told{api.ErrVertex, 0})
		checkRow(t, rowOf(2, 0, 1), 3, edge(2, 0, 1), fine)
		checkWrite(t, 4, l, nil, api.ErrArg)
		checkWrite(t, 5, l, b, api.OK)
		checkReduce(t, l, edge(0, 1, 5), edge(3, 0, greatest(5)))
		checkReduce(t, l[:1], edge(0, 1, 5))
	}
}
