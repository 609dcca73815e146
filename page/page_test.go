package page_test

import (
	"bytes"
	"encoding/binary"
	"hash/crc32"
	"math"
	"slices"
	"strings"
	"testing"

	"milepost/api"
	"milepost/page"
)

// What a page has, as the chapter says it: a number here is not one of the program's.
const (
	pageSize = 256
	most     = 240 // bytes in a page
	roomAt   = 12
	sumAt    = 252
)

// numbers are tags and numbers of pages: the least, the greatest, and such as tell their bytes apart.
var numbers = []uint32{0, 1, 2, 0x80, 0xff, 0x100, 0x10000, 0x01020304, 0x7fffffff, 0x80000000, 0xfffefdfc, math.MaxUint32}

// sumOf is the sum of bytes, as the library has it.
func sumOf(b []byte) uint32 { return crc32.Checksum(b, crc32.MakeTable(crc32.Castagnoli)) }

// summed are bytes with the sum behind them that fits.
func summed(b []byte) []byte { return binary.LittleEndian.AppendUint32(bytes.Clone(b), sumOf(b)) }

// raw is a page that says these things, whether Make makes such a one or not; its sum fits.
func raw(tag, number uint32, size, zero int, room []byte) []byte {
	b := binary.LittleEndian.AppendUint32(nil, tag)
	b = binary.LittleEndian.AppendUint32(b, number)
	b = binary.LittleEndian.AppendUint16(b, uint16(size))
	b = binary.LittleEndian.AppendUint16(b, uint16(zero))
	b = append(b, room...)
	return summed(append(b, make([]byte, sumAt-len(b))...))
}

// wantPage is the page that P7.1 says.
func wantPage(tag, number uint32, b []byte) []byte { return raw(tag, number, len(b), 0, b) }

// rows are n bytes without a 0, none like the one ahead of it.
func rows(n int) []byte {
	b := make([]byte, n)
	for i := range b {
		b[i] = byte(1 + (i*89)%255)
	}
	return b
}

// texts are what pages are made of: of every number of bytes that there may be, and such as are 0 or end in bytes that are.
func texts() [][]byte {
	ts := [][]byte{nil, {}, {0}, {7}, {7, 0}, {0, 7}, make([]byte, most-1), make([]byte, most), bytes.Repeat([]byte{0xff}, most)}
	for n := range most + 1 {
		ts = append(ts, rows(n))
	}
	return append(ts, append(rows(most-9), make([]byte, 9)...))
}

// few are some of them.
func few() [][]byte {
	return [][]byte{nil, {7}, {0}, rows(100), append(rows(50), make([]byte, 50)...), rows(most - 1), rows(most), make([]byte, most)}
}

// made is a page that is made; it must be.
func made(t *testing.T, tag, number uint32, b []byte) []byte {
	t.Helper()
	p, e := page.Make(tag, number, b)
	if len(p) != pageSize || e != api.OK {
		t.Fatalf("Make(%x, %x) of %d bytes: %d bytes, %d", tag, number, len(b), len(p), e)
	}
	return p
}

// isOpened holds what a page is opened to against what it must be.
func isOpened(t *testing.T, p []byte, tag, number uint32, want []byte) {
	t.Helper()
	if b, e := page.Open(p, tag, number); !bytes.Equal(b, want) || e != api.OK {
		t.Errorf("Open by %x and %x: % x, %d; want % x", tag, number, b, e, want)
	}
}

// isRotten says that a page must not be opened, and nothing be told of it.
func isRotten(t *testing.T, what string, p []byte, tag, number uint32) {
	t.Helper()
	if b, e := page.Open(p, tag, number); len(b) != 0 || e != api.ErrRot {
		t.Errorf("%s: Open by %x and %x: % x, %d; want ErrRot", what, tag, number, b, e)
	}
}

// inRoom is b with room behind its end, and all of that memory.
func inRoom(b []byte, room int) (part, whole []byte) {
	whole = append(bytes.Clone(b), bytes.Repeat([]byte{0xee}, room)...)
	return whole[:len(b)], whole
}

// spoil turns all bits of b, its room too.
func spoil(b []byte) {
	b = b[:cap(b)]
	for i := range b {
		b[i] ^= 0xff
	}
}

func TestLimits(t *testing.T) { // Words
	if api.Page != pageSize || api.Room != most || api.ErrRot != 7 || api.ErrMany != 9 {
		t.Errorf("Page %d, Room %d, ErrRot %d, ErrMany %d", api.Page, api.Room, api.ErrRot, api.ErrMany)
	}
}

func TestExamples(t *testing.T) { // P7.1, P7.2, P7.3
	p, e := page.Make(1, 2, []byte{7})
	want := append([]byte{1, 0, 0, 0, 2, 0, 0, 0, 1, 0, 0, 0, 7}, make([]byte, 239)...)
	if !bytes.Equal(p, summed(want)) || e != api.OK {
		t.Errorf("Make(1, 2, 07): % x, %d", p, e)
	}
	isOpened(t, p, 1, 2, []byte{7})
	isRotten(t, "another number", p, 1, 3)
	if p, e := page.Make(1, 2, make([]byte, 241)); len(p) != 0 || e != api.ErrMany {
		t.Errorf("Make of 241 bytes: %d bytes, %d", len(p), e)
	}
	isRotten(t, "255 bytes", make([]byte, 255), 1, 2)
	if x := page.Tag("123456789"); x != 0xe3069283 {
		t.Errorf("Tag of 123456789: %x", x)
	}
}

func TestMakeTexts(t *testing.T) { // P7.1
	for _, b := range texts() {
		if p := made(t, 0x04030201, 0x14131211, b); !bytes.Equal(p, wantPage(0x04030201, 0x14131211, b)) {
			t.Errorf("Make of %d bytes: % x", len(b), p)
		}
	}
}

func TestMakeAtTheLimit(t *testing.T) { // P7.1
	for _, n := range []int{0, 1, 239, 240} {
		p := made(t, 1, 2, rows(n))
		if size := binary.LittleEndian.Uint16(p[8:]); int(size) != n {
			t.Errorf("Make of %d bytes: the size %d", n, size)
		}
		if !bytes.Equal(p[roomAt:roomAt+n], rows(n)) || !bytes.Equal(p[roomAt+n:sumAt], make([]byte, most-n)) {
			t.Errorf("Make of %d bytes: % x", n, p)
		}
	}
}

func TestMakeOfNil(t *testing.T) { // P7.1
	if p := made(t, 1, 2, nil); !bytes.Equal(p, summed(append([]byte{1, 0, 0, 0, 2}, make([]byte, sumAt-5)...))) {
		t.Errorf("Make of nil: % x", p)
	}
}

func TestMakeNumbers(t *testing.T) { // P7.1
	for _, tag := range numbers {
		for _, number := range numbers {
			if p := made(t, tag, number, []byte{7, 8}); !bytes.Equal(p, wantPage(tag, number, []byte{7, 8})) {
				t.Errorf("Make(%x, %x): % x", tag, number, p)
			}
		}
	}
}

func TestMakeOfTooMany(t *testing.T) { // P7.1
	for _, n := range []int{241, 242, 252, 255, 256, 257, 480, 512, 1 << 16, 1<<16 + 1, 1<<16 + 240, 1 << 17} {
		for _, b := range [][]byte{make([]byte, n), rows(n)} {
			if p, e := page.Make(1, 2, b); len(p) != 0 || e != api.ErrMany {
				t.Errorf("Make of %d bytes: %d bytes, %d", n, len(p), e)
			}
		}
	}
}

func TestMakeLeavesTheRoomOut(t *testing.T) { // P7.1, R3: what stands behind the end of b is not of it
	for n := range most + 1 {
		b, _ := inRoom(rows(n), 300)
		if p := made(t, 1, 2, b); !bytes.Equal(p, wantPage(1, 2, rows(n))) {
			t.Errorf("Make of %d bytes with room behind them: % x", n, p)
		}
	}
}

func TestWhatWasMadeIsOpened(t *testing.T) { // P7.2, What follows
	for _, b := range texts() {
		isOpened(t, made(t, 1, 2, b), 1, 2, b)
	}
	for _, tag := range numbers {
		for _, number := range numbers {
			for _, b := range few() {
				isOpened(t, made(t, tag, number, b), tag, number, b)
			}
		}
	}
}

func TestWhatIsWrittenByTheWordsIsOpened(t *testing.T) { // P7.2
	for _, b := range texts() {
		isOpened(t, wantPage(5, 6, b), 5, 6, b)
	}
}

func TestOpenOfNoughts(t *testing.T) { // P7.2: Make(0, 0, nil) is not a page without any bit
	isRotten(t, "256 bytes 0", make([]byte, pageSize), 0, 0)
	isOpened(t, summed(make([]byte, sumAt)), 0, 0, nil)
}

func TestOpenByOthers(t *testing.T) { // P7.2, What follows
	for _, tag := range numbers {
		for _, number := range numbers {
			p := made(t, tag, number, []byte{7})
			for _, byTag := range numbers {
				for _, byNumber := range numbers {
					if byTag != tag || byNumber != number {
						isRotten(t, "made by others", p, byTag, byNumber)
					}
				}
			}
		}
	}
}

func TestOpenByTheOtherWayRound(t *testing.T) { // P7.2, What follows
	for _, b := range few() {
		p := made(t, 1, 2, b)
		isRotten(t, "the other way round", p, 2, 1)
		isRotten(t, "the tag twice", p, 1, 1)
		isRotten(t, "the number twice", p, 2, 2)
	}
	isOpened(t, made(t, 9, 9, []byte{7}), 9, 9, []byte{7})
}

func TestOpenByOneBitOtherwise(t *testing.T) { // P7.2, What follows
	const tag, number = 0xfffefdfc, 0x01020304
	p := made(t, tag, number, rows(30))
	for i := range 32 {
		isRotten(t, "another tag", p, tag^1<<i, number)
		isRotten(t, "another number", p, tag, number^1<<i)
		isRotten(t, "both otherwise", p, tag^1<<i, number^1<<i)
	}
}

func TestOpenOfOtherLengths(t *testing.T) { // P7.2
	for _, b := range few() {
		p := made(t, 1, 2, b)
		for n := range pageSize {
			isRotten(t, "cut", p[:n], 1, 2)
			isRotten(t, "cut ahead", p[pageSize-n:], 1, 2)
		}
		for _, more := range [][]byte{{0}, {1}, make([]byte, 4), make([]byte, pageSize), p} {
			isRotten(t, "longer", append(bytes.Clone(p), more...), 1, 2)
			isRotten(t, "longer ahead", append(bytes.Clone(more), p...), 1, 2)
		}
	}
}

func TestOpenOfOtherLengthsWithSums(t *testing.T) { // P7.2: the sum fits, wherever the page ends
	for _, n := range []int{0, 1, 251, 253, 254, 255, 257, 512} {
		b := append(wantPage(1, 2, []byte{7})[:min(n, sumAt)], make([]byte, max(n-sumAt, 0))...)
		isRotten(t, "another length, and a sum", summed(b), 1, 2)
	}
	for _, n := range []int{0, 255, 257} {
		isRotten(t, "bytes 0", make([]byte, n), 0, 0)
	}
	isRotten(t, "nil", nil, 0, 0)
	isRotten(t, "nil", nil, 1, 2)
}

func TestOpenLeavesTheRoomOut(t *testing.T) { // P7.2, R3: what stands behind the end of p is not of it
	p, _ := inRoom(made(t, 1, 2, rows(240)), 300)
	isOpened(t, p, 1, 2, rows(240))
	isRotten(t, "a page's beginning, the rest behind its end", p[:255], 1, 2)
}

func TestOpenOfSizesAboveTheRoom(t *testing.T) { // P7.2: the sum fits
	for _, room := range [][]byte{nil, rows(most)} {
		for size := most + 1; size <= math.MaxUint16; size++ {
			isRotten(t, "a size above the room", raw(1, 2, size, 0, room), 1, 2)
		}
	}
	isOpened(t, raw(1, 2, most, 0, rows(most)), 1, 2, rows(most))
}

func TestOpenOfAnySize(t *testing.T) { // P7.2: the sum fits, and bytes behind the size are 0, or are not
	room := append(rows(100), make([]byte, 140)...)
	for size := range most + 1 {
		p := raw(1, 2, size, 0, room)
		if size < 100 {
			isRotten(t, "a size below the bytes that are there", p, 1, 2)
		} else {
			isOpened(t, p, 1, 2, room[:size])
		}
	}
}

func TestOpenOfBytesBehindTheSize(t *testing.T) { // P7.2: the sum fits
	for _, size := range []int{0, 1, 100, 238, 239} {
		for at := size; at < most; at++ {
			for _, c := range []byte{1, 0x80, 0xff} {
				room := append(rows(size), make([]byte, most-size)...)
				room[at] = c
				isRotten(t, "a byte behind the size", raw(1, 2, size, 0, room), 1, 2)
			}
		}
	}
}

func TestOpenOfManyBytesBehindTheSize(t *testing.T) { // P7.2: the sum fits, whatever the bytes come to together
	for _, tail := range [][]byte{{1, 1}, {1, 0xff}, {0xff, 1}, {0x80, 0x80}, {3, 1, 2}, rows(100)} {
		isRotten(t, "bytes behind the size", raw(1, 2, 10, 0, append(rows(10), tail...)), 1, 2)
	}
}

func TestOpenOfTheTwoBytes(t *testing.T) { // P7.2: the sum fits
	for _, b := range [][]byte{nil, {7}, rows(most)} {
		for zero := 1; zero <= math.MaxUint16; zero++ {
			isRotten(t, "two bytes that are not 0", raw(1, 2, len(b), zero, b), 1, 2)
		}
		isOpened(t, raw(1, 2, len(b), 0, b), 1, 2, b)
	}
}

func TestOpenOfEachByteOtherwise(t *testing.T) { // P7.2: the sum fits, so that the page is one that Make makes or none
	b := append(rows(20), 0, 0, 0)
	was := wantPage(1, 2, b)
	for at := range sumAt {
		for c := range 256 {
			body := bytes.Clone(was[:sumAt])
			body[at] = byte(c)
			p := summed(body)
			size := int(binary.LittleEndian.Uint16(p[8:]))
			if size <= most && bytes.Equal(p, wantPage(1, 2, p[roomAt:roomAt+size])) {
				isOpened(t, p, 1, 2, p[roomAt:roomAt+size])
			} else {
				isRotten(t, "a byte otherwise", p, 1, 2)
			}
		}
	}
}

func TestOpenOfOtherSums(t *testing.T) { // P7.2
	body := made(t, 1, 2, rows(30))[:sumAt]
	fits := sumOf(body)
	for _, sum := range []uint32{0, 1, ^fits, fits + 1, fits - 1, sumOf(body[:sumAt-1]), sumOf(body[:roomAt+30]), sumOf(body[roomAt:]), sumOf(summed(body)), crc32.ChecksumIEEE(body), math.MaxUint32} {
		isRotten(t, "another sum", binary.LittleEndian.AppendUint32(bytes.Clone(body), sum), 1, 2)
	}
	isRotten(t, "the sum's highest byte first", binary.BigEndian.AppendUint32(bytes.Clone(body), fits), 1, 2)
	isRotten(t, "the sum of another page", append(bytes.Clone(body), made(t, 1, 3, rows(30))[sumAt:]...), 1, 2)
}

// burst is what turns bits of width ones that stand one behind the other: the first and the last, and those between that pattern says.
func burst(width int, pattern uint32) uint32 {
	return uint32(1) | uint32(1)<<(width-1) | pattern&uint32(1<<width-1)
}

// turned is a page in which the bits of a burst are turned from bit at on.
func turned(p []byte, at int, bits uint32) []byte {
	own := bytes.Clone(p)
	for j := range 32 {
		if bits>>j&1 == 1 {
			own[(at+j)/8] ^= 1 << ((at + j) % 8)
		}
	}
	return own
}

// isTold says that a page that was turned must not be opened, neither by its tag and its number nor by those that it says now.
func isTold(t *testing.T, p []byte, tag, number uint32) {
	t.Helper()
	isRotten(t, "turned", p, tag, number)
	said, saidNumber := binary.LittleEndian.Uint32(p), binary.LittleEndian.Uint32(p[4:])
	if said != tag || saidNumber != number {
		isRotten(t, "turned, by what it says now", p, said, saidNumber)
	}
}

func TestBurstsAreTold(t *testing.T) { // What follows
	patterns := []uint32{0, math.MaxUint32, 0x55555555, 0xaaaaaaaa, 0x9e3779b9}
	for _, b := range [][]byte{nil, rows(100), rows(most)} {
		p := made(t, 0x01020304, 5, b)
		for width := 1; width <= 32; width++ {
			for at := 0; at+width <= 8*pageSize; at++ {
				for _, pattern := range patterns {
					isTold(t, turned(p, at, burst(width, pattern)), 0x01020304, 5)
				}
			}
		}
	}
}

func TestBurstsOfManyPagesAreTold(t *testing.T) { // What follows
	for _, tag := range numbers {
		for _, b := range few() {
			p := made(t, tag, 3, b)
			for i := range 8 * pageSize {
				width := min(1+i%32, 8*pageSize-i)
				isTold(t, turned(p, i, burst(width, uint32(i)*0x9e3779b9)), tag, 3)
			}
		}
	}
}

func TestBurstsIntoTheSumAreTold(t *testing.T) { // What follows
	p := made(t, 1, 2, rows(most))
	for at := 8*sumAt - 31; at <= 8*pageSize-32; at++ {
		for i := range uint32(200) {
			isTold(t, turned(p, at, 1|i*0x9e3779b9), 1, 2)
		}
	}
}

func TestBytesBehindOneAnotherAreTold(t *testing.T) { // What follows: four bytes that are anything else
	for _, b := range [][]byte{nil, {7}, rows(most)} {
		p := made(t, 1, 2, b)
		for at := range pageSize - 3 {
			for _, four := range [][]byte{{0, 0, 0, 0}, {1, 0, 0, 0}, {0, 0, 0, 1}, {0xff, 0xff, 0xff, 0xff}, {1, 2, 3, 4}} {
				own := bytes.Clone(p)
				copy(own[at:], four)
				if !bytes.Equal(own, p) {
					isTold(t, own, 1, 2)
				}
			}
		}
	}
}

func TestTagOfNames(t *testing.T) { // P7.3
	if x := page.Tag(""); x != 0 {
		t.Errorf("Tag of no bytes: %x", x)
	}
	names := []string{"", "a", "123456789", "u.1", "journal", "\x00", "\x00\x00", "\x7f", "\x80", "\xff", "\xff\xfe\x80 and more", "\xc3\xa9", "\u20ac", "a\xffb", strings.Repeat("z", 24), strings.Repeat("\xff", 300)}
	for c := range 256 {
		names = append(names, string([]byte{byte(c)}), string([]byte{'a', byte(c), 'b'}))
	}
	for _, name := range names {
		if x, want := page.Tag(name), sumOf([]byte(name)); x != want {
			t.Errorf("Tag of %q: %x; want %x", name, x, want)
		}
	}
	for n, want := range map[string]uint32{strings.Repeat("\x00", 32): 0x8a9136aa, strings.Repeat("\xff", 32): 0x62a8ab43} {
		if x := page.Tag(n); x != want {
			t.Errorf("Tag of %q: %x; want %x", n, x, want)
		}
	}
}

func TestBytesHandedInAreNotChanged(t *testing.T) { // R3
	for _, n := range []int{0, 1, 100, 239, 240, 241, 300} {
		b, whole := inRoom(rows(n), 300)
		was := bytes.Clone(whole)
		page.Make(1, 2, b)
		if !bytes.Equal(whole, was) {
			t.Errorf("Make of %d bytes: what is handed in is changed", n)
		}
	}
	right := wantPage(1, 2, rows(100))
	for _, p := range [][]byte{nil, right[:255], right, raw(1, 2, 50, 0, rows(100)), append(bytes.Clone(right), 0), make([]byte, pageSize)} {
		part, whole := inRoom(p, 300)
		was := bytes.Clone(whole)
		page.Open(part, 1, 2)
		page.Open(part, 2, 1)
		if !bytes.Equal(whole, was) {
			t.Errorf("Open of %d bytes: what is handed in is changed", len(p))
		}
	}
}

func TestBytesHandedInAreNotKept(t *testing.T) { // R3
	for _, n := range []int{1, 100, 240} {
		b := rows(n)
		p := made(t, 1, 2, b)
		spoil(b)
		if !bytes.Equal(p, wantPage(1, 2, rows(n))) {
			t.Errorf("Make of %d bytes: the page goes with the bytes", n)
		}
		got, e := page.Open(p, 1, 2)
		spoil(p)
		if !bytes.Equal(got, rows(n)) || e != api.OK {
			t.Errorf("Open of %d bytes: they go with the page: % x, %d", n, got, e)
		}
		isRotten(t, "all bits turned", p, 1, 2)
	}
}

func TestAnswersAreNewMemory(t *testing.T) { // R3
	for _, n := range []int{0, 1, 100, 239, 240} {
		b := rows(n)
		first, second := made(t, 1, 2, b), made(t, 1, 2, b)
		spoil(first)
		if want := wantPage(1, 2, rows(n)); !bytes.Equal(second, want) || !bytes.Equal(made(t, 1, 2, b), want) || !bytes.Equal(b, rows(n)) {
			t.Errorf("Make of %d bytes: a page goes with another one, or with the bytes", n)
		}
		got, _ := page.Open(second, 1, 2)
		other, _ := page.Open(second, 1, 2)
		spoil(got)
		if !bytes.Equal(other, rows(n)) || !bytes.Equal(second, wantPage(1, 2, rows(n))) {
			t.Errorf("Open of %d bytes: they go with others, or with the page", n)
		}
		isOpened(t, second, 1, 2, rows(n))
	}
}

func TestCallsDoNotHangOnOthers(t *testing.T) { // R5
	pages := [][]byte{}
	for _, b := range few() {
		pages = append(pages, made(t, 1, 2, b))
		page.Make(9, 9, make([]byte, 241))
		isRotten(t, "between", make([]byte, pageSize), 1, 2)
		page.Tag("between")
	}
	for i, b := range slices.Backward(few()) {
		isOpened(t, pages[i], 1, 2, b)
		isRotten(t, "another tag", pages[i], 2, 2)
		isOpened(t, pages[i], 1, 2, b)
	}
}

func TestNoCallPanics(t *testing.T) { // R1
	for n := range 2*pageSize + 2 {
		for _, c := range []byte{0, 1, 0x7f, 0x80, 0xff} {
			b := bytes.Repeat([]byte{c}, n)
			for _, x := range numbers {
				page.Make(x, x, b)
				isRotten(t, "bytes of one kind", b, x, x)
			}
			page.Tag(string(b))
		}
	}
}
