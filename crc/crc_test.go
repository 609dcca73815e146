package crc_test

import (
	"bytes"
	"encoding/binary"
	"hash/crc32"
	"math"
	"testing"

	"milepost/crc"
)

// residue is the sum of every text with its sum behind it.
const residue = 0x48674bc7

// bases are sums to go on from: none, small ones, one bit each, all of them, the greatest.
var bases = []uint32{0, 1, 2, 7, 0x80, 0xff, 0x100, 0xffff, 0x10000, 0x12345678, 0x48674bc7, 0x7fffffff, 0x80000000, 0x82f63b78, 0xe3069283, 0xfffffffe, math.MaxUint32}

// mixed are so many bytes without a plain rule, others for another seed.
func mixed(seed uint32, n int) []byte {
	b := make([]byte, n)
	x := seed*2654435761 + 12345
	for i := range b {
		x = x*1664525 + 1013904223
		b[i] = byte(x >> 24)
	}
	return b
}

// texts are of all kinds: none, short ones, all of one byte, a page, longer ones.
func texts() [][]byte {
	ts := [][]byte{nil, {}, {0}, {0xff}, {1}, {0x80}, []byte("123456789"), make([]byte, 32), bytes.Repeat([]byte{0xff}, 32)}
	for _, n := range []int{1, 2, 3, 4, 5, 7, 8, 9, 31, 60, 64, 240, 252, 256, 1000} {
		ts = append(ts, mixed(uint32(n), n))
	}
	return ts
}

// byTheWords does what P2.2 says, bit by bit.
func byTheWords(sum uint32, b []byte) uint32 {
	x := sum ^ 0xffffffff
	for _, c := range b {
		x ^= uint32(c)
		for range 8 {
			odd := x%2 == 1
			x /= 2
			if odd {
				x ^= 0x82F63B78
			}
		}
	}
	return x ^ 0xffffffff
}

// withSum is a text with four bytes behind it, the lowest of the sum first.
func withSum(b []byte, sum uint32) []byte {
	return binary.LittleEndian.AppendUint32(bytes.Clone(b), sum)
}

// sumBehind is the text and the sum that its last four bytes say.
func sumBehind(b []byte) (text []byte, sum uint32) {
	at := len(b) - 4
	return b[:at], binary.LittleEndian.Uint32(b[at:])
}

// turnedBy is a copy in which the bits of pattern are turned from bit at on; all that are set must lie within.
func turnedBy(b []byte, at int, pattern uint32) []byte {
	own := bytes.Clone(b)
	for j := range 32 {
		if pattern>>j&1 == 1 {
			own[(at+j)/8] ^= 1 << ((at + j) % 8)
		}
	}
	return own
}

// patterns are bursts of just so many bits, from 1 to 32: the first and the last are turned, and between them none, all, every other, or some.
func patterns(width int) []uint32 {
	ends := uint32(1) | uint32(1)<<(width-1)
	all := uint32(1<<width - 1)
	ps := []uint32{ends, all, ends | all&0x55555555, ends | all&0xaaaaaaaa}
	for seed := range uint32(4) {
		ps = append(ps, ends|all&binary.LittleEndian.Uint32(mixed(seed+uint32(width), 4)))
	}
	return ps
}

// everyBurst calls for bursts of each width, at each place where they lie within so many bytes.
func everyBurst(n int, call func(at int, pattern uint32)) {
	for width := 1; width <= 32; width++ {
		for at := 0; at+width <= 8*n; at++ {
			for _, p := range patterns(width) {
				call(at, p)
			}
		}
	}
}

func TestPatternsAreBursts(t *testing.T) { // of the tests themselves
	for width := 1; width <= 32; width++ {
		for _, p := range patterns(width) {
			if p&1 == 0 || p>>(width-1) != 1 {
				t.Errorf("a burst of %d bits: %x", width, p)
			}
		}
	}
}

func TestSumExamples(t *testing.T) { // P2.1
	for _, x := range []struct {
		text []byte
		want uint32
	}{
		{nil, 0},
		{[]byte{}, 0},
		{[]byte("123456789"), 0xe3069283},
		{make([]byte, 32), 0x8a9136aa},
		{bytes.Repeat([]byte{0xff}, 32), 0x62a8ab43}, // as RFC 3720 says
	} {
		if got := crc.Sum(x.text); got != x.want {
			t.Errorf("Sum of %x: %x; want %x", x.text, got, x.want)
		}
	}
}

func TestSumIsExtendOfNothing(t *testing.T) { // P2.1
	castagnoli := crc32.MakeTable(crc32.Castagnoli)
	for _, b := range texts() {
		got := crc.Sum(b)
		if got != crc.Extend(0, b) || got != crc32.Checksum(b, castagnoli) || got != byTheWords(0, b) {
			t.Errorf("Sum of %d bytes: %x; want %x", len(b), got, byTheWords(0, b))
		}
	}
}

func TestSumOfEachByte(t *testing.T) { // P2.1
	for c := range 256 {
		b := []byte{byte(c)}
		if got := crc.Sum(b); got != byTheWords(0, b) {
			t.Errorf("Sum of %x: %x; want %x", b, got, byTheWords(0, b))
		}
	}
}

func TestExtendExamples(t *testing.T) { // P2.2
	if got := crc.Extend(crc.Sum([]byte("1234")), []byte("56789")); got != 0xe3069283 {
		t.Errorf("Extend of Sum of 1234 by 56789: %x", got)
	}
	if got := crc.Extend(7, nil); got != 7 {
		t.Errorf("Extend of 7 by nothing: %x", got)
	}
}

func TestExtendByNothing(t *testing.T) { // P2.2
	for _, sum := range bases {
		if got := crc.Extend(sum, nil); got != sum {
			t.Errorf("Extend of %x by nil: %x", sum, got)
		}
		if got := crc.Extend(sum, []byte{}); got != sum {
			t.Errorf("Extend of %x by no bytes: %x", sum, got)
		}
		if got := crc.Extend(sum, []byte("no bytes, but room")[:0]); got != sum {
			t.Errorf("Extend of %x by no bytes with room behind them: %x", sum, got)
		}
	}
}

func TestExtendByEachByte(t *testing.T) { // P2.2
	for _, sum := range bases {
		for c := range 256 {
			b := []byte{byte(c)}
			if got := crc.Extend(sum, b); got != byTheWords(sum, b) {
				t.Errorf("Extend of %x by %x: %x; want %x", sum, b, got, byTheWords(sum, b))
			}
		}
	}
}

func TestExtendFromEachBit(t *testing.T) { // P2.2
	for i := range 32 {
		for _, sum := range []uint32{1 << i, ^(uint32(1) << i)} {
			for _, b := range [][]byte{{0}, {0xff}, {0, 0, 0, 0, 0}, []byte("milepost")} {
				if got := crc.Extend(sum, b); got != byTheWords(sum, b) {
					t.Errorf("Extend of %x by %x: %x; want %x", sum, b, got, byTheWords(sum, b))
				}
			}
		}
	}
}

func TestExtendByTexts(t *testing.T) { // P2.2
	castagnoli := crc32.MakeTable(crc32.Castagnoli)
	for _, sum := range bases {
		for _, b := range texts() {
			got := crc.Extend(sum, b)
			if got != byTheWords(sum, b) || got != crc32.Update(sum, castagnoli, b) {
				t.Errorf("Extend of %x by %d bytes: %x; want %x", sum, len(b), got, byTheWords(sum, b))
			}
		}
	}
}

func TestExtendByALongText(t *testing.T) { // P2.2
	castagnoli := crc32.MakeTable(crc32.Castagnoli)
	b := mixed(1, 1<<24+3)
	for _, sum := range []uint32{0, 7, math.MaxUint32} {
		if got, want := crc.Extend(sum, b), crc32.Update(sum, castagnoli, b); got != want {
			t.Errorf("Extend of %x by %d bytes: %x; want %x", sum, len(b), got, want)
		}
	}
}

func TestRoomBehindTheEndDoesNotCount(t *testing.T) { // P2.1, P2.2
	b := mixed(3, 300)
	for n := range len(b) {
		alone := bytes.Clone(b[:n])
		if got, want := crc.Sum(b[:n]), crc.Sum(alone); got != want {
			t.Errorf("Sum of %d bytes with room behind them: %x; want %x", n, got, want)
		}
		if got, want := crc.Extend(9, b[:n]), crc.Extend(9, alone); got != want {
			t.Errorf("Extend of 9 by %d bytes with room behind them: %x; want %x", n, got, want)
		}
	}
}

func TestTextCutAnywhere(t *testing.T) { // What follows
	for _, b := range texts() {
		for at := range len(b) + 1 {
			if got := crc.Extend(crc.Sum(b[:at]), b[at:]); got != byTheWords(0, b) {
				t.Errorf("%d bytes, cut at %d: %x; want %x", len(b), at, got, byTheWords(0, b))
			}
		}
	}
}

func TestTextCutTwice(t *testing.T) { // What follows
	b := mixed(5, 40)
	for _, sum := range bases {
		want := byTheWords(sum, b)
		for from := range len(b) + 1 {
			for to := from; to <= len(b); to++ {
				got := crc.Extend(crc.Extend(crc.Extend(sum, b[:from]), b[from:to]), b[to:])
				if got != want {
					t.Errorf("from %x, cut at %d and %d: %x; want %x", sum, from, to, got, want)
				}
			}
		}
	}
}

func TestTextByteByByte(t *testing.T) { // What follows
	b := mixed(6, 1000)
	sum := crc.Sum(nil)
	for i := range b {
		sum = crc.Extend(sum, b[i:i+1])
		if want := byTheWords(0, b[:i+1]); sum != want {
			t.Fatalf("byte by byte up to %d: %x; want %x", i, sum, want)
		}
	}
}

func TestBurstIsTold(t *testing.T) { // What follows
	for _, b := range [][]byte{{0}, {0xff, 0xff}, mixed(7, 3), mixed(8, 4), mixed(9, 5), make([]byte, 16), mixed(10, 16)} {
		was := crc.Sum(b)
		everyBurst(len(b), func(at int, pattern uint32) {
			if crc.Sum(turnedBy(b, at, pattern)) == was {
				t.Errorf("%x, turned by %x at %d: the sum is the same", b, pattern, at)
			}
		})
	}
}

func TestBurstOfALongTextIsTold(t *testing.T) { // What follows
	for _, n := range []int{252, 256, 4096} {
		b := mixed(uint32(n), n)
		was := crc.Sum(b)
		for width := 1; width <= 32; width++ {
			last := 8*n - width
			for _, at := range []int{0, 1, 7, 8, 63, 64, 4 * n, 4*n - 1, 4*n - width/2, last - 1, last} {
				for _, p := range patterns(width) {
					if crc.Sum(turnedBy(b, at, p)) == was {
						t.Errorf("%d bytes, turned by %x at %d: the sum is the same", n, p, at)
					}
				}
			}
		}
	}
}

func TestBurstIsToldFromAnySum(t *testing.T) { // What follows
	b := mixed(11, 6)
	for _, sum := range bases {
		was := crc.Extend(sum, b)
		everyBurst(len(b), func(at int, pattern uint32) {
			if crc.Extend(sum, turnedBy(b, at, pattern)) == was {
				t.Errorf("from %x, %x turned by %x at %d: the sum is the same", sum, b, pattern, at)
			}
		})
	}
}

func TestBurstOfTextAndSumIsTold(t *testing.T) { // What follows
	for _, b := range [][]byte{nil, {0}, {0xff}, mixed(12, 2), mixed(13, 4), make([]byte, 8), mixed(14, 12), mixed(15, 60)} {
		both := withSum(b, crc.Sum(b))
		everyBurst(len(both), func(at int, pattern uint32) {
			text, sum := sumBehind(turnedBy(both, at, pattern))
			if crc.Sum(text) == sum {
				t.Errorf("%x with its sum behind it, turned by %x at %d, is not told", b, pattern, at)
			}
		})
	}
}

func TestBurstIntoThePagesSumIsTold(t *testing.T) { // What follows
	b := mixed(16, 252)
	both := withSum(b, crc.Sum(b))
	border := 8 * len(b)
	for width := 1; width <= 32; width++ {
		for at := border - width; at <= 8*len(both)-width; at++ {
			for _, p := range patterns(width) {
				text, sum := sumBehind(turnedBy(both, at, p))
				if crc.Sum(text) == sum {
					t.Errorf("turned by %x at %d, the text ends at %d: it is not told", p, at, border)
				}
			}
		}
	}
}

func TestTextWithItsSumBehindIt(t *testing.T) { // What follows
	for _, b := range texts() {
		sum := crc.Sum(b)
		if got := crc.Sum(withSum(b, sum)); got != residue {
			t.Errorf("%d bytes with their sum behind them: %x", len(b), got)
		}
		if got := crc.Extend(sum, withSum(nil, sum)); got != residue {
			t.Errorf("a sum of %d bytes, with its own bytes behind: %x", len(b), got)
		}
	}
	for _, sum := range bases {
		if got := crc.Extend(sum, withSum(nil, sum)); got != residue {
			t.Errorf("%x, with its own bytes behind: %x", sum, got)
		}
	}
}

func TestOtherSumsBehindATextAreTold(t *testing.T) { // What follows
	for _, b := range texts() {
		sum := crc.Sum(b)
		for i := range 32 {
			if got := crc.Sum(withSum(b, sum^1<<i)); got == residue {
				t.Errorf("%d bytes with another sum behind them, turned at %d: %x", len(b), i, got)
			}
		}
	}
}

func TestOtherSumsComeToOtherSums(t *testing.T) { // What follows
	sums := append([]uint32{}, bases...)
	for i := range 32 {
		sums = append(sums, 1<<i, ^(uint32(1) << i))
	}
	for i := range uint32(256) {
		sums = append(sums, i, i<<8, i<<16, i<<24)
	}
	for _, b := range texts() {
		from := map[uint32]uint32{}
		for _, sum := range sums {
			to := crc.Extend(sum, b)
			if other, there := from[to]; there && other != sum {
				t.Errorf("from %x and from %x %d bytes come to %x", sum, other, len(b), to)
			}
			from[to] = sum
		}
	}
}

func TestThreeTextsPutTogether(t *testing.T) { // What follows
	for _, n := range []int{0, 1, 2, 3, 4, 5, 8, 9, 64, 252, 1000} {
		for seed := range uint32(20) {
			one, two, three := mixed(seed, n), mixed(seed+100, n), mixed(seed+200, n)
			if seed == 0 {
				two = bytes.Clone(one)
			}
			all := make([]byte, n)
			for i := range all {
				all[i] = one[i] ^ two[i] ^ three[i]
			}
			if got, want := crc.Sum(all), crc.Sum(one)^crc.Sum(two)^crc.Sum(three); got != want {
				t.Errorf("three texts of %d bytes put together: %x; want %x", n, got, want)
			}
		}
	}
}

func TestNothingIsChanged(t *testing.T) { // R3
	for _, b := range texts() {
		whole := append(bytes.Clone(b), bytes.Repeat([]byte{0xee}, 16)...)
		was := bytes.Clone(whole)
		crc.Sum(whole[:len(b)])
		for _, sum := range bases {
			crc.Extend(sum, whole[:len(b)])
		}
		if !bytes.Equal(whole, was) {
			t.Errorf("what is handed in, or the room behind it, is changed: %x", whole)
		}
	}
}

func TestNothingIsKept(t *testing.T) { // R3, R5
	one, two := mixed(17, 100), mixed(18, 100)
	want := crc.Sum(one)
	kept := crc.Extend(7, one)
	crc.Sum(two)
	crc.Extend(math.MaxUint32, two)
	if crc.Sum(one) != want || crc.Extend(7, one) != kept {
		t.Errorf("the same bytes come to another sum behind other calls")
	}
	for i := range two {
		two[i] = one[i]
	}
	if crc.Sum(two) != want || crc.Extend(7, two) != kept {
		t.Errorf("bytes that were others come to another sum than the same bytes elsewhere")
	}
}
