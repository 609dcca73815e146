package stream_test

import (
	"bytes"
	"encoding/binary"
	"hash/crc32"
	"math"
	"slices"
	"strings"
	"testing"

	"milepost/api"
	"milepost/disk"
	"milepost/pool"
	"milepost/stream"
)

// The limits as the chapters tell them, not as package api does.
const (
	pageSize   = 256
	most       = 240 // bytes in a page
	mostFrames = 4096
	mostSize   = 16777216
	sumAt      = 252
)

// sumOf is the sum of bytes, as the library has it.
func sumOf(b []byte) uint32 { return crc32.Checksum(b, crc32.MakeTable(crc32.Castagnoli)) }

// pageOf is page k of a file of that name, as chapter 7 says it.
func pageOf(name string, k int, b []byte) []byte {
	p := binary.LittleEndian.AppendUint32(nil, sumOf([]byte(name)))
	p = binary.LittleEndian.AppendUint32(p, uint32(k))
	p = binary.LittleEndian.AppendUint16(p, uint16(len(b)))
	p = append(p, 0, 0)
	p = append(p, b...)
	p = append(p, make([]byte, sumAt-len(p))...)
	return binary.LittleEndian.AppendUint32(p, sumOf(p))
}

// fileOf are the pages of a file, one behind the other.
func fileOf(name string, texts ...[]byte) []byte {
	var b []byte
	for k, text := range texts {
		b = append(b, pageOf(name, k, text)...)
	}
	return b
}

// sizes are lengths of records of which many, two and one fit into a page, with a rest of its room and without.
func sizes() []int {
	return []int{1, 2, 7, 12, 20, 60, 79, 80, 81, 100, 119, 120, 121, 200, 239, 240}
}

// fits is how many records of a size a page holds, counted one by one.
func fits(size int) int {
	n := 0
	for used := size; used <= most; used += size {
		n++
	}
	return n
}

// bytesOf are n bytes without a 0, none like the one ahead of it; they begin with c.
func bytesOf(n int, c int) []byte {
	b := make([]byte, n)
	for j := range b {
		b[j] = byte(1 + (c-1+j*89)%255)
	}
	return b
}

// recOf is what record i of a stream is at first, unlike the 254 ahead of it.
func recOf(size, i int) []byte { return bytesOf(size, 1+i*83%255) }

// recsOf are those of the first n records.
func recsOf(size, n int) [][]byte {
	l := make([][]byte, n)
	for i := range l {
		l[i] = recOf(size, i)
	}
	return l
}

// otherOf is a record that is not what record i is at first.
func otherOf(size, i int) []byte {
	b := recOf(size, i)
	b[0] ^= 0xff
	b[size-1] ^= 0x55
	return b
}

// pagesOf are the pages on which records stand, as the chapter's words say it.
func pagesOf(size int, recs [][]byte) [][]byte {
	var l [][]byte
	for chunk := range slices.Chunk(recs, fits(size)) {
		l = append(l, bytes.Join(chunk, nil))
	}
	return l
}

// with is a list with b at place i, which is there or the next one.
func with(l [][]byte, i int, b []byte) [][]byte {
	l = slices.Clone(l)
	if i == len(l) {
		return append(l, b)
	}
	l[i] = b
	return l
}

// newDisk is a disk of so many sectors, without files.
func newDisk(t *testing.T, quota int) *disk.Disk {
	t.Helper()
	d, e := disk.New(quota)
	if e != api.OK || d == nil {
		t.Fatalf("disk.New of %d: %v, %d", quota, d, e)
	}
	return d
}

// newPool is a pool of so many frames.
func newPool(t *testing.T, d *disk.Disk, frames int) *pool.Pool {
	t.Helper()
	p, e := pool.New(d, frames)
	if e != api.OK || p == nil {
		t.Fatalf("pool.New of %d: %v, %d", frames, p, e)
	}
	return p
}

// open is a stream that must be there.
func open(t *testing.T, p *pool.Pool, name string, size int) *stream.Stream {
	t.Helper()
	s, e := stream.Open(p, name, size)
	if e != api.OK || s == nil {
		t.Fatalf("Open of %q, %d: %v, %d", name, size, s, e)
	}
	return s
}

// made is a stream "a" of n records that were added, over a pool of so many frames.
func made(t *testing.T, frames, size, n int) (*pool.Pool, *stream.Stream) {
	t.Helper()
	p := newPool(t, newDisk(t, 1<<20), frames)
	is(t, "Create", p.Create("a"), api.OK)
	s := open(t, p, "a", size)
	add(t, s, recsOf(size, n)...)
	return p, s
}

// laid is a stream "a" whose file has these pages on the disk, over a pool of so many frames that are empty.
func laid(t *testing.T, frames, size int, texts ...[]byte) (*pool.Pool, *stream.Stream) {
	t.Helper()
	d := newDisk(t, 1<<20)
	lay(t, d, "a", texts...)
	p := newPool(t, d, frames)
	return p, open(t, p, "a", size)
}

// lay makes a file of these pages on a disk; it lasts.
func lay(t *testing.T, d *disk.Disk, name string, texts ...[]byte) {
	t.Helper()
	fine(t, d.Create(name), d.Write(name, 0, fileOf(name, texts...)), d.Sync(name))
}

// add adds records.
func add(t *testing.T, s *stream.Stream, recs ...[]byte) {
	t.Helper()
	for i, rec := range recs {
		if e := s.Add(rec); e != api.OK {
			t.Fatalf("Add of record %d: %d", i, e)
		}
	}
}

// is holds an error against what it must be.
func is(t *testing.T, what string, got, want api.Errno) {
	t.Helper()
	if got != want {
		t.Fatalf("%s: %d; want %d", what, got, want)
	}
}

// fine are errors that must be none.
func fine(t *testing.T, l ...api.Errno) {
	t.Helper()
	for i, e := range l {
		if e != api.OK {
			t.Fatalf("call %d: %d", i, e)
		}
	}
}

// isLen holds how many records there are against what it must be.
func isLen(t *testing.T, s *stream.Stream, want int) {
	t.Helper()
	if n, e := s.Len(); n != want || e != api.OK {
		t.Fatalf("Len: %d, %d; want %d", n, e, want)
	}
}

// isNoLen says that how many records there are must not be told.
func isNoLen(t *testing.T, s *stream.Stream, want api.Errno) {
	t.Helper()
	if n, e := s.Len(); n != 0 || e != want {
		t.Fatalf("Len: %d, %d; want 0, %d", n, e, want)
	}
}

// isRec holds a record against what it must be.
func isRec(t *testing.T, s *stream.Stream, i int, want []byte) {
	t.Helper()
	if b, e := s.Get(i); !bytes.Equal(b, want) || e != api.OK {
		t.Fatalf("Get of %d: % x, %d; want % x", i, b, e, want)
	}
}

// isNoRec says that a record must neither be told nor set.
func isNoRec(t *testing.T, s *stream.Stream, size, i int, want api.Errno) {
	t.Helper()
	if b, e := s.Get(i); len(b) != 0 || e != want {
		t.Fatalf("Get of %d: % x, %d; want %d", i, b, e, want)
	}
	if e := s.Set(i, otherOf(size, i&0xff)); e != want {
		t.Fatalf("Set of %d: %d; want %d", i, e, want)
	}
}

// isStream says that a stream must have just these records.
func isStream(t *testing.T, s *stream.Stream, size int, recs ...[]byte) {
	t.Helper()
	isLen(t, s, len(recs))
	for i, rec := range recs {
		isRec(t, s, i, rec)
	}
	isNoRec(t, s, size, len(recs), api.ErrNone)
}

// holds holds the pages of the file "a", as the pool has them, against those that it must have.
func holds(t *testing.T, p *pool.Pool, texts ...[]byte) {
	t.Helper()
	if n, e := p.Pages("a"); n != len(texts) || e != api.OK {
		t.Fatalf("Pages: %d, %d; want %d", n, e, len(texts))
	}
	for k, want := range texts {
		if b, e := p.Read("a", k); !bytes.Equal(b, want) || e != api.OK {
			t.Fatalf("page %d: % x, %d; want % x", k, b, e, want)
		}
	}
}

// lies holds a file's bytes on the disk against the pages that it must have.
func lies(t *testing.T, d *disk.Disk, name string, texts ...[]byte) {
	t.Helper()
	b, e := d.Read(name, 0, mostSize)
	if want := fileOf(name, texts...); !bytes.Equal(b, want) || e != api.OK {
		t.Fatalf("%s on the disk: %d bytes, %d; want %d, or other ones", name, len(b), e, len(want))
	}
}

// lasts flushes the file "a", which must have these pages on the disk then, behind a loss of power too.
func lasts(t *testing.T, p *pool.Pool, texts ...[]byte) {
	t.Helper()
	is(t, "Flush", p.Flush("a"), api.OK)
	lies(t, p.Disk(), "a", texts...)
	lose(t, p.Disk())
	fine(t, p.Disk().On(nil))
	lies(t, p.Disk(), "a", texts...)
}

// isHeld holds how many frames are not empty, pinned and dirty against what they must be.
func isHeld(t *testing.T, p *pool.Pool, resident, pinned, dirty int) {
	t.Helper()
	if x, y, z := p.Held(); x != resident || y != pinned || z != dirty {
		t.Fatalf("Held: %d %d %d; want %d %d %d", x, y, z, resident, pinned, dirty)
	}
}

// isUnchanged says that calls must change neither the disk nor how many frames hold something.
func isUnchanged(t *testing.T, p *pool.Pool, what string, calls func()) {
	t.Helper()
	d := p.Disk()
	files, loose := d.Files(), d.Loose()
	x, y, z := p.Held()
	v, w := p.Peak()
	calls()
	isHeld(t, p, x, y, z)
	if r, s := p.Peak(); r != v || s != w {
		t.Fatalf("%s: Peak: %d %d; want %d %d", what, r, s, v, w)
	}
	if !sameFiles(d.Files(), files) || !slices.Equal(d.Loose(), loose) {
		t.Fatalf("%s changes what is on the disk", what)
	}
}

// sameFiles says whether files are the same, byte for byte.
func sameFiles(a, b []api.File) bool {
	return slices.EqualFunc(a, b, func(f, g api.File) bool { return f.Name == g.Name && bytes.Equal(f.Bytes, g.Bytes) })
}

// lose lets the power go.
func lose(t *testing.T, d *disk.Disk) {
	t.Helper()
	fine(t, d.Arm(1))
	is(t, "Sync", d.Sync("a"), api.ErrDead)
}

// pinAll lets so many frames of a pool be pinned by pages of a file "other" that is made for it.
func pinAll(t *testing.T, p *pool.Pool, frames int) {
	t.Helper()
	lay(t, p.Disk(), "other", make([][]byte, frames)...)
	for k := range frames {
		if _, e := p.Pin("other", k); e != api.OK {
			t.Fatalf("Pin of %d: %d", k, e)
		}
	}
}

// wrongNames are texts that are no names.
func wrongNames() []string {
	return []string{"", "A", "aA", "a/b", "a b", "a_b", "\x00", "\xff", "é", strings.Repeat("a", 25), strings.Repeat("-", 1000)}
}

// wrongSizes are numbers that are no lengths of records.
func wrongSizes() []int {
	return []int{0, -1, -2, -100, -240, -241, math.MinInt32, math.MinInt, most + 1, most + 2, pageSize, 1 << 16, 1 << 32, 1<<32 + 1, 1<<32 + 100, math.MaxInt - 1, math.MaxInt}
}

// below are numbers below 0.
func below() []int {
	return []int{-1, -2, -240, math.MinInt32, math.MinInt64 / 240, math.MinInt64 + 1, math.MinInt64}
}

// beyond are numbers of records that no file of some pages has.
func beyond() []int {
	return []int{1 << 16, 1<<31 - 1, 1 << 32, 1<<32 + 1, 1 << 56, math.MaxInt / 240, math.MaxInt - 1, math.MaxInt}
}

// random are numbers that are the same at each run.
type random uint64

// below is the next number, from 0 on and below n.
func (r *random) below(n int) int {
	*r = *r*6364136223846793005 + 1442695040888963407
	return int(uint64(*r) >> 33 % uint64(n))
}

// text are the next n bytes.
func (r *random) text(n int) []byte {
	b := make([]byte, n)
	for i := range b {
		b[i] = byte(r.below(256))
	}
	return b
}

// upTo are the numbers from 0 on and below n.
func upTo(n int) []int {
	var l []int
	for i := range n {
		l = append(l, i)
	}
	return l
}
