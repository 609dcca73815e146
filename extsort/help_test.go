package extsort_test

import (
	"bytes"
	"cmp"
	"encoding/binary"
	"hash/crc32"
	"math"
	"slices"
	"strings"
	"testing"

	"milepost/api"
	"milepost/disk"
	"milepost/extsort"
	"milepost/pool"
	"milepost/stream"
)

// The limits as the chapters tell them, not as package api does.
const (
	pageSize   = 256
	sectorSize = 64
	perPage    = 12 // edges
	edgeSize   = 20
	fewest     = 8 // frames that are enough
	mostFrames = 4096
	mostSize   = 16777216
	mostRoom   = 1048576
	none       = 4294967295
	sumAt      = 252
)

// sumOf is the sum of bytes, as the library has it.
func sumOf(b []byte) uint32 { return crc32.Checksum(b, crc32.MakeTable(crc32.Castagnoli)) }

// pageOf is page k of a file of that name, as chapter 7 says it.
func pageOf(name string, k int, b []byte) []byte {
	p := binary.LittleEndian.AppendUint32(nil, sumOf([]byte(name)))
	p = binary.LittleEndian.AppendUint32(p, uint32(k))
	p = binary.LittleEndian.AppendUint16(p, uint16(len(b)))
	p = append(p, 0, 0)
	p = append(p, b...)
	p = append(p, make([]byte, sumAt-len(p))...)
	return binary.LittleEndian.AppendUint32(p, sumOf(p))
}

// fileOf are the pages of a file, one behind the other.
func fileOf(name string, texts ...[]byte) []byte {
	var b []byte
	for k, text := range texts {
		b = append(b, pageOf(name, k, text)...)
	}
	return b
}

// textOf are the records of edges, as chapter 1 says them.
func textOf(l []api.Edge) []byte {
	var b []byte
	for _, e := range l {
		b = binary.LittleEndian.AppendUint32(b, e.Tail)
		b = binary.LittleEndian.AppendUint32(b, e.Head)
		b = binary.LittleEndian.AppendUint64(b, e.Weight)
		b = binary.LittleEndian.AppendUint32(b, e.Mid)
	}
	return b
}

// textsOf are the pages of a file of edges.
func textsOf(l []api.Edge) [][]byte {
	var texts [][]byte
	for chunk := range slices.Chunk(l, perPage) {
		texts = append(texts, textOf(chunk))
	}
	return texts
}

// isBetter says whether an edge is better than another one, as chapter 3 says it.
func isBetter(a, b api.Edge) bool {
	if a.Weight != b.Weight {
		return a.Weight < b.Weight
	}
	return (uint64(a.Mid)+1)%(1<<32) < (uint64(b.Mid)+1)%(1<<32)
}

// counted is what counts of edges, in an order, as the chapter says it.
func counted(l []api.Edge, by int) []api.Edge {
	best := map[[2]uint32]api.Edge{}
	for _, e := range l {
		if e.Tail == e.Head {
			continue
		}
		if old, there := best[[2]uint32{e.Tail, e.Head}]; !there || isBetter(e, old) {
			best[[2]uint32{e.Tail, e.Head}] = e
		}
	}
	var kept []api.Edge
	for _, e := range best {
		kept = append(kept, e)
	}
	slices.SortFunc(kept, func(a, b api.Edge) int {
		if by == 1 {
			return cmp.Or(cmp.Compare(a.Head, b.Head), cmp.Compare(a.Tail, b.Tail))
		}
		return cmp.Or(cmp.Compare(a.Tail, b.Tail), cmp.Compare(a.Head, b.Head))
	})
	return kept
}

// orders are both of them, as the chapter numbers them.
func orders() []int { return []int{0, 1} }

// edge is one without a middle.
func edge(tail, head uint32, weight uint64) api.Edge {
	return api.Edge{Tail: tail, Head: head, Weight: weight, Mid: none}
}

// apart are n edges of as many pairs, not in order, none of which is a loop.
func apart(n int) []api.Edge {
	var l []api.Edge
	for i := range n {
		l = append(l, api.Edge{Tail: uint32(i * 7919 % 10007), Head: 20000 + uint32(i*31%97), Weight: uint64(i), Mid: uint32(i)})
	}
	return l
}

// newDisk is a disk of so many sectors, without files.
func newDisk(t *testing.T, quota int) *disk.Disk {
	t.Helper()
	d, e := disk.New(quota)
	if e != api.OK || d == nil {
		t.Fatalf("disk.New of %d: %v, %d", quota, d, e)
	}
	return d
}

// newPool is a pool of so many frames.
func newPool(t *testing.T, d *disk.Disk, frames int) *pool.Pool {
	t.Helper()
	p, e := pool.New(d, frames)
	if e != api.OK || p == nil {
		t.Fatalf("pool.New of %d: %v, %d", frames, p, e)
	}
	return p
}

// lay makes a file of these pages on a disk; it lasts.
func lay(t *testing.T, d *disk.Disk, name string, texts ...[]byte) {
	t.Helper()
	fine(t, d.Create(name), d.Write(name, 0, fileOf(name, texts...)), d.Sync(name))
}

// laid is a disk with a file "x" of edges, which lasts.
func laid(t *testing.T, l []api.Edge) *disk.Disk {
	t.Helper()
	d := newDisk(t, mostRoom)
	lay(t, d, "x", textsOf(l)...)
	return d
}

// added adds edges to a file "x" through a pool, and flushes nothing.
func added(t *testing.T, p *pool.Pool, l []api.Edge) {
	t.Helper()
	fine(t, p.Create("x"))
	s, e := stream.Open(p, "x", edgeSize)
	fine(t, e)
	for _, x := range l {
		fine(t, s.Add(textOf([]api.Edge{x})))
	}
}

// fine are errors that must be none.
func fine(t *testing.T, l ...api.Errno) {
	t.Helper()
	for i, e := range l {
		if e != api.OK {
			t.Fatalf("call %d: %d", i, e)
		}
	}
}

// is holds an error against what it must be.
func is(t *testing.T, what string, got, want api.Errno) {
	t.Helper()
	if got != want {
		t.Fatalf("%s: %d; want %d", what, got, want)
	}
}

// hasFiles says which files there must be.
func hasFiles(t *testing.T, d *disk.Disk, want ...string) {
	t.Helper()
	slices.Sort(want)
	if names := d.Names(); !slices.Equal(names, want) {
		t.Fatalf("files: %q; want %q", names, want)
	}
}

// lies holds a file's bytes on the disk against the edges that it must have.
func lies(t *testing.T, d *disk.Disk, name string, l []api.Edge) {
	t.Helper()
	b, e := d.Read(name, 0, mostSize)
	if want := fileOf(name, textsOf(l)...); !bytes.Equal(b, want) || e != api.OK {
		t.Fatalf("%s on the disk: %d bytes, %d; want %d, or other ones", name, len(b), e, len(want))
	}
}

// holds holds a file's pages, as the pool has them, against the edges that it must have.
func holds(t *testing.T, p *pool.Pool, name string, l []api.Edge) {
	t.Helper()
	want := textsOf(l)
	if n, e := p.Pages(name); n != len(want) || e != api.OK {
		t.Fatalf("Pages of %s: %d, %d; want %d", name, n, e, len(want))
	}
	for k := range want {
		if b, e := p.Read(name, k); !bytes.Equal(b, want[k]) || e != api.OK {
			t.Fatalf("page %d of %s: % x, %d; want % x", k, name, b, e, want[k])
		}
	}
}

// isDone says that nothing of a sort is left to be done, that pinned nothing.
func isDone(t *testing.T, p *pool.Pool) {
	t.Helper()
	resident, pinned, dirty := p.Held()
	if most, pins := p.Peak(); pinned != 0 || dirty != 0 || pins != 0 || most > p.Frames() || resident > most {
		t.Fatalf("%d frames: Held: %d %d %d; Peak: %d %d", p.Frames(), resident, pinned, dirty, most, pins)
	}
	if l := p.Disk().Loose(); len(l) != 0 {
		t.Fatalf("%d sectors are loose", len(l))
	}
}

// sorts sorts edges by so many frames, and says what must come of it.
func sorts(t *testing.T, l []api.Edge, frames, by int) {
	t.Helper()
	d := laid(t, l)
	p := newPool(t, d, frames)
	if e := extsort.Sort(p, "x", "o", by); e != api.OK {
		t.Fatalf("Sort of %d edges, %d frames, order %d: %d", len(l), frames, by, e)
	}
	isDone(t, p)
	hasFiles(t, d, "o", "x")
	lies(t, d, "x", l)
	lies(t, d, "o", counted(l, by))
	lose(t, d)
	fine(t, d.On(nil))
	hasFiles(t, d, "o", "x")
	lies(t, d, "x", l)
	lies(t, d, "o", counted(l, by))
}

// lose lets the power go.
func lose(t *testing.T, d *disk.Disk) {
	t.Helper()
	fine(t, d.Arm(1))
	is(t, "Sync", d.Sync("x"), api.ErrDead)
}

// sameFiles says whether files are the same, byte for byte.
func sameFiles(a, b []api.File) bool {
	return slices.EqualFunc(a, b, func(f, g api.File) bool { return f.Name == g.Name && bytes.Equal(f.Bytes, g.Bytes) })
}

// refused says that a sort must answer an error, and that no file is there, or is turned, for that.
func refused(t *testing.T, what string, p *pool.Pool, in, out string, by int, want api.Errno) {
	t.Helper()
	d := p.Disk()
	files, loose := d.Files(), d.Loose()
	_, pinned, dirty := p.Held()
	if e := extsort.Sort(p, in, out, by); e != want {
		t.Fatalf("%s: Sort of %q to %q, order %d: %d; want %d", what, in, out, by, e, want)
	}
	if !sameFiles(d.Files(), files) || !slices.Equal(d.Loose(), loose) {
		t.Fatalf("%s: Sort of %q to %q changes what is on the disk: %q", what, in, out, d.Names())
	}
	if _, x, y := p.Held(); x != pinned || y != dirty {
		t.Fatalf("%s: Held: %d %d; want %d %d", what, x, y, pinned, dirty)
	}
}

// wrongOrders are numbers that are none.
func wrongOrders() []int {
	return []int{-1, -2, 2, 3, 7, 256, 257, math.MinInt32, math.MinInt, math.MaxInt, 1 << 32, 1<<32 + 1}
}

// wrongNames are texts that are no names.
func wrongNames() []string {
	return []string{"", "A", "T.0", "aA", "a/b", "a b", "a_b", "\x00", "\xff", "é", " t.0", strings.Repeat("a", 25), strings.Repeat("-", 1000)}
}

// ownNames are such as begin like the sort's own, some of which are no names.
func ownNames() []string {
	return []string{"t.", "t.0", "t.1", "t.00", "t.7", "t.x", "t..", "t.-1", "t.99999999999999999999", "t.A", "t. ", "t." + strings.Repeat("0", 30)}
}

// random are numbers that are the same at each run.
type random uint64

// below is the next number, from 0 on and below n.
func (r *random) below(n int) int {
	*r = *r*6364136223846793005 + 1442695040888963407
	return int(uint64(*r) >> 33 % uint64(n))
}

// shuffled are the same edges in another order.
func (r *random) shuffled(l []api.Edge) []api.Edge {
	l = slices.Clone(l)
	for i := range l {
		j := i + r.below(len(l)-i)
		l[i], l[j] = l[j], l[i]
	}
	return l
}

// edges are the next n, of so many vertices and weights, by few middles or none.
func (r *random) edges(n, verts, weights int) []api.Edge {
	var l []api.Edge
	for range n {
		x := edge(uint32(r.below(verts)), uint32(r.below(verts)), uint64(r.below(weights)))
		if r.below(2) == 0 {
			x.Mid = uint32(r.below(3))
		}
		l = append(l, x)
	}
	return l
}

// upTo are the numbers from 0 on and below n.
func upTo(n int) []int {
	var l []int
	for i := range n {
		l = append(l, i)
	}
	return l
}
