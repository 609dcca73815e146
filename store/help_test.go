package store_test

import (
	"bytes"
	"cmp"
	"encoding/binary"
	"hash/crc32"
	"math"
	"slices"
	"strconv"
	"strings"
	"testing"

	"milepost/api"
	"milepost/disk"
	"milepost/pool"
	"milepost/store"
	"milepost/stream"
)

// The limits as the chapters tell them, not as package api does.
const (
	pageSize     = 256
	perPage      = 12 // edges
	vertsPerPage = 20
	edgeSize     = 20
	vertSize     = 12
	fewest       = 8 // frames that are enough
	mostFrames   = 4096
	mostSize     = 16777216
	mostRoom     = 1048576
	mostGen      = 1048576
	none         = 4294967295
	sumAt        = 252
)

// sumOf is the sum of bytes, as the library has it.
func sumOf(b []byte) uint32 { return crc32.Checksum(b, crc32.MakeTable(crc32.Castagnoli)) }

// pageOf is page k of a file of that name, as chapter 7 says it.
func pageOf(name string, k int, b []byte) []byte {
	p := binary.LittleEndian.AppendUint32(nil, sumOf([]byte(name)))
	p = binary.LittleEndian.AppendUint32(p, uint32(k))
	p = binary.LittleEndian.AppendUint16(p, uint16(len(b)))
	p = append(p, 0, 0)
	p = append(p, b...)
	p = append(p, make([]byte, sumAt-len(p))...)
	return binary.LittleEndian.AppendUint32(p, sumOf(p))
}

// fileOf are the pages of a file, one behind the other.
func fileOf(name string, texts ...[]byte) []byte {
	var b []byte
	for k, text := range texts {
		b = append(b, pageOf(name, k, text)...)
	}
	return b
}

// numbersOf are numbers of 4 bytes each.
func numbersOf(l ...uint32) []byte {
	var b []byte
	for _, x := range l {
		b = binary.LittleEndian.AppendUint32(b, x)
	}
	return b
}

// textsOf are the pages of a file of edges, whose records chapter 1 says.
func textsOf(l []api.Edge) [][]byte {
	var texts [][]byte
	for chunk := range slices.Chunk(l, perPage) {
		var b []byte
		for _, e := range chunk {
			b = append(b, numbersOf(e.Tail, e.Head, uint32(e.Weight), uint32(e.Weight>>32), e.Mid)...)
		}
		texts = append(texts, b)
	}
	return texts
}

// vertTextsOf are the pages of what is kept of vertices, whose records chapter 1 says.
func vertTextsOf(l []api.Vert) [][]byte {
	var texts [][]byte
	for chunk := range slices.Chunk(l, vertsPerPage) {
		var b []byte
		for _, v := range chunk {
			b = append(b, numbersOf(v.Rank, v.Level, v.Gone)...)
		}
		texts = append(texts, b)
	}
	return texts
}

// isBetter says whether an edge is better than another one, as chapter 3 says it.
func isBetter(a, b api.Edge) bool {
	if a.Weight != b.Weight {
		return a.Weight < b.Weight
	}
	return (uint64(a.Mid)+1)%(1<<32) < (uint64(b.Mid)+1)%(1<<32)
}

// counted is what counts of edges, by tails and then by heads, as chapter 12 says it.
func counted(l []api.Edge) []api.Edge {
	best := map[[2]uint32]api.Edge{}
	for _, e := range l {
		if e.Tail == e.Head {
			continue
		}
		if old, there := best[[2]uint32{e.Tail, e.Head}]; !there || isBetter(e, old) {
			best[[2]uint32{e.Tail, e.Head}] = e
		}
	}
	var kept []api.Edge
	for _, e := range best {
		kept = append(kept, e)
	}
	slices.SortFunc(kept, func(a, b api.Edge) int {
		return cmp.Or(cmp.Compare(a.Tail, b.Tail), cmp.Compare(a.Head, b.Head))
	})
	return kept
}

// turned are edges by heads and then by tails. They must be by tails so far.
func turned(l []api.Edge) []api.Edge {
	l = slices.Clone(l)
	slices.SortStableFunc(l, func(a, b api.Edge) int { return cmp.Compare(a.Head, b.Head) })
	return l
}

// groups are edges by one of their ends, each group in their order.
func groups(l []api.Edge, end func(e api.Edge) uint32) map[uint32][]api.Edge {
	m := map[uint32][]api.Edge{}
	for _, e := range l {
		m[end(e)] = append(m[end(e)], e)
	}
	return m
}

// outOf are what counts of edges, by their tails, each group by their heads.
func outOf(l []api.Edge) map[uint32][]api.Edge {
	return groups(counted(l), func(e api.Edge) uint32 { return e.Tail })
}

// into are what counts of edges, by their heads, each group by their tails.
func into(l []api.Edge) map[uint32][]api.Edge {
	return groups(counted(l), func(e api.Edge) uint32 { return e.Head })
}

// edge is one without a middle.
func edge(tail, head uint32, weight uint64) api.Edge {
	return api.Edge{Tail: tail, Head: head, Weight: weight, Mid: none}
}

// vertsOf are n vertices, none like another one.
func vertsOf(n int) []api.Vert {
	var l []api.Vert
	for i := range n {
		l = append(l, api.Vert{Rank: none - uint32(i), Level: uint32(i * 7919), Gone: uint32(i)})
	}
	return l
}

// ring are n vertices, each of which has edges to those that come next, so many of them, not in order.
func ring(n, next int) []api.Edge {
	var l []api.Edge
	for i := range n * next {
		tail := (n*next - 1 - i) % n
		l = append(l, api.Edge{Tail: uint32(tail), Head: uint32((tail + 1 + i/n) % n), Weight: uint64(i)<<33 + uint64(i), Mid: uint32(i % 5)})
	}
	return l
}

// names are those of the files of a generation.
func names(gen int) []string {
	n := strconv.Itoa(gen)
	return []string{"e." + n, "r." + n, "v." + n}
}

// newDisk is a disk of so many sectors, without files.
func newDisk(t *testing.T, quota int) *disk.Disk {
	t.Helper()
	d, e := disk.New(quota)
	if e != api.OK || d == nil {
		t.Fatalf("disk.New of %d: %v, %d", quota, d, e)
	}
	return d
}

// newPool is a pool of so many frames.
func newPool(t *testing.T, d *disk.Disk, frames int) *pool.Pool {
	t.Helper()
	p, e := pool.New(d, frames)
	if e != api.OK || p == nil {
		t.Fatalf("pool.New of %d: %v, %d", frames, p, e)
	}
	return p
}

// lay makes a file of these pages on a disk; it lasts.
func lay(t *testing.T, d *disk.Disk, name string, texts ...[]byte) {
	t.Helper()
	fine(t, d.Create(name), d.Write(name, 0, fileOf(name, texts...)), d.Sync(name))
}

// laid is a disk with a file "x" of edges, which lasts.
func laid(t *testing.T, l []api.Edge) *disk.Disk {
	t.Helper()
	d := newDisk(t, mostRoom)
	lay(t, d, "x", textsOf(l)...)
	return d
}

// layGen makes the files of a generation on a disk, as the chapter says them; they last.
func layGen(t *testing.T, d *disk.Disk, gen int, l []api.Edge, verts []api.Vert) {
	t.Helper()
	lay(t, d, names(gen)[0], textsOf(counted(l))...)
	lay(t, d, names(gen)[1], textsOf(turned(counted(l)))...)
	lay(t, d, names(gen)[2], vertTextsOf(verts)...)
}

// added is a file "x" of edges that are added one by one, through a pool that need not let the disk have them.
func added(t *testing.T, p *pool.Pool, l []api.Edge) {
	t.Helper()
	fine(t, p.Create("x"))
	s, e := stream.Open(p, "x", edgeSize)
	fine(t, e)
	for _, x := range l {
		fine(t, s.Add(textsOf([]api.Edge{x})[0]))
	}
}

// open is a graph that must be there.
func open(t *testing.T, p *pool.Pool, gen int) *store.Graph {
	t.Helper()
	g, e := store.Open(p, gen)
	if e != api.OK || g == nil {
		t.Fatalf("Open of %d: %v, %d", gen, g, e)
	}
	return g
}

// isNoGraph says that Open must answer an error.
func isNoGraph(t *testing.T, what string, p *pool.Pool, gen int, want api.Errno) {
	t.Helper()
	if g, e := store.Open(p, gen); g != nil || e != want {
		t.Fatalf("%s: Open of %d: %v, %d; want %d", what, gen, g, e, want)
	}
}

// fine are errors that must be none.
func fine(t *testing.T, l ...api.Errno) {
	t.Helper()
	for i, e := range l {
		if e != api.OK {
			t.Fatalf("call %d: %d", i, e)
		}
	}
}

// is holds an error against what it must be.
func is(t *testing.T, what string, got, want api.Errno) {
	t.Helper()
	if got != want {
		t.Fatalf("%s: %d; want %d", what, got, want)
	}
}

// hasFiles says which files there must be.
func hasFiles(t *testing.T, d *disk.Disk, want ...string) {
	t.Helper()
	slices.Sort(want)
	if got := d.Names(); !slices.Equal(got, want) {
		t.Fatalf("files: %q; want %q", got, want)
	}
}

// lies holds a file's bytes on the disk against the pages that it must have.
func lies(t *testing.T, d *disk.Disk, name string, texts [][]byte) {
	t.Helper()
	b, e := d.Read(name, 0, mostSize)
	if want := fileOf(name, texts...); !bytes.Equal(b, want) || e != api.OK {
		t.Fatalf("%s on the disk: %d bytes, %d; want %d, or other ones", name, len(b), e, len(want))
	}
}

// holds holds a file's pages, as the pool has them, against those that it must have.
func holds(t *testing.T, p *pool.Pool, name string, texts [][]byte) {
	t.Helper()
	if n, e := p.Pages(name); n != len(texts) || e != api.OK {
		t.Fatalf("Pages of %s: %d, %d; want %d", name, n, e, len(texts))
	}
	for k, want := range texts {
		if b, e := p.Read(name, k); !bytes.Equal(b, want) || e != api.OK {
			t.Fatalf("page %d of %s: % x, %d; want % x", k, name, b, e, want)
		}
	}
}

// lieAll holds the files of a generation on the disk against what the chapter says of edges and vertices.
func lieAll(t *testing.T, d *disk.Disk, gen int, l []api.Edge, verts []api.Vert) {
	t.Helper()
	lies(t, d, names(gen)[0], textsOf(counted(l)))
	lies(t, d, names(gen)[1], textsOf(turned(counted(l))))
	lies(t, d, names(gen)[2], vertTextsOf(verts))
}

// isDone says that nothing of Make is left to be done, and that it pinned nothing.
func isDone(t *testing.T, p *pool.Pool) {
	t.Helper()
	resident, pinned, dirty := p.Held()
	if most, pins := p.Peak(); pinned != 0 || dirty != 0 || pins != 0 || most > p.Frames() || resident > most {
		t.Fatalf("%d frames: Held: %d %d %d; Peak: %d %d", p.Frames(), resident, pinned, dirty, most, pins)
	}
	if l := p.Disk().Loose(); len(l) != 0 {
		t.Fatalf("%d sectors are loose", len(l))
	}
}

// isEdges holds edges that were told against those that must be.
func isEdges(t *testing.T, what string, got []api.Edge, e api.Errno, want ...api.Edge) {
	t.Helper()
	if !slices.Equal(got, want) || e != api.OK {
		t.Fatalf("%s: %v, %d; want %v", what, got, e, want)
	}
}

// isGraph asks a graph all that it can be asked, and holds it against edges and vertices.
func isGraph(t *testing.T, g *store.Graph, l []api.Edge, verts []api.Vert) {
	t.Helper()
	if n := g.Size(); n != len(verts) {
		t.Fatalf("Size: %d; want %d", n, len(verts))
	}
	l = counted(l)
	outs, ins := outOf(l), into(l)
	for v := range uint32(len(verts)) {
		out, e := g.Out(v)
		isEdges(t, "Out of "+strconv.Itoa(int(v)), out, e, outs[v]...)
		in, e := g.In(v)
		isEdges(t, "In of "+strconv.Itoa(int(v)), in, e, ins[v]...)
		if x, e := g.Vert(v); x != verts[v] || e != api.OK {
			t.Fatalf("Vert of %d: %v, %d; want %v", v, x, e, verts[v])
		}
	}
	if n, e := g.Edges(); n != len(l) || e != api.OK {
		t.Fatalf("Edges: %d, %d; want %d", n, e, len(l))
	}
	for i, want := range l {
		if x, e := g.Edge(i); x != want || e != api.OK {
			t.Fatalf("Edge of %d: %v, %d; want %v", i, x, e, want)
		}
	}
	isNoVert(t, g, uint32(len(verts)), api.ErrVertex)
	isNoEdge(t, g, len(l), api.ErrNone)
	isNoEdge(t, g, -1, api.ErrArg)
}

// isNoVert says that nothing must be told of a vertex.
func isNoVert(t *testing.T, g *store.Graph, v uint32, want api.Errno) {
	t.Helper()
	if l, e := g.Out(v); len(l) != 0 || e != want {
		t.Fatalf("Out of %d: %v, %d; want %d", v, l, e, want)
	}
	if l, e := g.In(v); len(l) != 0 || e != want {
		t.Fatalf("In of %d: %v, %d; want %d", v, l, e, want)
	}
	if x, e := g.Vert(v); x != (api.Vert{}) || e != want {
		t.Fatalf("Vert of %d: %v, %d; want %d", v, x, e, want)
	}
}

// isNoEdge says that an edge must not be told.
func isNoEdge(t *testing.T, g *store.Graph, i int, want api.Errno) {
	t.Helper()
	if x, e := g.Edge(i); x != (api.Edge{}) || e != want {
		t.Fatalf("Edge of %d: %v, %d; want %d", i, x, e, want)
	}
}

// makes makes a generation by so many frames, and says what must come of it.
func makes(t *testing.T, gen int, l []api.Edge, verts []api.Vert, frames int) {
	t.Helper()
	d := laid(t, l)
	p := newPool(t, d, frames)
	is(t, "Make", store.Make(p, "x", gen, verts), api.OK)
	isDone(t, p)
	isGraph(t, open(t, p, gen), l, verts)
	for range 2 { // at once, and behind a loss of power
		hasFiles(t, d, append(names(gen), "x")...)
		lies(t, d, "x", textsOf(l))
		lieAll(t, d, gen, l, verts)
		lose(t, d)
		fine(t, d.On(nil))
	}
	isGraph(t, open(t, newPool(t, d, 1), gen), l, verts)
}

// lose lets the power go.
func lose(t *testing.T, d *disk.Disk) {
	t.Helper()
	fine(t, d.Arm(1))
	is(t, "Sync", d.Sync("x"), api.ErrDead)
}

// sameFiles says whether files are the same, byte for byte.
func sameFiles(a, b []api.File) bool {
	return slices.EqualFunc(a, b, func(f, g api.File) bool { return f.Name == g.Name && bytes.Equal(f.Bytes, g.Bytes) })
}

// isUnturned says that calls must change neither the disk nor what is pinned or dirty.
func isUnturned(t *testing.T, what string, p *pool.Pool, calls func()) {
	t.Helper()
	d := p.Disk()
	files, loose := d.Files(), d.Loose()
	_, pinned, dirty := p.Held()
	calls()
	if !sameFiles(d.Files(), files) || !slices.Equal(d.Loose(), loose) {
		t.Fatalf("%s: another disk: %q", what, d.Names())
	}
	if _, x, y := p.Held(); x != pinned || y != dirty {
		t.Fatalf("%s: Held: %d %d; want %d %d", what, x, y, pinned, dirty)
	}
}

// refused says that Make must answer an error, and that no file is there, or is turned, for that.
func refused(t *testing.T, what string, p *pool.Pool, raw string, gen int, verts []api.Vert, want api.Errno) {
	t.Helper()
	isUnturned(t, what, p, func() {
		t.Helper()
		is(t, what+": Make of "+raw+" to "+strconv.Itoa(gen), store.Make(p, raw, gen, verts), want)
	})
}

// pinAll lets so many frames of a pool be pinned by pages of a file "other" that is made for it.
func pinAll(t *testing.T, p *pool.Pool, pins int) {
	t.Helper()
	lay(t, p.Disk(), "other", make([][]byte, pins)...)
	for k := range pins {
		if _, e := p.Pin("other", k); e != api.OK {
			t.Fatalf("Pin of %d: %d", k, e)
		}
	}
}

// wrongGens are numbers that are no generations.
func wrongGens() []int {
	return []int{-1, -2, -10, -mostGen, math.MinInt32, math.MinInt + 1, math.MinInt, mostGen + 1, mostGen + 2, 1 << 21, 1 << 32, 1<<32 + 1, math.MaxInt - 1, math.MaxInt}
}

// gens are generations: the first ones, some between, the last ones.
func gens() []int { return []int{0, 1, 2, 9, 10, 99, 100, 65536, mostGen - 1, mostGen} }

// wrongNames are texts that are no names.
func wrongNames() []string {
	return []string{"", "A", "aA", "a/b", "a b", "e_0", "E.0", "\x00", "\xff", "é", strings.Repeat("a", 25)}
}

// random are numbers that are the same at each run.
type random uint64

// below is the next number, from 0 on and below n.
func (r *random) below(n int) int {
	*r = *r*6364136223846793005 + 1442695040888963407
	return int(uint64(*r) >> 33 % uint64(n))
}

// edges are the next n, of so many vertices and weights, by few middles or none.
func (r *random) edges(n, verts, weights int) []api.Edge {
	var l []api.Edge
	for range n {
		x := edge(uint32(r.below(verts)), uint32(r.below(verts)), uint64(r.below(weights)))
		if r.below(2) == 0 {
			x.Mid = uint32(r.below(3))
		}
		l = append(l, x)
	}
	return l
}

// verts are the next n.
func (r *random) verts(n int) []api.Vert {
	var l []api.Vert
	for range n {
		l = append(l, api.Vert{Rank: uint32(r.below(1 << 30)), Level: uint32(r.below(9)), Gone: uint32(r.below(9))})
	}
	return l
}

// upTo are the numbers from 0 on and below n.
func upTo(n int) []int {
	var l []int
	for i := range n {
		l = append(l, i)
	}
	return l
}
