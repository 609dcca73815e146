package store_test

import (
	"fmt"
	"math"
	"math/big"
	"slices"
	"strconv"
	"testing"

	"milepost/api"
	"milepost/octet"
	"milepost/pool"
	"milepost/store"
	"milepost/stream"
)

func TestLimits(t *testing.T) { // Words
	if api.Bmin != fewest || api.MaxB != mostFrames || api.Page != pageSize || api.MaxSize != mostSize || api.None != none {
		t.Error("package api has other limits than the chapters")
	}
	if api.Room/edgeSize != perPage || api.Room/vertSize != vertsPerPage {
		t.Error("a page has room for other numbers of records")
	}
}

func TestExamples(t *testing.T) { // the chapter's
	l := []api.Edge{edge(0, 1, 5), edge(2, 0, 1), edge(0, 2, 7)}
	verts := []api.Vert{{Rank: none}, {Rank: 3, Level: 1, Gone: 2}, {Rank: none, Level: 7}}
	p := newPool(t, laid(t, l), fewest)
	fine(t, store.Make(p, "x", 0, verts))
	g := open(t, p, 0)
	if n := g.Size(); n != 3 {
		t.Errorf("Size: %d", n)
	}
	out, e := g.Out(0)
	isEdges(t, "Out of 0", out, e, edge(0, 1, 5), edge(0, 2, 7))
	in, e := g.In(0)
	isEdges(t, "In of 0", in, e, edge(2, 0, 1))
	out, e = g.Out(1)
	isEdges(t, "Out of 1", out, e)
	isNoVert(t, g, 3, api.ErrVertex)
	if n, e := g.Edges(); n != 3 || e != api.OK {
		t.Errorf("Edges: %d, %d", n, e)
	}
	if x, e := g.Edge(2); x != edge(2, 0, 1) || e != api.OK {
		t.Errorf("Edge of 2: %v, %d", x, e)
	}
	hasFiles(t, p.Disk(), "e.0", "r.0", "v.0", "x")
}

// P13.1: Name.

func TestNames(t *testing.T) { // P13.1: told one by one
	for _, test := range []struct {
		kind byte
		gen  int
		want string
	}{
		{'e', 0, "e.0"}, {'r', 0, "r.0"}, {'v', 0, "v.0"}, {'u', 1, "u.1"}, {'d', 9, "d.9"}, {'x', 10, "x.10"}, {'f', 99, "f.99"},
		{'b', 100, "b.100"}, {'e', 1234567890, "e.1234567890"}, {'r', 1 << 20, "r.1048576"}, {'v', 1<<20 + 1, "v.1048577"},
		{'e', 1 << 32, "e.4294967296"}, {'e', math.MaxInt64, "e.9223372036854775807"},
		{'e', -1, ""}, {'r', -10, ""}, {'v', -1 << 20, ""}, {'e', -1 << 32, ""}, {'e', math.MinInt64 + 1, ""}, {'e', math.MinInt64, ""},
	} {
		if got := store.Name(test.kind, test.gen); got != test.want {
			t.Errorf("Name of %q, %d: %q; want %q", test.kind, test.gen, got, test.want)
		}
	}
}

func TestNamesOfAllKinds(t *testing.T) { // P13.1, R6: whatever the kind and the number
	numbers := append(upTo(1200), gens()...)
	for n := math.MaxInt; n > 0; n /= 3 {
		numbers = append(numbers, n)
	}
	for kind := range 256 {
		for _, n := range numbers {
			want := append([]byte{byte(kind), '.'}, big.NewInt(int64(n)).String()...)
			if got := store.Name(byte(kind), n); got != string(want) {
				t.Fatalf("Name of kind %d, %d: %q; want %q", kind, n, got, want)
			}
			if got := store.Name(byte(kind), -n-1); got != "" {
				t.Fatalf("Name of kind %d, %d: %q; want none", kind, -n-1, got)
			}
		}
	}
}

// P13.1: Make; and all that is asked then.

func TestAllGenerations(t *testing.T) { // P13.1, P13.2: the first one, the last one
	for _, gen := range gens() {
		makes(t, gen, ring(7, 3), vertsOf(7), fewest)
	}
}

func TestNumbersOfVertices(t *testing.T) { // P13.1 to P13.4: none, one, as many as fill pages, one fewer and one more
	for _, n := range []int{0, 1, 2, vertsPerPage - 1, vertsPerPage, vertsPerPage + 1, 2*vertsPerPage - 1, 2 * vertsPerPage, 2*vertsPerPage + 1, 333} {
		for next := range 3 {
			makes(t, 3, ring(n, next), vertsOf(n), fewest)
		}
	}
}

// rows are edges of all the kinds that are made a graph of, n of each, whose ends are below 50.
func rows(n int) map[string][]api.Edge {
	m := map[string][]api.Edge{}
	for i := range n {
		v := uint32(i % 50)
		m["loops alone"] = append(m["loops alone"], edge(v, v, uint64(i)))
		m["of one pair, the best one first"] = append(m["of one pair, the best one first"], edge(1, 2, uint64(i)))
		m["of one pair, the best one last"] = append(m["of one pair, the best one last"], edge(2, 1, uint64(n-i)))
		m["there and back"] = append(m["there and back"], edge(uint32(3+i%2), uint32(4-i%2), uint64(i)))
		m["out of one"] = append(m["out of one"], edge(20, v, uint64(i)))
		m["out of the first"] = append(m["out of the first"], edge(0, v, uint64(n-i)))
		m["out of the last"] = append(m["out of the last"], edge(49, v, 3))
		m["into one"] = append(m["into one"], edge(49-v, 20, 0))
		m["into the first"] = append(m["into the first"], edge(v, 0, uint64(i)))
		m["into the last"] = append(m["into the last"], edge(v, 49, uint64(n-i)))
		m["in order"] = append(m["in order"], edge(uint32(i/49%50), uint32(i%49), 1))
		m["turned round"] = append(m["turned round"], edge(49-uint32(i/49%50), 49-v, 1))
	}
	r := random(n)
	m["of many pairs"] = r.edges(n, 50, 5)
	m["of few pairs"] = r.edges(n, 4, 5)
	return m
}

func TestRowsOfEdges(t *testing.T) { // P13.1 to P13.5: no edges, one, loops alone, of one pair, as many as fill pages, one fewer and one more
	for _, n := range []int{0, 1, 2, perPage - 1, perPage, perPage + 1, 2*perPage - 1, 2 * perPage, 2*perPage + 1, 49, 150, 700} {
		for what, l := range rows(max(n, 1)) {
			t.Run(fmt.Sprintf("%s/%d edges", what, n), func(t *testing.T) {
				makes(t, n, l[:n], vertsOf(50), fewest+n%2)
			})
		}
	}
}

func TestEdgesOfAVertex(t *testing.T) { // P13.3: as many as there can be, beginning and ending at any place of a page
	for ahead := range 14 {
		for _, n := range []int{0, 1, 2, 11, 12, 13, 23, 24, 25} {
			for behind := range 2 {
				var l []api.Edge
				for i := range uint32(ahead) {
					l = append(l, edge(1, 40+i, 1), edge(40+i, 1, 2))
				}
				for i := range uint32(n) {
					l = append(l, edge(2, 40+i, 3), edge(40+i, 2, 4))
				}
				for i := range uint32(behind) {
					l = append(l, edge(3, 40+i, 5), edge(40+i, 3, 6))
				}
				d := newDisk(t, mostRoom)
				layGen(t, d, 0, l, vertsOf(70))
				isGraph(t, open(t, newPool(t, d, 1), 0), l, vertsOf(70))
			}
		}
	}
}

func TestBothOrdersToldOneByOne(t *testing.T) { // P13.1: without the model: e by tails and then by heads, r by heads and then by tails
	a, b, c, d := edge(1, 4, 9), edge(1, 5, 8), edge(2, 4, 7), edge(3, 1, 6)
	worse := api.Edge{Tail: 2, Head: 4, Weight: 7, Mid: 0}
	p := newPool(t, laid(t, []api.Edge{d, worse, c, edge(4, 4, 0), b, a, worse}), fewest)
	fine(t, store.Make(p, "x", 5, vertsOf(6)))
	lies(t, p.Disk(), "e.5", textsOf([]api.Edge{a, b, c, d}))
	lies(t, p.Disk(), "r.5", textsOf([]api.Edge{d, a, c, b}))
	g := open(t, p, 5)
	out, e := g.Out(1)
	isEdges(t, "Out of 1", out, e, a, b)
	in, e := g.In(4)
	isEdges(t, "In of 4", in, e, a, c)
	out, e = g.Out(4)
	isEdges(t, "Out of 4", out, e)
	in, e = g.In(1)
	isEdges(t, "In of 1", in, e, d)
}

func TestNumbersAtTheEndsOfTheirRanges(t *testing.T) { // P13.1, P13.3, P13.4: what is kept and the weights as they are; edges of vertices that are not there are told by their places alone
	ends := []uint32{0, 1, 2, 1<<31 - 1, 1 << 31, none - 1, none}
	weights := []uint64{0, 1, 1<<32 - 1, 1 << 32, 1<<63 - 1, 1 << 63, math.MaxUint64}
	var l []api.Edge
	for i, tail := range ends {
		for j, head := range ends {
			l = append(l, api.Edge{Tail: tail, Head: head, Weight: weights[(i+j)%7], Mid: ends[6-i]})
		}
	}
	verts := []api.Vert{{Rank: none, Level: none, Gone: none}, {}, {Rank: 1 << 31, Level: 1, Gone: 1<<31 - 1}}
	for n := range len(verts) + 1 {
		makes(t, 0, l, verts[:n], fewest)
	}
}

func TestManyEdges(t *testing.T) { // P13.1 to P13.5: more than the frames hold, and so many that runs are merged more than once
	r := random(7)
	makes(t, 1, ring(400, 4), vertsOf(400), fewest)
	makes(t, 2, r.edges(3000, 60, 50), vertsOf(60), fewest)
	makes(t, 3, r.edges(9000, 700, 50), vertsOf(700), fewest+1)
	makes(t, 4, r.edges(9000, 700, 50), vertsOf(1000), 300)
}

func TestManyVertices(t *testing.T) { // P13.1, P13.2: as many as a file holds, and one more
	t.Parallel()
	n := mostSize / pageSize * vertsPerPage
	verts := vertsOf(n + 1)
	p := newPool(t, laid(t, ring(3, 1)), mostFrames)
	fine(t, store.Make(p, "x", 0, verts[:n]))
	g := open(t, p, 0)
	if g.Size() != n {
		t.Errorf("Size: %d; want %d", g.Size(), n)
	}
	for _, v := range []uint32{0, 19, 20, uint32(n) / 2, uint32(n) - 1} {
		if x, e := g.Vert(v); x != verts[v] || e != api.OK {
			t.Errorf("Vert of %d: %v, %d", v, x, e)
		}
	}
	isNoVert(t, g, uint32(n), api.ErrVertex)
	refused(t, "one more", p, "x", 1, verts, api.ErrMany)
}

func TestRandomGraphs(t *testing.T) { // P13.1 to P13.5: of all kinds, over any frames
	r := random(1)
	for range 200 {
		verts := r.verts(r.below(90))
		makes(t, r.below(mostGen+1), r.edges(r.below(900), 1+r.below(90), 1+r.below(9)), verts, fewest+r.below(12))
	}
}

func TestAnyFrames(t *testing.T) { // P13.1, W2: the files have the same bytes
	r := random(2)
	l, verts := r.edges(1500, 70, 9), r.verts(70)
	var want []api.File
	for _, frames := range []int{8, 9, 10, 16, 33, 125, mostFrames} {
		d := laid(t, l)
		fine(t, store.Make(newPool(t, d, frames), "x", 0, verts))
		if want == nil {
			want = d.Files()
		}
		if !sameFiles(d.Files(), want) {
			t.Fatalf("%d frames: other bytes", frames)
		}
	}
}

func TestRawThatTheDiskDoesNotHave(t *testing.T) { // P13.1: what frames hold of it counts, and stays
	for _, frames := range []int{fewest, 40, mostFrames} {
		for _, n := range []int{0, 1, 5, 90, 300} {
			l := ring(n, 2)
			p := newPool(t, newDisk(t, mostRoom), frames)
			added(t, p, l)
			fine(t, store.Make(p, "x", 2, vertsOf(n)))
			holds(t, p, "x", textsOf(l))
			lose(t, p.Disk())
			fine(t, p.Disk().On(nil))
			lieAll(t, p.Disk(), 2, l, vertsOf(n))
			isGraph(t, open(t, newPool(t, p.Disk(), 3), 2), l, vertsOf(n))
		}
	}
}

func TestGenerationsSideBySide(t *testing.T) { // P13.1: of one raw file and of more, each with files of its own; those of one may be raw for another
	l, verts := ring(40, 3), vertsOf(40)
	d := laid(t, l)
	lay(t, d, "y", textsOf(ring(9, 1))...)
	p := newPool(t, d, fewest)
	fine(t, store.Make(p, "x", 0, verts), store.Make(p, "y", 1, verts[:9]), store.Make(p, "x", 10, verts[:30]), store.Make(p, "r.0", 100, verts), store.Make(p, "e.1", 11, nil))
	var graphs []*store.Graph
	for _, gen := range []int{0, 1, 10, 100, 11} {
		graphs = append(graphs, open(t, p, gen))
	}
	for range 2 {
		isGraph(t, graphs[0], l, verts)
		isGraph(t, graphs[1], ring(9, 1), verts[:9])
		isGraph(t, graphs[2], l, verts[:30])
		isGraph(t, graphs[3], l, verts)
		isGraph(t, graphs[4], ring(9, 1), nil)
	}
	hasFiles(t, d, append(slices.Concat(names(0), names(1), names(10), names(100), names(11)), "x", "y")...)
}

func TestOtherFiles(t *testing.T) { // P13.1: nothing is done to them, whatever frames hold of them
	l, others := ring(80, 3), textsOf(ring(30, 2))
	for _, frames := range []int{fewest, 12, 100} {
		d := laid(t, l)
		p := newPool(t, d, frames)
		for _, name := range []string{"u.0", "e", "e.00", "v.1", "e.0.", "t"} {
			lay(t, d, name, others...)
		}
		fine(t, p.Write("u.0", 1, others[3]), store.Make(p, "x", 0, vertsOf(80)))
		holds(t, p, "u.0", slices.Concat(others[:1], others[3:4], others[2:]))
		for _, name := range []string{"e", "e.00", "v.1", "e.0.", "t"} {
			lies(t, d, name, others)
		}
		hasFiles(t, d, append(names(0), "e", "e.0.", "e.00", "t", "u.0", "v.1", "x")...)
	}
}

// P13.2 to P13.5: what is asked.

func TestOpenOfLaidFiles(t *testing.T) { // P13.2 to P13.4: whoever wrote them, and however few frames there are
	l, verts := ring(45, 5), vertsOf(45)
	for _, gen := range gens() {
		d := newDisk(t, mostRoom)
		layGen(t, d, gen, l, verts)
		for frames := 1; frames <= fewest+1; frames++ {
			p := newPool(t, d, frames)
			isGraph(t, open(t, p, gen), l, verts)
			isDone(t, p)
		}
	}
}

func TestVerticesThatAreNotThere(t *testing.T) { // P13.3, P13.4: Size, and all above
	for _, n := range []int{0, 1, 3, 20, 21, 40} {
		l := append(ring(n, 2), edge(uint32(n), 1000, 1), edge(1000, uint32(n), 2), edge(none, none-1, 3), edge(none-1, none, 4))
		d := newDisk(t, mostRoom)
		layGen(t, d, 0, l, vertsOf(n))
		g := open(t, newPool(t, d, 2), 0)
		isGraph(t, g, l, vertsOf(n))
		for _, v := range []uint32{uint32(n), uint32(n) + 1, 1000, 1 << 16, 1<<31 - 1, 1 << 31, none - 1, none} {
			isNoVert(t, g, v, api.ErrVertex)
		}
	}
}

func TestEdgesThatAreNotThere(t *testing.T) { // P13.4: behind the last one, and below 0
	for _, n := range []int{0, 1, 6, 12, 13} {
		d := newDisk(t, mostRoom)
		layGen(t, d, 0, ring(n, 2), vertsOf(n))
		g := open(t, newPool(t, d, 2), 0)
		count := len(counted(ring(n, 2)))
		for _, i := range []int{count, count + 1, count + 12, 1 << 16, 1 << 32, 1<<32 + 1, math.MaxInt - 1, math.MaxInt} {
			isNoEdge(t, g, i, api.ErrNone)
		}
		for _, i := range []int{-1, -2, -12, -20, math.MinInt32, math.MinInt64 + 1, math.MinInt64} {
			isNoEdge(t, g, i, api.ErrArg)
		}
	}
}

func TestEachEdgeOnceEachWay(t *testing.T) { // P13.5: told without the model
	r := random(9)
	for range 60 {
		n := 1 + r.below(40)
		p := newPool(t, laid(t, r.edges(r.below(600), n, 9)), fewest)
		fine(t, store.Make(p, "x", 0, vertsOf(n)))
		g := open(t, p, 0)
		out, in := map[api.Edge]int{}, map[api.Edge]int{}
		for v := range uint32(n) {
			l, e := g.Out(v)
			fine(t, e)
			for i, x := range l {
				if out[x]++; x.Tail != v || i > 0 && l[i-1].Head >= x.Head {
					t.Fatalf("Out of %d: %v", v, l)
				}
			}
			l, e = g.In(v)
			fine(t, e)
			for i, x := range l {
				if in[x]++; x.Head != v || i > 0 && l[i-1].Tail >= x.Tail {
					t.Fatalf("In of %d: %v", v, l)
				}
			}
		}
		count, e := g.Edges()
		if fine(t, e); len(out) != count || len(in) != count {
			t.Fatalf("%d edges, %d out, %d in", count, len(out), len(in))
		}
		for i := range count {
			if x, e := g.Edge(i); out[x] != 1 || in[x] != 1 || e != api.OK {
				t.Fatalf("edge %d, %v: %d times out, %d times in; %d", i, x, out[x], in[x], e)
			}
		}
	}
}

func TestAskingTurnsNothing(t *testing.T) { // P13.5: no file, and nothing that is loose or dirty, stands otherwise for it
	l, verts := ring(60, 4), vertsOf(60)
	for _, frames := range []int{1, 2, fewest, 200} {
		d := laid(t, l)
		fine(t, store.Make(newPool(t, d, fewest), "x", 0, verts))
		p := newPool(t, d, frames)
		fine(t, d.Create("loose"), d.Write("loose", 0, []byte{1, 2, 3}))
		files, loose, used := d.Files(), d.Loose(), d.Used()
		g := open(t, p, 0)
		for range 2 {
			isGraph(t, g, l, verts)
		}
		if !sameFiles(d.Files(), files) || !slices.Equal(d.Loose(), loose) || d.Used() != used {
			t.Fatalf("%d frames: another disk", frames)
		}
		if _, pinned, dirty := p.Held(); pinned != 0 || dirty != 0 {
			t.Fatalf("%d frames: %d pinned, %d dirty", frames, pinned, dirty)
		}
		fine(t, d.Arm(1)) // no operation: the power stays on
		isGraph(t, open(t, newPool(t, d, 1), 0), l, verts)
		if d.Dead() {
			t.Fatal("the power is off")
		}
	}
}

func TestPagesThatTheDiskDoesNotHave(t *testing.T) { // P13.2 to P13.4: what frames hold of the files counts
	p := newPool(t, laid(t, ring(20, 1)), 30)
	fine(t, store.Make(p, "x", 0, vertsOf(20)))
	l := append(ring(20, 1), edge(19, 50, 4))
	add(t, p, "e.0", edgeSize, octet.Edge(edge(19, 50, 4)))
	g := open(t, p, 0)
	out, e := g.Out(19)
	isEdges(t, "Out of 19", out, e, outOf(l)[19]...)
	if n, e := g.Edges(); n != 21 || e != api.OK {
		t.Errorf("Edges: %d, %d", n, e)
	}
	add(t, p, "v.0", vertSize, octet.Vert(api.Vert{Rank: 8}))
	if n := open(t, p, 0).Size(); n != 21 {
		t.Errorf("Size: %d", n)
	}
	if n := g.Size(); n != 20 { // as it was when the graph was opened
		t.Errorf("Size: %d", n)
	}
	isNoVert(t, g, 20, api.ErrVertex)
}

// add adds a record to a file.
func add(t *testing.T, p *pool.Pool, name string, size int, rec []byte) {
	t.Helper()
	s, e := stream.Open(p, name, size)
	fine(t, e, s.Add(rec))
}

// R3, R5.

func TestWhatIsHandedInAndAnswered(t *testing.T) { // R3: nothing is changed or kept, and all is new memory
	room := vertsOf(30)
	verts := room[:25]
	l := ring(25, 5)
	p := newPool(t, laid(t, l), mostFrames)
	fine(t, store.Make(p, "x", 0, verts))
	if !slices.Equal(room, vertsOf(30)) {
		t.Error("what was handed in is changed")
	}
	clear(room)
	g := open(t, p, 0)
	isGraph(t, g, l, vertsOf(25))
	for v := range uint32(25) {
		for _, ask := range []func(uint32) ([]api.Edge, api.Errno){g.Out, g.In} {
			a, _ := ask(v)
			b, _ := ask(v)
			clear(a[:cap(a)])
			if slices.Contains(b, api.Edge{}) {
				t.Fatalf("%d: two answers share memory", v)
			}
		}
	}
	isGraph(t, g, l, vertsOf(25))
}

func TestNilAndEmptyLists(t *testing.T) { // R3: they are the same
	for _, verts := range [][]api.Vert{nil, {}, vertsOf(3)[:0]} {
		makes(t, 0, nil, verts, fewest)
		makes(t, 0, ring(20, 2), verts, fewest)
	}
}

func TestSameCallsSameAnswers(t *testing.T) { // R5: whatever was asked ahead, by whichever graph of the same files
	l, verts := ring(30, 4), vertsOf(30)
	d := newDisk(t, mostRoom)
	layGen(t, d, 7, l, verts)
	p := newPool(t, d, 2)
	a, b := open(t, p, 7), open(t, p, 7)
	outs, ins := outOf(l), into(l)
	r := random(3)
	for range 3000 {
		g := a
		if r.below(2) == 0 {
			g = b
		}
		v := uint32(r.below(30))
		switch r.below(4) {
		case 0:
			got, e := g.Out(v)
			isEdges(t, "Out of "+strconv.Itoa(int(v)), got, e, outs[v]...)
		case 1:
			got, e := g.In(v)
			isEdges(t, "In of "+strconv.Itoa(int(v)), got, e, ins[v]...)
		case 2:
			if x, e := g.Vert(v); x != verts[v] || e != api.OK {
				t.Fatalf("Vert of %d: %v, %d", v, x, e)
			}
		case 3:
			i := r.below(len(counted(l)))
			if x, e := g.Edge(i); x != counted(l)[i] || e != api.OK {
				t.Fatalf("Edge of %d: %v, %d", i, x, e)
			}
		}
	}
}
