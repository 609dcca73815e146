package store_test

import (
	"bytes"
	"fmt"
	"math"
	"slices"
	"strings"
	"testing"

	"milepost/api"
	"milepost/pool"
	"milepost/store"
)

// What may not be handed in, what is wrong with files, and frames that others hold.

func TestNoPool(t *testing.T) { // Errors, P13.1, P13.2: ahead of all else
	for _, gen := range append(wrongGens(), gens()...) {
		for _, raw := range append(wrongNames(), "x", "t.0", "e.0") {
			is(t, "Make", store.Make(nil, raw, gen, vertsOf(3)), api.ErrNil)
		}
		isNoGraph(t, "no pool", nil, gen, api.ErrNil)
	}
}

func TestNoGraph(t *testing.T) { // Errors, P13.2: all its methods
	var g *store.Graph
	if n := g.Size(); n != 0 {
		t.Errorf("Size: %d", n)
	}
	if n, e := g.Edges(); n != 0 || e != api.ErrNil {
		t.Errorf("Edges: %d, %d", n, e)
	}
	for _, v := range []uint32{0, 1, 1 << 31, none - 1, none} {
		isNoVert(t, g, v, api.ErrNil)
	}
	for _, i := range []int{0, 1, -1, math.MinInt, math.MaxInt} {
		isNoEdge(t, g, i, api.ErrNil)
	}
}

func TestWrongGenerations(t *testing.T) { // P13.1, P13.2: whatever the files are
	d := laid(t, ring(9, 2))
	layGen(t, d, 0, ring(9, 2), vertsOf(9))
	for frames := 1; frames <= fewest; frames++ {
		p := newPool(t, d, frames)
		for _, gen := range wrongGens() {
			for _, raw := range append(wrongNames(), "x", "z", "t.0") {
				refused(t, "no generation", p, raw, gen, vertsOf(9), api.ErrArg)
			}
			isNoGraph(t, "no generation", p, gen, api.ErrArg)
		}
	}
	// Without power too; else ErrDead would be told.
	p := newPool(t, d, fewest)
	lose(t, d)
	for _, gen := range wrongGens() {
		is(t, "Make", store.Make(p, "x", gen, nil), api.ErrArg)
		isNoGraph(t, "no generation, no power", p, gen, api.ErrArg)
	}
}

func TestFileNamesThatLookLikeGenerations(t *testing.T) { // Words: a file of what is no generation is none of any
	d := laid(t, ring(9, 2))
	for _, n := range []string{"-1", "1048577", "", "00", "0.0"} {
		for _, kind := range []string{"e.", "r.", "v."} {
			lay(t, d, kind+n)
		}
	}
	p := newPool(t, d, fewest)
	for _, gen := range []int{-1, mostGen + 1} {
		isNoGraph(t, "no generation", p, gen, api.ErrArg)
	}
	isNoGraph(t, "nothing made", p, 0, api.ErrNone)
	fine(t, store.Make(p, "x", 0, vertsOf(9)))
	isGraph(t, open(t, p, 0), ring(9, 2), vertsOf(9))
}

// P13.1: the errors of Make.

func TestTooFewFrames(t *testing.T) { // P13.1: the error of extsort.Sort
	for frames := 1; frames < fewest; frames++ {
		p := newPool(t, laid(t, ring(9, 2)), frames)
		refused(t, fmt.Sprintf("%d frames", frames), p, "x", 0, vertsOf(9), api.ErrArg)
		refused(t, fmt.Sprintf("%d frames, raw is not there", frames), p, "z", 0, nil, api.ErrArg)
	}
	makes(t, 0, ring(9, 2), vertsOf(9), fewest)
}

func TestRawThatIsNotThere(t *testing.T) { // P13.1: or may not be
	p := newPool(t, laid(t, ring(9, 2)), fewest)
	for _, raw := range []string{"z", "xx", "e.1", "r.1", "v.1", strings.Repeat("z", 24)} {
		refused(t, "not there", p, raw, 0, vertsOf(9), api.ErrNone)
	}
	for _, raw := range append(wrongNames(), "t.", "t.0", "t.x") {
		refused(t, "no name", p, raw, 0, vertsOf(9), api.ErrArg)
	}
}

func TestRawThatIsOneOfItsOwnFiles(t *testing.T) { // P13.1: it is as it was, and what was made ahead is gone
	l := ring(40, 3)
	for _, gen := range gens() {
		for i, want := range []api.Errno{api.ErrArg, api.ErrArg, api.ErrThere} {
			raw := names(gen)[i]
			d := newDisk(t, mostRoom)
			p := newPool(t, d, fewest)
			refused(t, "not there", p, raw, gen, vertsOf(40), []api.Errno{api.ErrArg, api.ErrNone, api.ErrNone}[i])
			lay(t, d, raw, textsOf(l)...)
			refused(t, "one of its own", p, raw, gen, vertsOf(40), want)
			refused(t, "one of its own", p, raw, gen, nil, want)
			fine(t, store.Make(p, raw, (gen+1)%mostGen, vertsOf(40)))
			isGraph(t, open(t, p, (gen+1)%mostGen), l, vertsOf(40))
			lies(t, d, raw, textsOf(l))
		}
	}
}

func TestRawThatIsNoWholeRecords(t *testing.T) { // P13.1: a part of a page; a page of each length, at each place
	for _, size := range []int{1, 255, 257, 300} {
		d := newDisk(t, 100)
		fine(t, d.Create("x"), d.Write("x", 0, make([]byte, size)), d.Sync("x"))
		refused(t, "a part of a page", newPool(t, d, fewest), "x", 0, vertsOf(3), api.ErrRot)
	}
	l := ring(48, 2)
	for n := range api.Room + 1 {
		for k := range textsOf(l) {
			texts := textsOf(l)
			texts[k] = texts[k][:n]
			d := newDisk(t, mostRoom)
			lay(t, d, "x", texts...)
			p := newPool(t, d, fewest)
			switch what := fmt.Sprintf("page %d of %d bytes", k, n); {
			case n%edgeSize != 0, k == len(texts)-1 && n == 0:
				refused(t, what, p, "x", 0, vertsOf(48), api.ErrRot)
			case k < len(texts)-1 && n < api.Room:
				refused(t, what, p, "x", 0, vertsOf(48), api.ErrNone)
			default:
				fine(t, store.Make(p, "x", 0, vertsOf(48)))
				isGraph(t, open(t, p, 0), l[:len(l)-perPage+n/edgeSize], vertsOf(48))
			}
		}
	}
}

func TestRawThatHasRotted(t *testing.T) { // P13.1: each page of it
	l := ring(60, 3)
	for k := range textsOf(l) {
		for _, at := range []int{0, 4, 8, 12, 31, 130, 255} {
			d := laid(t, l)
			p := newPool(t, d, fewest)
			fine(t, d.Flip("x", k*pageSize+at, 1<<(at%8)))
			refused(t, fmt.Sprintf("page %d, byte %d", k, at), p, "x", 0, vertsOf(60), api.ErrRot)
			fine(t, d.Flip("x", k*pageSize+at, 1<<(at%8)), store.Make(p, "x", 0, vertsOf(60)))
			isGraph(t, open(t, p, 0), l, vertsOf(60))
		}
	}
}

func TestFilesThatAreThereAlready(t *testing.T) { // P13.1, R2: any of them; it is as it was, and no other one is made
	l := ring(70, 3)
	for some := 1; some < 8; some++ {
		for _, content := range [][][]byte{nil, textsOf(ring(5, 2)), {{1}, {2, 3}}} {
			d := laid(t, l)
			var there []string
			for i, name := range names(4) {
				if some>>i&1 == 1 {
					lay(t, d, name, content...)
					there = append(there, name)
				}
			}
			p := newPool(t, d, fewest)
			refused(t, fmt.Sprintf("%q there", there), p, "x", 4, vertsOf(70), api.ErrThere)
			for _, name := range there {
				holds(t, p, name, content)
				fine(t, p.Drop(name))
			}
			fine(t, store.Make(p, "x", 4, vertsOf(70)))
			isGraph(t, open(t, p, 4), l, vertsOf(70))
		}
	}
}

func TestMakeOnceMore(t *testing.T) { // P13.1: what is there stays, dirty frames too
	l := ring(30, 3)
	p := newPool(t, laid(t, l), 50)
	fine(t, store.Make(p, "x", 0, vertsOf(30)))
	turned := vertTextsOf(vertsOf(30))
	turned[1] = bytes.Repeat([]byte{7}, vertSize)
	fine(t, p.Write("v.0", 1, turned[1]))
	refused(t, "once more", p, "x", 0, vertsOf(5), api.ErrThere)
	holds(t, p, "v.0", turned)
	fine(t, store.Make(p, "x", 1, vertsOf(30)))
	isGraph(t, open(t, p, 1), l, vertsOf(30))
	holds(t, p, "v.0", turned)
}

func TestOwnNamesOfTheSort(t *testing.T) { // P13.1: its error, and they stay
	l := ring(30, 3)
	d := laid(t, l)
	lay(t, d, "t.0", textsOf(ring(5, 2))...)
	p := newPool(t, d, fewest)
	refused(t, "t.0 is there", p, "x", 0, vertsOf(30), api.ErrThere)
	// The sort of no edges has no need of it.
	lay(t, d, "y")
	fine(t, store.Make(p, "y", 0, vertsOf(30)))
	isGraph(t, open(t, p, 0), nil, vertsOf(30))
	lies(t, d, "t.0", textsOf(ring(5, 2)))
}

func TestTheOrderOfErrorsOfMake(t *testing.T) { // P13.1, R2
	d := laid(t, ring(30, 3))
	lay(t, d, "rotten", textsOf(ring(30, 3))...)
	fine(t, d.Flip("rotten", 3*pageSize+40, 4))
	lay(t, d, "e.1")
	lay(t, d, "r.2")
	lay(t, d, "v.3")
	p, few := newPool(t, d, fewest), newPool(t, d, fewest-1)
	for _, gen := range []int{0, 1, 2, 3} {
		refused(t, "frames, then the files", few, "rotten", gen, vertsOf(3), api.ErrArg)
		refused(t, "raw is not there, then the files", p, "z", gen, vertsOf(3), api.ErrNone)
		refused(t, "raw may not be, then the files", p, "Z", gen, vertsOf(3), api.ErrArg)
	}
	refused(t, "e is there, then what raw holds", p, "rotten", 1, vertsOf(3), api.ErrThere)
	refused(t, "what raw holds, then r", p, "rotten", 2, vertsOf(3), api.ErrRot)
	refused(t, "what raw holds, then v", p, "rotten", 3, vertsOf(3), api.ErrRot)
	refused(t, "raw is r, then v", p, "r.2", 2, vertsOf(3), api.ErrArg)
	lay(t, d, "v.2")
	refused(t, "raw is r, then v", p, "r.2", 2, vertsOf(3), api.ErrArg)
	lose(t, d)
	for _, gen := range []int{0, 1, 2, 3} {
		is(t, "Make without power", store.Make(p, "x", gen, nil), api.ErrDead)
		is(t, "Make without power, by few frames", store.Make(few, "x", gen, nil), api.ErrArg)
	}
}

// P13.2: the errors of Open.

func TestFilesThatAreNotThere(t *testing.T) { // P13.2: v first, then e, then r
	l := ring(30, 3)
	for there := range 8 {
		d := newDisk(t, mostRoom)
		layGen(t, d, 6, l, vertsOf(30))
		for i, name := range names(6) {
			if there>>i&1 == 0 {
				fine(t, d.Remove(name))
			}
		}
		p := newPool(t, d, 2)
		if there == 7 {
			isGraph(t, open(t, p, 6), l, vertsOf(30))
		} else {
			isNoGraph(t, fmt.Sprintf("files %q", d.Names()), p, 6, api.ErrNone)
		}
		isNoGraph(t, "another generation", p, 7, api.ErrNone)
		isNoGraph(t, "another generation", p, 60, api.ErrNone)
	}
}

func TestFilesThatArePartsOfPages(t *testing.T) { // P13.2: any of them; and which error comes first
	for i, name := range names(6) {
		for _, size := range []int{1, 255, 257, 400} {
			d := newDisk(t, mostRoom)
			layGen(t, d, 6, ring(30, 3), vertsOf(30))
			fine(t, d.Cut(name, 0), d.Write(name, 0, make([]byte, size)))
			p := newPool(t, d, 2)
			isNoGraph(t, name, p, 6, api.ErrRot)
			for j, other := range names(6) { // v, then e, then r
				if i == j {
					continue
				}
				d.Rename(other, "kept")
				want := api.ErrRot
				if (j+1)%3 < (i+1)%3 {
					want = api.ErrNone
				}
				isNoGraph(t, name+" is a part of a page, without "+other, p, 6, want)
				d.Rename("kept", other)
			}
		}
	}
}

func TestVerticesThatAreNoWholeRecords(t *testing.T) { // P13.2, P13.4: what Len says of the last page; those of others, when they are asked
	verts := vertsOf(60)
	for n := range api.Room + 1 {
		for k := range 3 {
			texts := vertTextsOf(verts)
			texts[k] = texts[k][:n]
			d := newDisk(t, mostRoom)
			lay(t, d, "e.0", textsOf(counted(ring(60, 1)))...)
			lay(t, d, "v.0", texts...)
			p := newPool(t, d, 2)
			if k == 2 && (n%vertSize != 0 || n == 0) {
				isNoGraph(t, "without r", p, 0, api.ErrRot)
				continue
			}
			isNoGraph(t, "without r", p, 0, api.ErrNone)
			lay(t, d, "r.0", textsOf(turned(counted(ring(60, 1))))...)
			g := open(t, p, 0)
			if k == 2 {
				isGraph(t, g, ring(60, 1), verts[:40+n/vertSize])
				continue
			}
			for v := range 60 {
				x, e := g.Vert(uint32(v))
				want, wrong := verts[v], api.OK
				switch {
				case v/vertsPerPage != k:
				case n%vertSize != 0:
					want, wrong = api.Vert{}, api.ErrRot
				case v%vertsPerPage >= n/vertSize:
					want, wrong = api.Vert{}, api.ErrNone
				}
				if x != want || e != wrong {
					t.Fatalf("page %d of %d bytes: Vert of %d: %v, %d; want %v, %d", k, n, v, x, e, want, wrong)
				}
			}
		}
	}
}

func TestEdgesThatAreNoWholeRecords(t *testing.T) { // P13.2 to P13.4: Open takes them; they are told when they are asked, and no edge is made of them
	l := ring(36, 1)
	for n := range api.Room {
		for k := range 3 {
			for which, name := range names(0)[:2] {
				d := newDisk(t, mostRoom)
				layGen(t, d, 0, l, vertsOf(36))
				texts := textsOf([][]api.Edge{counted(l), turned(counted(l))}[which])
				texts[k] = texts[k][:n]
				fine(t, d.Remove(name))
				lay(t, d, name, texts...)
				g := open(t, newPool(t, d, 2), 0)
				// A last page of fewer records is as good as a full one.
				count, want := 36, api.OK
				switch {
				case n%edgeSize != 0, k == 2 && n == 0:
					want = api.ErrRot
				case k < 2:
					want = api.ErrNone
				default:
					count = 24 + n/edgeSize
				}
				what := fmt.Sprintf("%s, page %d of %d bytes", name, k, n)
				isRightOr(t, what, asks(g)[which], []map[uint32][]api.Edge{outOf(l), into(l)}[which], count, want)
				if which == 1 {
					count, want = 36, api.OK
				}
				if k < 2 { // of others Len says nothing
					want = api.OK
				}
				if want != api.OK {
					count = 0
				}
				if got, e := g.Edges(); got != count || e != want {
					t.Fatalf("%s: Edges: %d, %d; want %d, %d", what, got, e, count, want)
				}
			}
		}
	}
}

// isRightOr asks for the edges of 36 vertices, each of which has one, if it is among the first ones, so many. Where want is an error it may be told instead.
func isRightOr(t *testing.T, what string, ask func(v uint32) ([]api.Edge, api.Errno), right map[uint32][]api.Edge, count int, want api.Errno) {
	t.Helper()
	told := 0
	for v := range uint32(36) {
		l, e := ask(v)
		switch {
		case e == api.OK && slices.Equal(l, right[v]):
			told++
		case e == api.OK && len(l) == 0 && int(v) >= count:
		case e != want || want == api.OK || len(l) > 0:
			t.Fatalf("%s: of %d: %v, %d", what, v, l, e)
		}
	}
	if want == api.OK && told != count || want != api.OK && told == 36 {
		t.Fatalf("%s: right of %d vertices", what, told)
	}
}

// asks are Out and In.
func asks(g *store.Graph) []func(v uint32) ([]api.Edge, api.Errno) {
	return []func(v uint32) ([]api.Edge, api.Errno){g.Out, g.In}
}

// Pages that have rotted.

func TestPagesOfEdgesThatHaveRotted(t *testing.T) { // P13.3, P13.4, W4: each page of e and r: each answer is right, or ErrRot; the other file tells its own
	for _, next := range []int{1, 3, 5, 7, 25, 40} { // edges of a vertex: on one page, on two and on more
		l := ring(50, next)
		pages := len(textsOf(counted(l)))
		for which, name := range names(0)[:2] {
			for k := pages - 1; k >= 0; k -= 1 + pages/30 {
				d := newDisk(t, mostRoom)
				layGen(t, d, 0, l, vertsOf(50))
				fine(t, d.Flip(name, k*pageSize+k%28*9, 8))
				g := open(t, newPool(t, d, 2), 0)
				isRightOrRot(t, g, l, vertsOf(50), which, k)
				isPlaceOrRot(t, g, counted(l), which == 0, k)
			}
		}
	}
}

// isRightOrRot asks for all vertices of a graph, of which page k of e (0) or r (1) has rotted.
func isRightOrRot(t *testing.T, g *store.Graph, l []api.Edge, verts []api.Vert, which, k int) {
	t.Helper()
	right := []map[uint32][]api.Edge{outOf(l), into(l)}
	file := [][]api.Edge{counted(l), turned(counted(l))}[which]
	rotten := file[k*perPage : min((k+1)*perPage, len(file))]
	isRotten := func(x api.Edge) bool { return slices.Contains(rotten, x) }
	for v := range uint32(len(verts)) {
		for other, ask := range asks(g) {
			got, e := ask(v)
			switch {
			case other == which && e == api.ErrRot && len(got) == 0:
			case e != api.OK, !slices.Equal(got, right[other][v]), other == which && slices.ContainsFunc(got, isRotten):
				t.Fatalf("page %d of file %d: of %d, asked %d: %v, %d", k, which, v, other, got, e)
			}
		}
		if x, e := g.Vert(v); x != verts[v] || e != api.OK {
			t.Fatalf("page %d of file %d: Vert of %d: %v, %d", k, which, v, x, e)
		}
	}
}

// isPlaceOrRot asks for all edges of a graph by their places, and how many they are, where page k of e (isTails) or of r has rotted.
func isPlaceOrRot(t *testing.T, g *store.Graph, l []api.Edge, isTails bool, k int) {
	t.Helper()
	for i, want := range l {
		if isTails && i/perPage == k {
			isNoEdge(t, g, i, api.ErrRot)
		} else if x, e := g.Edge(i); x != want || e != api.OK {
			t.Fatalf("page %d: Edge of %d: %v, %d", k, i, x, e)
		}
	}
	if n, e := g.Edges(); isTails && (k+1)*perPage >= len(l) {
		if n != 0 || e != api.ErrRot {
			t.Fatalf("page %d: Edges: %d, %d", k, n, e)
		}
	} else if n != len(l) || e != api.OK {
		t.Fatalf("page %d: Edges: %d, %d", k, n, e)
	}
}

func TestPagesOfVerticesThatHaveRotted(t *testing.T) { // P13.2, P13.4: the last one is told by Open, others when they are asked
	l, verts := ring(70, 2), vertsOf(70)
	for k := range 4 {
		d := newDisk(t, mostRoom)
		layGen(t, d, 0, l, verts)
		p := newPool(t, d, 1)
		g := open(t, p, 0)
		fine(t, d.Flip("v.0", k*pageSize+200, 1))
		if _, e := g.Edge(0); e != api.OK { // of another file: the frame does not hold that page any more
			t.Fatal(e)
		}
		for v := range uint32(70) {
			switch x, e := g.Vert(v); {
			case int(v)/vertsPerPage == k:
				if x != (api.Vert{}) || e != api.ErrRot {
					t.Fatalf("page %d: Vert of %d: %v, %d", k, v, x, e)
				}
			case x != verts[v] || e != api.OK:
				t.Fatalf("page %d: Vert of %d: %v, %d", k, v, x, e)
			}
			for i, ask := range asks(g) {
				got, e := ask(v)
				isEdges(t, "of a vertex", got, e, []map[uint32][]api.Edge{outOf(l), into(l)}[i][v]...)
			}
		}
		if g.Size() != 70 {
			t.Errorf("Size: %d", g.Size())
		}
		if k == 3 {
			isNoGraph(t, "the last page has rotted", newPool(t, d, 1), 0, api.ErrRot)
			fine(t, d.Remove("e.0"))
			isNoGraph(t, "the last page has rotted, then e", newPool(t, d, 1), 0, api.ErrRot)
		} else {
			open(t, newPool(t, d, 1), 0)
		}
	}
}

func TestVerticesAheadOfAllThatIsWrong(t *testing.T) { // P13.3, P13.4, R2: ErrVertex, whatever became of the files
	d := newDisk(t, mostRoom)
	layGen(t, d, 0, ring(30, 2), vertsOf(30))
	p := newPool(t, d, 2)
	g := open(t, p, 0)
	for _, name := range names(0) {
		fine(t, d.Rename(name, "kept"))
		isNoVert(t, g, 30, api.ErrVertex)
		fine(t, d.Rename("kept", name))
	}
	for _, name := range names(0) {
		fine(t, p.Drop(name))
	}
	isNoVert(t, g, 30, api.ErrVertex)
	isNoVert(t, g, none, api.ErrVertex)
	isNoVert(t, g, 29, api.ErrNone)
	isNoEdge(t, g, 0, api.ErrNone)
	isNoEdge(t, g, -1, api.ErrArg)
	if n, e := g.Edges(); n != 0 || e != api.ErrNone {
		t.Errorf("Edges: %d, %d", n, e)
	}
	lose(t, d)
	isNoVert(t, g, 30, api.ErrVertex)
	isNoVert(t, g, 0, api.ErrDead)
	isNoEdge(t, g, 3, api.ErrDead)
	isNoEdge(t, g, -1, api.ErrArg)
	if n, e := g.Edges(); n != 0 || e != api.ErrDead || g.Size() != 30 {
		t.Errorf("Edges: %d, %d; Size: %d", n, e, g.Size())
	}
	isNoGraph(t, "no power", p, 0, api.ErrDead)
}

// Frames that others have pinned.

func TestPinnedFrames(t *testing.T) { // P13.1 to P13.4: one that is not pinned is enough, and none is pinned
	l, verts := ring(100, 5), vertsOf(100)
	for _, frames := range []int{fewest, fewest + 3} {
		for pins := range frames {
			d := laid(t, l)
			p := newPool(t, d, frames)
			pinAll(t, p, pins)
			fine(t, store.Make(p, "x", 0, verts))
			lieAll(t, d, 0, l, verts)
			isGraph(t, open(t, p, 0), l, verts)
			_, pinned, dirty := p.Held()
			if most, all := p.Peak(); pinned != pins || dirty != 0 || all != pins || most > frames {
				t.Fatalf("%d of %d frames pinned: Held: %d, %d; Peak: %d %d", pins, frames, pinned, dirty, most, all)
			}
		}
	}
}

func TestNoFrameThatIsNotPinned(t *testing.T) { // P13.1 to P13.4: ErrPins, where a page is to be brought or written
	l, verts := ring(40, 2), vertsOf(40)
	d := laid(t, l)
	layGen(t, d, 1, l, verts)
	lay(t, d, "none")
	p := newPool(t, d, fewest)
	g := open(t, p, 1)
	pinAll(t, p, fewest)
	refused(t, "all pinned", p, "x", 0, verts, api.ErrPins)
	refused(t, "all pinned, no edges", p, "none", 0, verts, api.ErrPins)
	isNoGraph(t, "all pinned", p, 1, api.ErrPins)
	isNoVert(t, g, 0, api.ErrPins)
	isNoVert(t, g, 40, api.ErrVertex)
	isNoEdge(t, g, 0, api.ErrPins)
	isNoEdge(t, g, -1, api.ErrArg)
	if n, e := g.Edges(); n != 0 || e != api.ErrPins {
		t.Errorf("Edges: %d, %d", n, e)
	}
	fine(t, store.Make(p, "none", 0, nil)) // nothing is to be brought
	hasFiles(t, d, slices.Concat(names(0), names(1), []string{"none", "other", "x"})...)
	if g := open(t, p, 0); g.Size() != 0 {
		t.Errorf("Size: %d", g.Size())
	}
	fine(t, p.Unpin("other", 3), store.Make(p, "x", 2, verts))
	isGraph(t, open(t, p, 2), l, verts)
}

func TestPinnedPagesOfItsFiles(t *testing.T) { // P13.1, P13.3: those of raw, e, r and v are read all the same
	l, verts := ring(40, 2), vertsOf(40)
	p := newPool(t, laid(t, l), fewest)
	for _, k := range []int{0, 3, 6} {
		if _, e := p.Pin("x", k); e != api.OK {
			t.Fatal(e)
		}
	}
	fine(t, store.Make(p, "x", 0, verts))
	for _, name := range names(0) {
		if _, e := p.Pin(name, 1); e != api.OK {
			t.Fatal(e)
		}
	}
	isGraph(t, open(t, p, 0), l, verts)
	if _, pinned, dirty := p.Held(); pinned != 6 || dirty != 0 {
		t.Errorf("%d pinned, %d dirty", pinned, dirty)
	}
}

// R1.

func TestAnyArgumentsAndFiles(t *testing.T) { // R1: every call ends, and none panics, whatever the files hold
	r := random(5)
	raws := append(wrongNames(), "x", "x", "x", "x", "e.0", "r.0", "v.0", "t.0", "z")
	all := append(wrongGens(), 0, 0, 0, 1, mostGen)
	for range 3000 {
		d := laid(t, r.edges(r.below(60), 9, 9))
		for _, name := range names(0) {
			if r.below(3) > 0 {
				fine(t, d.Create(name))
				for k := range r.below(4) {
					b := make([]byte, []int{0, 12, 20, 60, 120, 180, 239, 240}[r.below(8)])
					for i := range b {
						b[i] = byte(r.below(3) * r.below(256) / 2)
					}
					fine(t, d.Write(name, k*pageSize, pageOf(name, k, b)))
				}
			}
		}
		p := newPool(t, d, 1+r.below(12))
		g, _ := store.Open(p, 0)
		switch r.below(6) {
		case 0:
			lose(t, d)
		case 1:
			fine(t, d.Quota(r.below(20)))
		case 2:
			p = (*pool.Pool)(nil)
		}
		e := store.Make(p, raws[r.below(len(raws))], all[r.below(len(all))], r.verts(r.below(50)))
		if (e == api.ErrNil) != (p == nil) || e < api.OK || e > api.ErrPins {
			t.Fatal(e)
		}
		for v := range uint32(70) {
			g.Out(v)
			g.In(v)
			g.Vert(v)
			g.Edge(int(v) - 2)
		}
		g.Edges()
		g.Size()
	}
}
