package extsort_test

import (
	"fmt"
	"math"
	"slices"
	"testing"

	"milepost/api"
	"milepost/extsort"
)

func TestLimits(t *testing.T) { // Words
	if extsort.ByTail != 0 || extsort.ByHead != 1 {
		t.Error("the orders have other numbers than the chapter says")
	}
	if api.Bmin != fewest || api.MaxB != mostFrames || api.Room != perPage*edgeSize || api.Page != pageSize || api.Sector != sectorSize || api.None != none {
		t.Error("package api has other limits than the chapters")
	}
}

func TestExamples(t *testing.T) { // P12.1: the chapter's
	l := []api.Edge{edge(2, 1, 5), edge(1, 2, 7), edge(1, 2, 6), edge(3, 3, 0)}
	want := [][]api.Edge{{edge(1, 2, 6), edge(2, 1, 5)}, {edge(2, 1, 5), edge(1, 2, 6)}}
	d := laid(t, l)
	p := newPool(t, d, fewest)
	fine(t, extsort.Sort(p, "x", "tails", extsort.ByTail), extsort.Sort(p, "x", "heads", extsort.ByHead))
	hasFiles(t, d, "heads", "tails", "x")
	lies(t, d, "x", l)
	lies(t, d, "tails", want[0])
	lies(t, d, "heads", want[1])
	isDone(t, p)
}

// row is a row of edges of some length.
type row struct {
	what string
	make func(n int) []api.Edge
}

// rows are of all the kinds that are sorted.
func rows() []row {
	each := func(f func(i, n int) api.Edge) func(n int) []api.Edge {
		return func(n int) []api.Edge {
			var l []api.Edge
			for i := range n {
				l = append(l, f(i, n))
			}
			return l
		}
	}
	return []row{
		{"not in order", apart},
		{"in order", each(func(i, n int) api.Edge { return edge(uint32(i), uint32(i+n), 3) })},
		{"turned round", each(func(i, n int) api.Edge { return edge(uint32(n-i), uint32(3*n-i), 3) })},
		{"in order by tail, turned round by head", each(func(i, n int) api.Edge { return edge(uint32(i), uint32(3*n-i), 3) })},
		{"of one tail", each(func(i, n int) api.Edge { return edge(7, uint32(10+i*7919%10007), 3) })},
		{"of one head", each(func(i, n int) api.Edge { return edge(uint32(10+i*7919%10007), 7, 3) })},
		{"loops alone", each(func(i, n int) api.Edge { return edge(uint32(i%5), uint32(i%5), uint64(i)) })},
		{"every other one a loop", each(func(i, n int) api.Edge { return edge(uint32(i*31%1009), uint32((i+i%2)*31%1009), uint64(i)) })},
		{"loops at last", each(func(i, n int) api.Edge { return edge(uint32(max(n/2, i)), uint32(n/2), uint64(i)) })},
		{"of one pair, the best one first", each(func(i, n int) api.Edge { return edge(1, 2, uint64(i)) })},
		{"of one pair, the best one last", each(func(i, n int) api.Edge { return edge(2, 1, uint64(n-i)) })},
		{"all the same", each(func(i, n int) api.Edge { return edge(1, 2, 3) })},
		{"each there again, far behind", each(func(i, n int) api.Edge { return edge(uint32(i%(n/2+1)), 100000, uint64(i)) })},
		{"each there ahead, far ahead", each(func(i, n int) api.Edge { return edge(100000, uint32(i%(n/2+1)), uint64(n-i)) })},
		{"of few pairs", func(n int) []api.Edge { r := random(n); return r.edges(n, 5, 3) }},
		{"of many pairs", func(n int) []api.Edge { r := random(n); return r.edges(n, 1000, 3) }},
	}
}

// lengths are numbers of edges by what becomes of them over so many frames: no run, one, as many as are merged at once, and such that are merged more than once; one fewer and one more.
func lengths(frames int) []int {
	run := perPage * frames
	l := []int{0, 1, 2, perPage - 1, perPage, perPage + 1}
	for _, runs := range []int{1, 2, frames - 2, frames - 1, frames, 2*frames - 2, 2 * frames} {
		l = append(l, runs*run-1, runs*run, runs*run+1)
	}
	return l
}

func TestRowsOfAllLengths(t *testing.T) { // P12.1, P12.3: no edges, one, loops alone, one pair, in order, turned round; one run and more
	t.Parallel()
	for _, frames := range []int{fewest, fewest + 1} {
		for _, r := range rows() {
			for _, n := range lengths(frames) {
				for _, by := range orders() {
					t.Run(fmt.Sprintf("%s/%d edges/%d frames/order %d", r.what, n, frames, by), func(t *testing.T) {
						sorts(t, r.make(n), frames, by)
					})
				}
			}
		}
	}
}

func TestRunsThatAreMergedAgainAndAgain(t *testing.T) { // P12.1, P12.3: thrice and more
	run := perPage * fewest
	for _, n := range []int{7*7*run - 1, 7 * 7 * run, 7*7*run + 1, 60*run + 5, 15000} {
		for _, by := range orders() {
			sorts(t, apart(n), fewest, by)
			r := random(n)
			sorts(t, r.edges(n, 90, 4), fewest, by)
		}
	}
}

func TestManyFrames(t *testing.T) { // P12.1, P12.3: with as many as there can be
	r := random(5)
	for _, frames := range []int{64, 1000, mostFrames} {
		for _, n := range []int{0, 1, 1000, 3000} {
			for _, by := range orders() {
				sorts(t, r.edges(n, 60, 5), frames, by)
			}
		}
	}
	sorts(t, apart(perPage*mostFrames+1), mostFrames, extsort.ByHead)
}

func TestFilesOfFullSize(t *testing.T) { // P12.1: no file has more edges
	t.Parallel()
	n := mostSize / pageSize * perPage
	l := make([]api.Edge, n)
	for i := range l {
		l[i] = edge(uint32(i*7919%n), uint32(n+i%5), 1)
	}
	sorts(t, l, 700, extsort.ByTail)
}

// P12.1: what counts.

// permutations are all orders of these edges.
func permutations(l []api.Edge) [][]api.Edge {
	if len(l) == 0 {
		return [][]api.Edge{nil}
	}
	var all [][]api.Edge
	for i := range l {
		rest := slices.Delete(slices.Clone(l), i, i+1)
		for _, p := range permutations(rest) {
			all = append(all, append([]api.Edge{l[i]}, p...))
		}
	}
	return all
}

// rivals are edges of one pair, that differ by weight, by middle, by both or not at all.
func rivals() [][]api.Edge {
	by := func(weight uint64, mid uint32) api.Edge {
		return api.Edge{Tail: 500, Head: 600, Weight: weight, Mid: mid}
	}
	return [][]api.Edge{
		{by(5, none), by(6, none), by(7, none)},
		{by(5, none), by(5, 0), by(5, 1)},
		{by(5, 0), by(5, 1), by(5, none-1)},
		{by(5, 9), by(5, 9), by(5, 9)},
		{by(5, none), by(5, none), by(6, none)},
		{by(4, none-1), by(5, none), by(6, 0)},
		{by(4, 3), by(4, 2), by(5, none)},
		{by(0, none), by(0, 0), by(1, none)},
		{by(math.MaxUint64, 7), by(math.MaxUint64, none), by(math.MaxUint64-1, none-1)},
		{by(1<<63, none), by(1<<63-1, 8), by(1<<32, 9)},
		{by(1<<32, none), by(1, none), by(1<<32+1, none)},
	}
}

// placed are edges that stand at places among others, of other pairs, all around them.
func placed(n int, l []api.Edge, at ...int) []api.Edge {
	all := apart(n)
	for i, x := range l {
		all[at[i]] = x
	}
	return all
}

func TestRivals(t *testing.T) { // P12.1: whichever comes first, and in whichever run
	t.Parallel()
	run := perPage * fewest
	places := [][]int{{0, 1, 2}, {0, run / 2, run - 1}, {run - 1, run, run + 1}, {0, run, 2 * run}, {5, 2*run - 1, 9 * run}, {run, 7*run + 1, 10*run - 1}}
	for i, l := range rivals() {
		for _, p := range permutations(l) {
			for _, at := range places {
				for _, by := range orders() {
					sorts(t, placed(at[2]+1, p, at...), fewest, by)
				}
			}
			alone := counted(p, 0)
			if len(alone) != 1 || !slices.Contains(l, alone[0]) {
				t.Fatalf("rivals %d: %v", i, alone)
			}
			sorts(t, p, fewest, 0)
		}
	}
}

func TestWhatCountsToldOneByOne(t *testing.T) { // P12.1: without the model
	by := func(tail, head uint32, weight uint64, mid uint32) api.Edge {
		return api.Edge{Tail: tail, Head: head, Weight: weight, Mid: mid}
	}
	tests := []struct {
		what    string
		l, want []api.Edge
	}{
		{"the lesser weight", []api.Edge{by(1, 2, 5, none), by(1, 2, 4, 9)}, []api.Edge{by(1, 2, 4, 9)}},
		{"no middle", []api.Edge{by(1, 2, 5, 0), by(1, 2, 5, none)}, []api.Edge{by(1, 2, 5, none)}},
		{"the lesser middle", []api.Edge{by(1, 2, 5, 8), by(1, 2, 5, 7)}, []api.Edge{by(1, 2, 5, 7)}},
		{"the same", []api.Edge{by(1, 2, 5, 7), by(1, 2, 5, 7)}, []api.Edge{by(1, 2, 5, 7)}},
		{"both ways", []api.Edge{by(2, 1, 5, 7), by(1, 2, 6, 7)}, []api.Edge{by(1, 2, 6, 7), by(2, 1, 5, 7)}},
		{"a loop of 0 and 0", []api.Edge{by(0, 0, 0, 0), by(0, 1, 0, 0), by(0, 0, 0, none)}, []api.Edge{by(0, 1, 0, 0)}},
		{"a loop of the last vertex", []api.Edge{by(none, none, 1, none), by(none, 0, 1, none)}, []api.Edge{by(none, 0, 1, none)}},
		{"heads of a tail", []api.Edge{by(1, 1<<31, 1, 1), by(1, 255, 1, 1), by(1, 256, 1, 1)}, []api.Edge{by(1, 255, 1, 1), by(1, 256, 1, 1), by(1, 1<<31, 1, 1)}},
	}
	for _, test := range tests {
		p := newPool(t, laid(t, test.l), fewest)
		fine(t, extsort.Sort(p, "x", "o", extsort.ByTail))
		holds(t, p, "o", test.want)
		fine(t, extsort.Sort(p, "o", "again", extsort.ByTail))
		holds(t, p, "again", test.want)
	}
}

func TestBothOrdersToldOneByOne(t *testing.T) { // Words: by the one end, then by the other
	a, b, c, d := edge(1, 4, 9), edge(1, 5, 8), edge(2, 4, 7), edge(3, 1, 6)
	for _, l := range permutations([]api.Edge{a, b, c, d}) {
		p := newPool(t, laid(t, l), fewest)
		fine(t, extsort.Sort(p, "x", "tails", 0), extsort.Sort(p, "x", "heads", 1))
		holds(t, p, "tails", []api.Edge{a, b, c, d})
		holds(t, p, "heads", []api.Edge{d, a, c, b})
	}
}

func TestNumbersAtTheEndsOfTheirRanges(t *testing.T) { // P12.1: vertices, weights and middles that no graph has are sorted all the same
	verts := []uint32{0, 1, 1<<31 - 1, 1 << 31, 1<<31 + 1, none - 1, none}
	weights := []uint64{0, 1, 1<<32 - 1, 1 << 32, 1<<63 - 1, 1 << 63, math.MaxUint64}
	mids := []uint32{none, 0, 1, 1<<31 - 1, 1 << 31, none - 1}
	var l []api.Edge
	for _, tail := range verts {
		for _, head := range verts {
			for _, weight := range weights {
				for _, mid := range mids {
					l = append(l, api.Edge{Tail: tail, Head: head, Weight: weight, Mid: mid})
				}
			}
		}
	}
	r := random(11)
	for range 4 {
		for _, by := range orders() {
			sorts(t, r.shuffled(l), fewest, by)
		}
	}
	slices.Reverse(l)
	for _, by := range orders() {
		sorts(t, l, fewest+2, by)
	}
}

func TestRandomEdges(t *testing.T) { // P12.1, P12.3: of all kinds, over any frames
	r := random(1)
	for range 300 {
		frames := fewest + r.below(20)
		n := r.below(perPage * frames * (1 + r.below(12)))
		l := r.edges(n, 1+r.below(200), 1+r.below(20))
		sorts(t, l, frames, r.below(2))
	}
}

// P12.3.

func TestAnyFramesAndAnyOrder(t *testing.T) { // P12.3: the same bytes
	r := random(3)
	for _, l := range [][]api.Edge{apart(2000), r.edges(3000, 40, 3), r.edges(1500, 12, 2)} {
		for _, by := range orders() {
			var want []api.File
			for _, frames := range []int{8, 9, 10, 11, 16, 17, 50, 125, 250, 251, mostFrames} {
				d := newDisk(t, mostRoom)
				lay(t, d, "x", textsOf(r.shuffled(l))...)
				p := newPool(t, d, frames)
				fine(t, extsort.Sort(p, "x", "o", by), d.Remove("x"))
				if want == nil {
					want = d.Files()
				}
				if !sameFiles(d.Files(), want) {
					t.Fatalf("%d frames, order %d: other bytes", frames, by)
				}
			}
		}
	}
}

func TestSortOfWhatIsSorted(t *testing.T) { // P12.3: it is the same, and either order comes of the other
	r := random(8)
	l := r.edges(1500, 50, 9)
	p := newPool(t, laid(t, l), fewest)
	fine(t, extsort.Sort(p, "x", "a", 0), extsort.Sort(p, "a", "b", 0), extsort.Sort(p, "b", "c", 1), extsort.Sort(p, "c", "d", 0), extsort.Sort(p, "c", "e", 1))
	for _, name := range []string{"a", "b", "d"} {
		lies(t, p.Disk(), name, counted(l, 0))
	}
	for _, name := range []string{"c", "e"} {
		lies(t, p.Disk(), name, counted(l, 1))
	}
	hasFiles(t, p.Disk(), "a", "b", "c", "d", "e", "x")
	isDone(t, p)
}

func TestInThatTheDiskDoesNotHave(t *testing.T) { // P12.1: what frames hold of it counts, and stays
	for _, n := range []int{1, 5, 90, 97, 500, 2000} {
		for _, frames := range []int{fewest, 30, mostFrames} {
			l := apart(n)
			p := newPool(t, newDisk(t, mostRoom), frames)
			added(t, p, l)
			fine(t, extsort.Sort(p, "x", "o", n%2))
			lies(t, p.Disk(), "o", counted(l, n%2))
			holds(t, p, "x", l)
			fine(t, p.Flush("x"))
			lies(t, p.Disk(), "x", l)
			hasFiles(t, p.Disk(), "o", "x")
			isDone(t, p)
		}
	}
}

func TestOtherFiles(t *testing.T) { // P12.1: nothing is done to them, whatever frames hold of them
	l, others := apart(900), apart(60)
	for _, frames := range []int{fewest, 12, 100} {
		d := laid(t, l)
		lay(t, d, "u", textsOf(others)...)
		lay(t, d, "t", textsOf(others)...)
		p := newPool(t, d, frames)
		turned := slices.Clone(others)
		turned[20].Weight = 77
		fine(t, p.Write("u", 1, textsOf(turned)[1]))
		fine(t, extsort.Sort(p, "x", "o", 0))
		holds(t, p, "u", turned)
		holds(t, p, "t", others)
		hasFiles(t, d, "o", "t", "u", "x")
		lies(t, d, "o", counted(l, 0))
	}
}
