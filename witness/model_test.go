package witness_test

import (
	"math"
	"slices"
	"testing"

	"milepost/api"
)

// numbers are those of the vertices of worlds that are made up.
var numbers = []uint32{0, 1, 2, 3, 5, 8, 13, 40, 255, 256, 1 << 16, 1<<31 - 1, 1 << 31, last - 1, last, 6, 7, 9, 10, 11, 12, 14, 15, 16, 17, 18, 19, 20, 21, 22}

// least is the vertex that is come to, not settled, and the least by distance and then by number.
func least(at map[uint32]uint64, settled []uint32) (uint32, bool) {
	best, there := uint32(0), false
	for v, d := range at {
		if slices.Contains(settled, v) {
			continue
		}
		if !there || d < at[best] || d == at[best] && v < best {
			best, there = v, true
		}
	}
	return best, there
}

// model is what P14.1 says, done as it stands there: all vertices that are come to are looked through each time.
func (w *world) model(from, to uint32, most uint64) (found bool, e api.Errno, asked []uint32) {
	at := map[uint32]uint64{from: 0}
	var settled []uint32
	for {
		v, there := least(at, settled)
		if !there || at[v] > most || len(settled) >= settle {
			return false, api.OK, asked
		}
		if v == to {
			return true, api.OK, asked
		}
		asked = append(asked, v)
		if w.bad[v] != api.OK {
			return false, w.bad[v], asked
		}
		settled = append(settled, v)
		for _, x := range w.edges[v] {
			if slices.Contains(w.shunned, x.Head) || slices.Contains(settled, x.Head) || x.Weight >= far-at[v] {
				continue
			}
			if was, is := at[x.Head]; !is || was > at[v]+x.Weight {
				at[x.Head] = at[v] + x.Weight
			}
		}
	}
}

// distances are how far it is from a vertex to all others that can be come to, by walks into no vertex that is avoided, however many vertices lie on them.
func (w *world) distances(from uint32) map[uint32]uint64 {
	at := map[uint32]uint64{from: 0}
	for turned := true; turned; {
		turned = false
		for tail, l := range w.edges {
			d, is := at[tail]
			for _, x := range l {
				if !is || slices.Contains(w.shunned, x.Head) || x.Weight >= far-d {
					continue
				}
				if was, is := at[x.Head]; !is || was > d+x.Weight {
					at[x.Head], turned = d+x.Weight, true
				}
			}
		}
	}
	return at
}

// weightOf is a weight of one of several kinds.
func weightOf(by *mixer, kind int) uint64 {
	switch kind % 4 {
	case 0:
		return by.below(3)
	case 1:
		return by.below(30)
	case 2: // some so great that two, or three, or four are too many
		return far/(1+by.below(4)) - by.below(3)
	}
	return []uint64{0, 1, 7, 1 << 32, far / 2, far - 1, far, far + 1, greatest}[by.below(9)]
}

// madeUp is a world of at most so many vertices and edges, of which some are avoided, and of some the edges are not to be had.
func madeUp(by *mixer, vertices, edges, kind int) *world {
	w := net()
	some := func() uint32 { return numbers[by.below(uint64(vertices))] }
	for range by.below(uint64(edges + 1)) {
		w.add(api.Edge{Tail: some(), Head: some(), Weight: weightOf(by, kind), Mid: some()})
	}
	if by.below(2) == 0 {
		for range by.below(5) {
			w.shunned = append(w.shunned, some())
		}
	}
	if by.below(3) == 0 {
		for i := range by.below(4) {
			w.bad[some()] = api.Errno(1 + i)
		}
	}
	return w
}

// mostsOf are numbers that tell ways apart: each distance in a world, one less and one more, and the ends.
func mostsOf(at map[uint32]uint64) []uint64 {
	l := []uint64{0, 1, far - 1, far, greatest}
	for _, d := range at {
		l = append(l, d, d+1)
		if d > 0 {
			l = append(l, d-1)
		}
	}
	slices.Sort(l)
	return slices.Compact(l)
}

// forEach makes worlds up, and calls with each of them, each two of its vertices, and numbers that tell ways apart, rising.
func forEach(worlds, vertices, edges int, call func(w *world, from, to uint32, at map[uint32]uint64, mosts []uint64)) {
	by := mixer(vertices)
	for i := range worlds {
		w := madeUp(&by, vertices, edges, i)
		from := numbers[by.below(uint64(vertices))]
		at := w.distances(from)
		mosts := mostsOf(at)
		for _, to := range numbers[:vertices] {
			call(w, from, to, at, mosts)
		}
	}
}

func TestAsTheWordsSay(t *testing.T) { // P14.1, Errors
	kinds := map[api.Errno]int{}
	for _, size := range [][2]int{{2, 6}, {4, 12}, {8, 30}, {17, 60}, {30, 60}, {30, 150}, {30, 400}} {
		forEach(120, size[0], size[1], func(w *world, from, to uint32, _ map[uint32]uint64, mosts []uint64) {
			for _, most := range mosts {
				want, wantErr, wantAsked := w.model(from, to, most)
				w.ask(t, from, to, most, want, wantErr, wantAsked...)
				kinds[wantErr]++
				if want {
					kinds[-1]++
				}
			}
		})
		if t.Failed() {
			return
		}
	}
	for _, kind := range []api.Errno{-1, 0, 1, 2, 3} {
		if kinds[kind] < 100 {
			t.Errorf("of the answer %d there were just %d", kind, kinds[kind])
		}
	}
}

func TestYesJustIfThereIsAWalk(t *testing.T) { // What follows
	for _, size := range [][2]int{{3, 8}, {9, 30}, {16, 50}, {30, 60}, {30, 200}} {
		forEach(100, size[0], size[1], func(w *world, from, to uint32, at map[uint32]uint64, mosts []uint64) {
			d, is := at[to]
			if !is {
				d = math.MaxUint64
			}
			all := size[0] <= settle && len(w.bad) == 0
			for _, most := range mosts {
				walk := is && d <= most
				found, e, _ := w.find(from, to, most)
				if found && !walk {
					t.Fatalf("Find of %d to %d, %d: yes, and it is %d far", from, to, most, d)
				}
				if all && (found != walk || e != api.OK) {
					t.Fatalf("Find of %d to %d, %d: %v, %d, and it is %d far", from, to, most, found, e, d)
				}
			}
		})
	}
}

func TestWhoIsAllowedMore(t *testing.T) { // What follows
	for _, size := range [][2]int{{9, 30}, {30, 60}, {30, 200}} {
		forEach(100, size[0], size[1], func(w *world, from, to uint32, _ map[uint32]uint64, mosts []uint64) {
			enough := false
			for _, most := range mosts {
				found, e, _ := w.find(from, to, most)
				if enough && (!found || e != api.OK) {
					t.Fatalf("Find of %d to %d, %d: %v, %d, and less was enough", from, to, most, found, e)
				}
				enough = found
			}
		})
	}
}

func TestInWhichOrderTheEdgesAre(t *testing.T) { // P14.1: that of the vertices counts, not that of a vertex's edges
	forEach(300, 30, 200, func(w *world, from, to uint32, _ map[uint32]uint64, mosts []uint64) {
		turned := &world{edges: map[uint32][]api.Edge{}, bad: w.bad, shunned: w.shunned}
		for v, l := range w.edges {
			turned.edges[v] = slices.Clone(l)
			slices.Reverse(turned.edges[v])
		}
		for _, most := range mosts[len(mosts)/2:] {
			found, e, asked := w.find(from, to, most)
			turned.ask(t, from, to, most, found, e, asked...)
		}
	})
}
