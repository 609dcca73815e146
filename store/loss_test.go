package store_test

import (
	"bytes"
	"fmt"
	"slices"
	"sort"
	"strconv"
	"strings"
	"testing"

	"milepost/api"
	"milepost/disk"
	"milepost/pool"
	"milepost/store"
)

// The power that goes, and the room that is not there, at each operation of Make.

// scene is a Make at which something fails.
type scene struct {
	what   string
	l      []api.Edge
	verts  []api.Vert
	frames int
	// isFresh is whether raw was added through the pool, and not flushed.
	isFresh bool
}

// gen is the generation that is made in all scenes; the one ahead is there.
const gen = 3

// scenes are Makes of no edges and of more than the frames hold, of no vertices and of more.
func scenes() []scene {
	r := random(4)
	return []scene{
		{"nothing", nil, nil, fewest, false},
		{"vertices alone", nil, vertsOf(21), fewest, false},
		{"loops alone", []api.Edge{edge(1, 1, 2), edge(2, 2, 2)}, vertsOf(3), fewest, false},
		{"edges alone", ring(20, 1), nil, fewest, false},
		{"one edge, not flushed", ring(30, 1)[:1], vertsOf(30), fewest, true},
		{"one run", ring(48, 2), vertsOf(48), fewest, false},
		{"one run, not flushed", ring(48, 2), vertsOf(48), fewest, true},
		{"three runs of few pairs", r.edges(250, 15, 3), vertsOf(15), fewest, false},
		{"many vertices", ring(250, 1), vertsOf(250), fewest + 1, false},
		{"many frames", ring(70, 3), vertsOf(70), 200, false},
		{"many frames, not flushed", ring(70, 3), vertsOf(70), 200, true},
		{"nine runs", ring(200, 4), vertsOf(200), fewest, false},
	}
}

// set is a disk and a pool, ahead of Make. The files of the generation ahead stand beside raw, and last.
func (s scene) set(t *testing.T) (*disk.Disk, *pool.Pool) {
	t.Helper()
	d := newDisk(t, mostRoom)
	layGen(t, d, gen-1, ring(11, 2), vertsOf(11))
	if !s.isFresh {
		lay(t, d, "x", textsOf(s.l)...)
		return d, newPool(t, d, s.frames)
	}
	p := newPool(t, d, s.frames)
	added(t, p, s.l)
	return d, p
}

// make does it.
func (s scene) make(p *pool.Pool) api.Errno { return store.Make(p, "x", gen, s.verts) }

// stays says what must be as it was, whatever came of Make.
func (s scene) stays(t *testing.T, d *disk.Disk) {
	t.Helper()
	lieAll(t, d, gen-1, ring(11, 2), vertsOf(11))
	if !s.isFresh {
		lies(t, d, "x", textsOf(s.l))
	}
}

// isRight says what the files must be behind Make.
func (s scene) isRight(t *testing.T, d *disk.Disk) {
	t.Helper()
	hasFiles(t, d, append(slices.Concat(names(gen-1), names(gen)), "x")...)
	s.stays(t, d)
	lieAll(t, d, gen, s.l, s.verts)
}

// losses are the operations at which the power goes, of so many: of the first ones, and of the last ones, each.
func losses(operations int) []int {
	var l []int
	for n := 1; n <= operations; n++ {
		if from := min(n, operations-n); from < 30 || n%(1+from/8) == 0 {
			l = append(l, n)
		}
	}
	return l
}

// operations is how many a Make has: armed with one more it is not disturbed. It is found by halving.
func (s scene) operations(t *testing.T) int {
	t.Helper()
	return sort.Search(mostRoom, func(n int) bool {
		d, p := s.set(t)
		fine(t, d.Arm(n+1))
		return s.make(p) == api.OK
	})
}

// keeps are sets of loose sectors that stay: none, all, and some of them.
func keeps(loose int) [][]int {
	var even, odd []int
	for i := range loose {
		if i%2 == 0 {
			even = append(even, i)
		} else {
			odd = append(odd, i)
		}
	}
	return [][]int{nil, upTo(loose), even, odd, upTo(loose / 2)}
}

// isBegun says whether a file may be there of a Make that was given up.
func isBegun(name string) bool {
	_, err := strconv.ParseUint(strings.TrimPrefix(name, "t."), 10, 64)
	return slices.Contains(names(gen), name) || err == nil && strings.HasPrefix(name, "t.")
}

// tidy removes what a Make that was given up left, as whoever goes on does.
func tidy(t *testing.T, d *disk.Disk) {
	t.Helper()
	for _, name := range d.Names() {
		switch {
		case isBegun(name):
			fine(t, d.Remove(name))
		case name != "x" && !slices.Contains(names(gen-1), name):
			t.Fatalf("a file %q", name)
		}
	}
}

func TestLossesOfPower(t *testing.T) { // P13.1: at every operation; what was there is as it was, and Make by whoever goes on is right
	t.Parallel()
	for _, s := range scenes() {
		for _, n := range losses(s.operations(t)) {
			for which := range keeps(0) {
				if n > 25 && which != n%5 {
					continue // one as the other
				}
				d, p := s.set(t)
				fine(t, d.Arm(n))
				is(t, fmt.Sprintf("%s: Make, the power goes at %d", s.what, n), s.make(p), api.ErrDead)
				if _, pinned, _ := p.Held(); pinned != 0 || !d.Dead() {
					t.Fatalf("%s: %d frames pinned", s.what, pinned)
				}
				fine(t, d.On(keeps(len(d.Loose()))[which]))
				s.stays(t, d)
				tidy(t, d)
				if n%2 == 0 {
					p = newPool(t, d, fewest+which)
				}
				s.goesOn(t, d, p)
			}
		}
	}
}

// goesOn makes the generation again, by a pool that may be the same one. What frames had of raw that was not flushed may have been lost with the power.
func (s scene) goesOn(t *testing.T, d *disk.Disk, p *pool.Pool) {
	t.Helper()
	if s.isFresh {
		fine(t, p.Drop("x")) // what frames hold of it too
		lay(t, d, "x", textsOf(s.l)...)
	}
	fine(t, s.make(p))
	s.isRight(t, d)
	isDone(t, p)
	isGraph(t, open(t, p, gen), s.l, s.verts)
}

func TestMadeFilesLast(t *testing.T) { // P13.1: behind every loss of power, whatever loose sectors stay
	for _, s := range scenes() {
		for which := range keeps(0) {
			d, p := s.set(t)
			fine(t, s.make(p), d.Create("loose"), d.Write("loose", 0, bytes.Repeat([]byte{5}, 300)))
			lose(t, d)
			fine(t, d.On(keeps(len(d.Loose()))[which]), d.Remove("loose"))
			s.isRight(t, d)
			isGraph(t, open(t, newPool(t, d, 1), gen), s.l, s.verts)
		}
	}
}

func TestFullDisks(t *testing.T) { // P13.1: whatever room there is: ErrFull, and nothing is there but what was, or it is done
	t.Parallel()
	for _, s := range scenes() {
		d, _ := s.set(t)
		enough := d.Used() + 4*4*(len(s.l)/perPage+30) + 4*(len(s.verts)/vertsPerPage+1)
		hasFailed := false
		for quota := 0; quota <= enough; quota += 1 + enough/150 {
			d, p := s.set(t)
			before := d.Files()
			fine(t, d.Quota(quota))
			e := s.make(p)
			if e != api.OK && e != api.ErrFull {
				t.Fatalf("%s: Make with %d sectors: %d", s.what, quota, e)
			}
			hasFailed = hasFailed || e == api.ErrFull
			if e == api.ErrFull {
				s.isUndone(t, d, p, before)
				fine(t, d.Quota(enough), s.make(p))
			}
			s.isRight(t, d)
			holds(t, p, "x", textsOf(s.l))
		}
		if hasFailed != (len(counted(s.l))+len(s.verts) > 0) {
			t.Errorf("%s: is there room without room? %v", s.what, !hasFailed)
		}
		d, p := s.set(t)
		fine(t, d.Quota(enough), s.make(p))
		s.isRight(t, d)
	}
}

// isUndone says that behind a full disk there must be what was there ahead.
func (s scene) isUndone(t *testing.T, d *disk.Disk, p *pool.Pool, before []api.File) {
	t.Helper()
	hasFiles(t, d, append(names(gen-1), "x")...)
	s.stays(t, d)
	fine(t, d.Quota(mostRoom))
	holds(t, p, "x", textsOf(s.l))
	if !s.isFresh {
		isDone(t, p)
		if !sameFiles(d.Files(), before) {
			t.Fatalf("%s: other bytes", s.what)
		}
	}
}

func TestRoomForEachFile(t *testing.T) { // P13.1: so much that e, and then r, but no more has room: they are gone
	l, verts := ring(40, 3), vertsOf(400)
	d := laid(t, l)
	sizes := []int{4 * len(textsOf(l)), 4 * len(textsOf(l)), 4 * len(vertTextsOf(verts))}
	for some := range sizes {
		quota := d.Used()
		for _, size := range sizes[:some+1] {
			quota += size
		}
		// With so many frames the runs of the sorts are never written.
		d := laid(t, l)
		p := newPool(t, d, 200)
		fine(t, d.Quota(quota-1))
		refused(t, "no room", p, "x", 0, verts, api.ErrFull)
		fine(t, d.Quota(mostRoom), store.Make(p, "x", 0, verts))
		isGraph(t, open(t, p, 0), l, verts)
	}
}

func TestNoPowerBehindOpen(t *testing.T) { // P13.2 to P13.4: ErrDead; and with power all is told again
	l, verts := ring(40, 3), vertsOf(40)
	d := newDisk(t, mostRoom)
	layGen(t, d, 0, l, verts)
	for _, frames := range []int{1, 3, 100} {
		p := newPool(t, d, frames)
		g := open(t, p, 0)
		isGraph(t, g, l, verts)
		lose(t, d)
		isNoGraph(t, "no power", p, 0, api.ErrDead)
		isNoVert(t, g, 5, api.ErrDead)
		isNoEdge(t, g, 5, api.ErrDead)
		fine(t, d.On(nil))
		isGraph(t, g, l, verts)
	}
}
