package extsort_test

import (
	"bytes"
	"fmt"
	"slices"
	"sort"
	"strconv"
	"strings"
	"testing"

	"milepost/api"
	"milepost/disk"
	"milepost/extsort"
	"milepost/pool"
)

// The power that goes, and the room that is not there, at each operation of a sort.

// scene is a sort at which something fails.
type scene struct {
	what   string
	l      []api.Edge
	frames int
	by     int
	// isFresh is whether in was added through the pool, and not flushed.
	isFresh bool
}

// scenes are sorts of no run, of one and of more, some of which are merged more than once.
func scenes() []scene {
	r := random(4)
	return []scene{
		{"no edges", nil, fewest, 0, false},
		{"loops alone", []api.Edge{edge(1, 1, 2), edge(2, 2, 2)}, fewest, 0, false},
		{"one edge", apart(1), fewest, 0, false},
		{"one edge, not flushed", apart(1), fewest, 1, true},
		{"one run", apart(96), fewest, 0, false},
		{"one run, not flushed", apart(96), fewest, 0, true},
		{"three runs", apart(250), fewest, 1, false},
		{"three runs, not flushed", apart(250), fewest, 1, true},
		{"seven runs of few pairs", r.edges(660, 20, 3), fewest, 0, false},
		{"eight runs", apart(700), fewest, 0, false},
		{"thirteen runs, not flushed", apart(1200), fewest, 1, true},
		{"runs of nine frames", apart(9*108 + 1), fewest + 1, 0, false},
		{"one run of many frames", apart(300), 100, 0, false},
		{"one run of many frames, not flushed", apart(300), 100, 1, true},
	}
}

// set is a disk and a pool, ahead of the sort. A file "u" that lasts stands beside in.
func (s scene) set(t *testing.T) (*disk.Disk, *pool.Pool) {
	t.Helper()
	d := newDisk(t, mostRoom)
	lay(t, d, "u", textsOf(apart(30))...)
	if !s.isFresh {
		lay(t, d, "x", textsOf(s.l)...)
		return d, newPool(t, d, s.frames)
	}
	p := newPool(t, d, s.frames)
	added(t, p, s.l)
	return d, p
}

// sort does it.
func (s scene) sort(p *pool.Pool) api.Errno { return extsort.Sort(p, "x", "o", s.by) }

// isRight says what the files must be behind a sort.
func (s scene) isRight(t *testing.T, d *disk.Disk) {
	t.Helper()
	hasFiles(t, d, "o", "u", "x")
	lies(t, d, "o", counted(s.l, s.by))
	lies(t, d, "u", apart(30))
	if !s.isFresh {
		lies(t, d, "x", s.l)
	}
}

// step is how far from one operation to the next one at which the power goes: of the first ones, and of the last ones, it goes at each.
func step(n int) int {
	if n < 40 {
		return 1
	}
	return 1 + n/20
}

// losses are the operations at which the power goes, of so many.
func losses(operations int) []int {
	var l []int
	for n := 1; n <= operations; n += step(min(n, operations-n)) {
		l = append(l, n)
	}
	return l
}

// operations is how many a sort has: armed with one more it is not disturbed. It is found by halving.
func (s scene) operations(t *testing.T) int {
	t.Helper()
	return sort.Search(mostRoom, func(n int) bool {
		d, p := s.set(t)
		fine(t, d.Arm(n+1))
		return s.sort(p) == api.OK
	})
}

// keeps are sets of loose sectors that stay: none, all, and some of them.
func keeps(loose int) [][]int {
	var even, odd []int
	for i := range loose {
		if i%2 == 0 {
			even = append(even, i)
		} else {
			odd = append(odd, i)
		}
	}
	return [][]int{nil, upTo(loose), even, odd, upTo(loose / 2)}
}

// tidy removes what is neither in nor "u", as whoever goes on does.
func tidy(t *testing.T, d *disk.Disk) {
	t.Helper()
	for _, name := range d.Names() {
		if name != "x" && name != "u" {
			fine(t, d.Remove(name))
		}
	}
}

// lost lets the power go at an operation of a sort, and be on again with the loose sectors that keep says. It answers the disk and the pool.
func (s scene) lost(t *testing.T, n int, keep func(loose int) []int) (*disk.Disk, *pool.Pool) {
	t.Helper()
	d, p := s.set(t)
	fine(t, d.Arm(n))
	is(t, fmt.Sprintf("%s: Sort, the power goes at %d", s.what, n), s.sort(p), api.ErrDead)
	if _, pinned, _ := p.Held(); pinned != 0 || !d.Dead() {
		t.Fatalf("%s: %d frames pinned", s.what, pinned)
	}
	fine(t, d.On(keep(len(d.Loose()))))
	return d, p
}

func TestLossesOfPower(t *testing.T) { // P12.1, P12.3: at every operation; in is as it was, and a sort by whoever goes on is right
	t.Parallel()
	for _, s := range scenes() {
		for _, n := range losses(s.operations(t)) {
			for which := range keeps(0) {
				if n > 25 && which != n%5 {
					continue // one as the other
				}
				d, p := s.lost(t, n, func(loose int) []int { return keeps(loose)[which] })
				for _, name := range d.Names() {
					if name != "x" && name != "u" && name != "o" && !isOwn(name) {
						t.Fatalf("%s: a file %q", s.what, name)
					}
				}
				tidy(t, d)
				if !s.isFresh {
					lies(t, d, "x", s.l)
					fine(t, s.sort(newPool(t, d, fewest+which)))
					s.isRight(t, d)
				}
				s.goesOn(t, d, p)
			}
		}
	}
}

// isOwn says whether a name is t. and a number.
func isOwn(name string) bool {
	_, err := strconv.ParseUint(strings.TrimPrefix(name, "t."), 10, 64)
	return err == nil && strings.HasPrefix(name, "t.")
}

// goesOn sorts by the same pool again, whose frames have nothing of what was given up. What they had of in that was not flushed may have been lost with the power.
func (s scene) goesOn(t *testing.T, d *disk.Disk, p *pool.Pool) {
	t.Helper()
	tidy(t, d)
	if s.isFresh {
		fine(t, p.Drop("x"))
		lay(t, d, "x", textsOf(s.l)...)
	}
	fine(t, s.sort(p))
	s.isRight(t, d)
	holds(t, p, "o", counted(s.l, s.by))
	isDone(t, p)
}

func TestFullDisks(t *testing.T) { // P12.1, P12.3: whatever room there is: ErrFull, and nothing is there but what was, or it is done
	t.Parallel()
	for _, s := range scenes() {
		d, _ := s.set(t)
		enough := d.Used() + 4*3*(len(s.l)/perPage+30)
		hasFailed := false
		for quota := 0; quota <= enough; quota += 1 + enough/200 {
			d, p := s.set(t)
			before := d.Files()
			fine(t, d.Quota(quota))
			e := s.sort(p)
			if e != api.OK && e != api.ErrFull {
				t.Fatalf("%s: Sort with %d sectors: %d", s.what, quota, e)
			}
			hasFailed = hasFailed || e == api.ErrFull
			if e == api.ErrFull {
				s.isUndone(t, d, p, before)
				fine(t, d.Quota(enough), s.sort(p))
			}
			s.isRight(t, d)
			holds(t, p, "x", s.l)
		}
		if hasFailed != (len(counted(s.l, 0)) > 0) {
			t.Errorf("%s: is there room without room? %v", s.what, !hasFailed)
		}
		d, p := s.set(t)
		fine(t, d.Quota(enough), s.sort(p))
		s.isRight(t, d)
	}
}

// isUndone says that behind a full disk there must be what was there ahead.
func (s scene) isUndone(t *testing.T, d *disk.Disk, p *pool.Pool, before []api.File) {
	t.Helper()
	hasFiles(t, d, "u", "x")
	lies(t, d, "u", apart(30))
	if !s.isFresh && !sameFiles(d.Files(), before) {
		t.Fatalf("%s: other bytes", s.what)
	}
	fine(t, d.Quota(mostRoom))
	holds(t, p, "x", s.l)
	if !s.isFresh {
		isDone(t, p)
	}
}

func TestRoomThatIsEnough(t *testing.T) { // P12.3: three times that of in, and a page for each run, whatever is merged how often
	for _, n := range []int{1, 96, 97, 673, 2000, 6000} {
		l := apart(n)
		d := laid(t, l)
		pages := (n + perPage - 1) / perPage
		fine(t, d.Quota(4*(3*pages+n/96+2)), extsort.Sort(newPool(t, d, fewest), "x", "o", 0))
		lies(t, d, "o", counted(l, 0))
	}
}

func TestPagesOfOthersWithoutRoom(t *testing.T) { // P12.3: pages of others, that there is no room for, are not lost
	d := laid(t, apart(400))
	fine(t, d.Quota(d.Used()))
	p := newPool(t, d, fewest)
	fine(t, p.Create("w"))
	for k := range 3 {
		fine(t, p.Write("w", k, []byte{byte(k)}))
	}
	is(t, "Sort", extsort.Sort(p, "x", "o", 0), api.ErrFull)
	hasFiles(t, d, "w", "x")
	lies(t, d, "x", apart(400))
	fine(t, d.Quota(mostRoom))
	for k := range 3 {
		if b, e := p.Read("w", k); !bytes.Equal(b, []byte{byte(k)}) || e != api.OK {
			t.Fatalf("page %d of w: % x, %d", k, b, e)
		}
	}
	fine(t, extsort.Sort(p, "x", "o", 0))
	lies(t, d, "o", counted(apart(400), 0))
}

// runsOf are the sort's own files that were there at losses of power, by operations so far from one another, each with how many pages of it the disk had at most.
func (s scene) runsOf(t *testing.T, step int) map[string]int {
	t.Helper()
	runs := map[string]int{}
	for n, operations := 1, s.operations(t); n <= operations; n += step {
		d, _ := s.lost(t, n, upTo)
		for _, f := range d.Files() {
			if isOwn(f.Name) {
				runs[f.Name] = max(runs[f.Name], len(f.Bytes)/pageSize)
			}
		}
	}
	return runs
}

func TestHowManyEdgesAreHeld(t *testing.T) { // P12.2: no run is greater than all that may be held, and none needs to be less but the last one
	for _, test := range []struct{ frames, edges, runs int }{
		{fewest, 96, 1}, {fewest, 97, 2}, {fewest, 5*96 - 1, 5}, {fewest, 5 * 96, 5}, {fewest, 5*96 + 1, 6}, {fewest, 7 * 96, 7},
		{fewest + 1, 96, 1}, {fewest + 1, 108, 1}, {fewest + 1, 109, 2}, {fewest + 1, 3*108 + 5, 4},
		{20, 240, 1}, {20, 241, 2},
	} {
		s := scene{"runs", apart(test.edges), test.frames, 0, false}
		runs := s.runsOf(t, 1)
		if len(runs) != test.runs {
			t.Errorf("%d edges, %d frames: %d runs; want %d", test.edges, test.frames, len(runs), test.runs)
		}
		for name, pages := range runs {
			if pages > test.frames {
				t.Errorf("%d edges, %d frames: %s has %d pages", test.edges, test.frames, name, pages)
			}
		}
	}
}

func TestHowManyRunsAreMerged(t *testing.T) { // P12.2, P12.3: at no time more than there are frames for, each with a page, and one for the page that is written
	s := scene{"runs", apart(14*96 + 1), fewest, 0, false} // fifteen: two times seven are merged, and then these two and the last one
	runs := s.runsOf(t, 5)
	var names []string
	for name := range runs {
		names = append(names, name)
	}
	if slices.Sort(names); len(names) != 15+2 {
		t.Fatalf("own files: %q", names)
	}
	for _, name := range []string{"t.15", "t.16"} {
		if n := runs[name]; n < 7*fewest-fewest || n > 7*fewest {
			t.Errorf("%s has %d pages", name, n)
		}
	}
}
