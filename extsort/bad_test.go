package extsort_test

import (
	"bytes"
	"fmt"
	"math"
	"slices"
	"strconv"
	"strings"
	"testing"

	"milepost/api"
	"milepost/extsort"
	"milepost/pool"
)

// What may not be handed in, what is wrong with files, and frames that others hold.

func TestNoPool(t *testing.T) { // Errors: ahead of all else
	for _, in := range append(wrongNames(), "x", "t.0") {
		for _, out := range []string{in, "o", "t.1", ""} {
			for _, by := range append(wrongOrders(), orders()...) {
				if e := extsort.Sort(nil, in, out, by); e != api.ErrNil {
					t.Fatalf("Sort of %q to %q, order %d, without a pool: %d", in, out, by, e)
				}
			}
		}
	}
}

func TestWrongOrders(t *testing.T) { // P12.1: an order that is neither
	p := newPool(t, laid(t, apart(100)), fewest)
	for _, by := range wrongOrders() {
		refused(t, "order", p, "x", "o", by, api.ErrArg)
	}
}

func TestTooFewFrames(t *testing.T) { // P12.1: fewer than Bmin, whatever there is to be sorted
	for _, n := range []int{0, 1, 100} {
		for frames := 1; frames < fewest; frames++ {
			p := newPool(t, laid(t, apart(n)), frames)
			for _, by := range orders() {
				refused(t, strconv.Itoa(frames)+" frames", p, "x", "o", by, api.ErrArg)
			}
		}
	}
}

func TestInThatIsOut(t *testing.T) { // P12.1: whether there is such a file or not
	p := newPool(t, laid(t, apart(100)), fewest)
	for _, name := range append(wrongNames(), "x", "z") {
		refused(t, "the same", p, name, name, 0, api.ErrArg)
	}
}

func TestNamesOfTheSortsOwn(t *testing.T) { // P12.1: neither of the two begins with t., whether there are such files or not
	d := laid(t, apart(100))
	lay(t, d, "t.1", textsOf(apart(7))...)
	p := newPool(t, d, fewest)
	for _, own := range ownNames() {
		refused(t, "in", p, own, "o", 0, api.ErrArg)
		refused(t, "out", p, "x", own, 1, api.ErrArg)
		refused(t, "both", p, own, "t.3", 1, api.ErrArg)
	}
}

func TestNamesAlmostOfTheSortsOwn(t *testing.T) { // P12.1: t. must be what they begin with
	l := apart(200)
	for _, name := range []string{"t", "tt", "t0", "t-0", ".t", ".t.0", "xt.0", "0t.", "tt.0", "s.0", "u.0"} {
		d := laid(t, l)
		p := newPool(t, d, fewest)
		fine(t, extsort.Sort(p, "x", name, 0))
		lies(t, d, name, counted(l, 0))
		fine(t, extsort.Sort(p, name, "o", 1))
		lies(t, d, "o", counted(l, 1))
		hasFiles(t, d, name, "o", "x")
	}
}

func TestNamesOfFiles(t *testing.T) { // P12.1: what may not be, is not there, is there already
	d := laid(t, apart(100))
	lay(t, d, "o")
	lay(t, d, strings.Repeat("y", 24), textsOf(apart(3))...)
	p := newPool(t, d, fewest)
	for _, name := range wrongNames() {
		refused(t, "in may not be", p, name, "new", 0, api.ErrArg)
		refused(t, "out may not be", p, "x", name, 0, api.ErrArg)
	}
	for _, name := range []string{"z", "xx", strings.Repeat("z", 24)} {
		refused(t, "in is not there", p, name, "new", 0, api.ErrNone)
	}
	for _, name := range []string{"o", strings.Repeat("y", 24)} {
		refused(t, "out is there", p, "x", name, 0, api.ErrThere)
	}
	fine(t, extsort.Sort(p, "x", strings.Repeat("z", 24), 0), extsort.Sort(p, strings.Repeat("y", 24), "-", 0))
	lies(t, d, strings.Repeat("z", 24), counted(apart(100), 0))
	lies(t, d, "-", counted(apart(3), 0))
}

func TestPartsOfPages(t *testing.T) { // P12.1: the error of stream.Open of in
	for _, size := range []int{1, 20, 255, 257, 300} {
		d := newDisk(t, 100)
		fine(t, d.Create("x"), d.Write("x", 0, make([]byte, size)), d.Sync("x"))
		refused(t, "a part of a page", newPool(t, d, fewest), "x", "o", 0, api.ErrRot)
	}
}

func TestTheOrderOfErrors(t *testing.T) { // P12.1, R2
	d := laid(t, apart(100))
	lay(t, d, "o")
	lay(t, d, "t.0")
	lay(t, d, "rest", textOf(apart(2))[:39])
	lay(t, d, "rotten", textsOf(apart(30))...)
	fine(t, d.Create("part"), d.Write("part", 0, make([]byte, 9)), d.Sync("part"), d.Flip("rotten", 30, 1), d.Flip("rotten", 30+2*pageSize, 1))
	p, few := newPool(t, d, fewest), newPool(t, d, fewest-1)
	for _, out := range []string{"o", "A", "x", "t.0", "new"} {
		for _, in := range []string{"z", "A", "part", "rest", "rotten", "x"} {
			refused(t, "order, then all else", p, in, out, 2, api.ErrArg)
			refused(t, "frames, then all else", few, in, out, 0, api.ErrArg)
		}
		refused(t, "a name of the sort's own, then all else", p, "t.0", out, 0, api.ErrArg)
	}
	for _, out := range []string{"o", "A", "new"} {
		refused(t, "in is not there, then out", p, "z", out, 0, api.ErrNone)
		refused(t, "in may not be, then out", p, "B", out, 0, api.ErrArg)
		refused(t, "in is no pages, then out", p, "part", out, 0, api.ErrRot)
	}
	for _, in := range []string{"rest", "rotten", "x"} {
		refused(t, "out may not be, then what in holds", p, in, "A", 0, api.ErrArg)
		refused(t, "out is there, then what in holds", p, in, "o", 0, api.ErrThere)
	}
	refused(t, "what in holds", p, "rest", "new", 0, api.ErrRot)
	refused(t, "what in holds", p, "rotten", "new", 0, api.ErrRot)
}

func TestNoPower(t *testing.T) { // P12.1, R2: what may not be handed in is told ahead of it
	d := laid(t, apart(100))
	p, few := newPool(t, d, fewest), newPool(t, d, fewest-1)
	lose(t, d)
	for _, in := range []string{"x", "z", "A"} {
		for _, out := range []string{"o", "A!"} {
			for _, test := range []struct {
				p       *pool.Pool
				in, out string
				by      int
				want    api.Errno
			}{{p, in, out, 0, api.ErrDead}, {p, in, out, 9, api.ErrArg}, {few, in, out, 0, api.ErrArg}, {p, in, in, 0, api.ErrArg}, {p, "t.0", out, 0, api.ErrArg}} {
				if e := extsort.Sort(test.p, test.in, test.out, test.by); e != test.want {
					t.Errorf("Sort of %q to %q, order %d: %d; want %d", test.in, test.out, test.by, e, test.want)
				}
			}
		}
	}
	fine(t, d.On(nil))
	hasFiles(t, d, "x")
}

// Files that are no whole records, and pages that have rotted.

func TestFilesThatAreNoWholeRecords(t *testing.T) { // P12.1, Errors: a page of each length, at each place of a file of more than one run
	l := apart(12 * 12)
	full := textsOf(l)
	for n := range api.Room + 1 {
		for k := range full {
			if n%edgeSize > 1 && n%edgeSize < edgeSize-1 && k%5 != n%5 {
				continue // one as the other
			}
			texts := slices.Clone(full)
			texts[k] = texts[k][:n]
			d := newDisk(t, mostRoom)
			lay(t, d, "x", texts...)
			p := newPool(t, d, fewest)
			switch what := fmt.Sprintf("page %d of %d bytes", k, n); {
			case n%edgeSize != 0, k == len(full)-1 && n == 0:
				refused(t, what, p, "x", "o", 0, api.ErrRot)
			case k < len(full)-1 && n < api.Room: // records are wanting that ought to be there
				refused(t, what, p, "x", "o", 0, api.ErrNone)
			default:
				fine(t, extsort.Sort(p, "x", "o", 0))
				lies(t, d, "o", counted(l[:len(l)-perPage+len(texts[len(texts)-1])/edgeSize], 0))
			}
		}
	}
}

func TestPagesThatHaveRotted(t *testing.T) { // P12.1, Errors: each page, some bits of it
	l := apart(250)
	for k := range textsOf(l) {
		for _, at := range []int{0, 4, 8, 12, 13, 31, 130, 250, 255} {
			d := laid(t, l)
			p := newPool(t, d, fewest)
			fine(t, d.Flip("x", k*pageSize+at, 1<<(at%8)))
			refused(t, fmt.Sprintf("page %d, byte %d", k, at), p, "x", "o", at%2, api.ErrRot)
			fine(t, d.Flip("x", k*pageSize+at, 1<<(at%8)), extsort.Sort(p, "x", "o", 0))
			lies(t, d, "o", counted(l, 0))
		}
	}
}

func TestPagesOfAnotherFile(t *testing.T) { // P12.1: they are as rotten ones
	d := laid(t, apart(100))
	fine(t, d.Rename("x", "y"))
	refused(t, "a file that had another name", newPool(t, d, fewest), "y", "o", 0, api.ErrRot)
}

// Files of the sort's own names that are there already.

func TestOwnNamesThatAreThere(t *testing.T) { // Words, P12.1: they are in the way, or not; they are as they were all the same
	l := apart(10 * perPage * fewest)
	for k := range 20 {
		d := laid(t, l)
		name := "t." + strconv.Itoa(k)
		others := fileOf(name, textOf(apart(3)))
		fine(t, d.Create(name), d.Write(name, 0, others), d.Sync(name))
		p := newPool(t, d, fewest)
		before := d.Files()
		switch e := extsort.Sort(p, "x", "o", 0); e {
		case api.OK:
			hasFiles(t, d, name, "o", "x")
			lies(t, d, "o", counted(l, 0))
		case api.ErrThere:
			if !sameFiles(d.Files(), before) {
				t.Fatalf("%s: files %q, or other bytes", name, d.Names())
			}
		default:
			t.Fatalf("%s: Sort: %d", name, e)
		}
		if b, e := d.Read(name, 0, mostSize); !bytes.Equal(b, others) || e != api.OK {
			t.Fatalf("%s is not as it was: %d", name, e)
		}
		lies(t, d, "x", l)
		isDone(t, p)
	}
}

func TestTheFirstOwnNameIsThere(t *testing.T) { // P12.1: that is an error of the pool that comes up, in each sort that makes a run
	for _, n := range []int{1, 95, 96, 97, 2000} {
		d := laid(t, apart(n))
		lay(t, d, "t.0", textOf(apart(3)))
		p := newPool(t, d, fewest)
		refused(t, strconv.Itoa(n)+" edges", p, "x", "o", 0, api.ErrThere)
		fine(t, p.Write("t.0", 1, []byte{1})) // which the disk does not have
		is(t, "Sort", extsort.Sort(p, "x", "o", 0), api.ErrThere)
		if b, e := p.Read("t.0", 1); !bytes.Equal(b, []byte{1}) || e != api.OK {
			t.Fatalf("t.0 is not as it was: % x, %d", b, e)
		}
		fine(t, p.Drop("t.0"), extsort.Sort(p, "x", "o", 0))
		lies(t, d, "o", counted(apart(n), 0))
	}
}

// Frames that others have pinned.

// pinOther lets so many frames be pinned by pages of a file "other" that is made for it.
func pinOther(t *testing.T, p *pool.Pool, pins int) {
	t.Helper()
	lay(t, p.Disk(), "other", make([][]byte, pins)...)
	for k := range pins {
		if _, e := p.Pin("other", k); e != api.OK {
			t.Fatalf("Pin of %d: %d", k, e)
		}
	}
}

func TestPinnedFrames(t *testing.T) { // P12.1, P12.3: one that is not pinned is enough; the sort pins none
	l := apart(1100)
	for _, frames := range []int{fewest, fewest + 3} {
		for pins := range frames {
			for _, by := range orders() {
				d := laid(t, l)
				p := newPool(t, d, frames)
				pinOther(t, p, pins)
				fine(t, extsort.Sort(p, "x", "o", by))
				lies(t, d, "o", counted(l, by))
				lies(t, d, "x", l)
				hasFiles(t, d, "o", "other", "x")
				_, pinned, dirty := p.Held()
				if most, all := p.Peak(); pinned != pins || dirty != 0 || all != pins || most > frames {
					t.Fatalf("%d of %d frames pinned: Held: %d, %d; Peak: %d %d", pins, frames, pinned, dirty, most, all)
				}
			}
		}
	}
}

func TestPinnedPagesOfIn(t *testing.T) { // P12.1: it is read all the same
	l := apart(1100)
	d := laid(t, l)
	p := newPool(t, d, fewest)
	for _, k := range []int{0, 3, 40, 90, 91} {
		if _, e := p.Pin("x", k); e != api.OK {
			t.Fatal(e)
		}
	}
	fine(t, extsort.Sort(p, "x", "o", 1))
	lies(t, d, "o", counted(l, 1))
	for _, k := range []int{0, 3, 40, 90, 91} {
		fine(t, p.Unpin("x", k))
	}
}

func TestNoFrameThatIsNotPinned(t *testing.T) { // P12.1: ErrPins comes up, where a page is to be brought or written
	d := laid(t, apart(100))
	lay(t, d, "empty")
	p := newPool(t, d, fewest)
	pinOther(t, p, fewest)
	refused(t, "all pinned by others", p, "x", "o", 0, api.ErrPins)
	refused(t, "out is there", p, "x", "other", 0, api.ErrThere)
	fine(t, extsort.Sort(p, "empty", "o", 0)) // without edges no frame is asked for
	lies(t, d, "o", nil)
	fine(t, p.Unpin("other", 5), extsort.Sort(p, "x", "a", 0))
	lies(t, d, "a", counted(apart(100), 0))

	d = laid(t, apart(fewest*perPage))
	p = newPool(t, d, fewest)
	for k := range fewest {
		if _, e := p.Pin("x", k); e != api.OK {
			t.Fatal(e)
		}
	}
	refused(t, "all pinned by in", p, "x", "o", 0, api.ErrPins)
	fine(t, p.Unpin("x", 7), extsort.Sort(p, "x", "o", 0))
	lies(t, d, "o", counted(apart(fewest*perPage), 0))
}

func TestAnyArguments(t *testing.T) { // R1: every call ends, and none panics
	names := append(append(wrongNames(), ownNames()...), "x", "o", "z")
	bys := append(wrongOrders(), orders()...)
	r := random(2)
	for range 2000 {
		p := newPool(t, laid(t, r.edges(r.below(30), 5, 5)), 1+r.below(12))
		if r.below(9) == 0 {
			lose(t, p.Disk())
		}
		if r.below(9) == 0 {
			fine(t, p.Disk().Quota(r.below(20)))
		}
		if r.below(9) == 0 {
			p = nil
		}
		e := extsort.Sort(p, names[r.below(len(names))], names[r.below(len(names))], bys[r.below(len(bys))])
		if (e == api.ErrNil) != (p == nil) || e < api.OK || e > api.ErrPins {
			t.Fatal(e)
		}
	}
	for _, by := range []int{math.MinInt, math.MaxInt} {
		is(t, "Sort", extsort.Sort(newPool(t, laid(t, nil), fewest), "x", "o", by), api.ErrArg)
	}
}
