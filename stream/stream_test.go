package stream_test

import (
	"bytes"
	"math"
	"slices"
	"strings"
	"testing"

	"milepost/api"
	"milepost/disk"
	"milepost/pool"
	"milepost/stream"
)

func TestLimits(t *testing.T) { // Words, P11.1
	if api.Room != most || api.Page != pageSize || api.MaxB != mostFrames || api.MaxSize != mostSize {
		t.Error("package api has other limits than the chapters")
	}
}

func TestExamples(t *testing.T) { // P11.2 to P11.4: the chapter's
	p, s := made(t, 2, 100, 3)
	holds(t, p, slices.Concat(recOf(100, 0), recOf(100, 1)), recOf(100, 2))
	isLen(t, s, 3)
	isNoRec(t, s, 100, 3, api.ErrNone)
	is(t, "Add of 99 bytes", s.Add(make([]byte, 99)), api.ErrArg)
	isStream(t, s, 100, recsOf(100, 3)...)
}

// P11.1.

func TestOpenOfSizes(t *testing.T) { // P11.1: 1 to Room, whatever stands in the file
	for _, texts := range [][][]byte{nil, {bytesOf(37, 1)}, {nil, bytesOf(most, 1), nil}} {
		p, _ := laid(t, 1, 1, texts...)
		isUnchanged(t, p, "Open", func() {
			for size := 1; size <= most; size++ {
				open(t, p, "a", size)
			}
			for _, size := range wrongSizes() {
				if s, e := stream.Open(p, "a", size); s != nil || e != api.ErrArg {
					t.Errorf("Open of size %d: %v, %d", size, s, e)
				}
			}
		})
	}
}

func TestOpenOfNames(t *testing.T) { // P11.1: the error of p.Pages
	p, _ := laid(t, 2, 100, bytesOf(100, 1))
	isUnchanged(t, p, "Open", func() {
		for _, size := range []int{1, 100, most} {
			for _, name := range wrongNames() {
				if s, e := stream.Open(p, name, size); s != nil || e != api.ErrArg {
					t.Errorf("Open of %q: %v, %d", name, s, e)
				}
			}
			for _, name := range []string{"b", "aa", "a.", strings.Repeat("a", 24)} {
				if s, e := stream.Open(p, name, size); s != nil || e != api.ErrNone {
					t.Errorf("Open of %q: %v, %d", name, s, e)
				}
			}
		}
	})
	if names := p.Disk().Names(); !slices.Equal(names, []string{"a"}) {
		t.Errorf("files: %q", names)
	}
}

func TestOpenOfPartsOfPages(t *testing.T) { // P11.1: the error of p.Pages
	for _, size := range []int{1, 100, 255, 257, 511} {
		d := newDisk(t, 100)
		fine(t, d.Create("a"), d.Write("a", 0, make([]byte, size)))
		if s, e := stream.Open(newPool(t, d, 2), "a", 100); s != nil || e != api.ErrRot {
			t.Errorf("Open of %d bytes: %v, %d", size, s, e)
		}
	}
}

func TestTheOrderOfOpen(t *testing.T) { // P11.1, R2: size, then p.Pages
	p, _ := laid(t, 2, 100)
	fine(t, p.Disk().Create("b"), p.Disk().Write("b", 0, make([]byte, 9)))
	refused := func(what, name string, size int, want api.Errno) {
		t.Helper()
		if s, e := stream.Open(p, name, size); s != nil || e != want {
			t.Errorf("%s: %v, %d; want %d", what, s, e, want)
		}
	}
	for _, size := range wrongSizes() {
		refused("size, no file", "z", size, api.ErrArg)
		refused("size, part of a page", "b", size, api.ErrArg)
	}
	lose(t, p.Disk())
	for _, size := range wrongSizes() {
		refused("size, no power", "a", size, api.ErrArg)
	}
	refused("no power", "a", 100, api.ErrDead)
	refused("no file, no power", "z", 100, api.ErrDead)
	refused("a wrong name, no power", "A", 100, api.ErrDead)
}

func TestOpenReadsNoPage(t *testing.T) { // P11.1: neither rotten ones nor pinned frames hinder it
	p, _ := laid(t, 2, 100, bytesOf(7, 1), bytesOf(100, 2))
	fine(t, p.Disk().Flip("a", 20, 1), p.Disk().Flip("a", pageSize+20, 1))
	pinAll(t, p, 2)
	isUnchanged(t, p, "Open", func() { open(t, p, "a", 100) })
}

func TestNothingIsKept(t *testing.T) { // P11.1: but pool, name and size; what the pool says of the file holds
	p, s := made(t, 4, 100, 3)
	fine(t, p.Write("a", 1, slices.Concat(recOf(100, 7), recOf(100, 8))), p.Write("a", 2, recOf(100, 9)))
	isStream(t, s, 100, recOf(100, 0), recOf(100, 1), recOf(100, 7), recOf(100, 8), recOf(100, 9))
	fine(t, p.Drop("a"))
	isNoLen(t, s, api.ErrNone)
	isNoRec(t, s, 100, 0, api.ErrNone)
	is(t, "Add", s.Add(recOf(100, 0)), api.ErrNone)
	fine(t, p.Create("a"))
	isStream(t, s, 100)
	add(t, s, recOf(100, 4))
	isStream(t, s, 100, recOf(100, 4))
	fine(t, p.Flush("a"), p.Drop("a"), p.Create("b"), p.Write("b", 0, recOf(100, 6)), p.Flush("b"), p.Disk().Rename("b", "a"))
	isNoLen(t, s, api.ErrRot) // it is a page of another name
	is(t, "pool's Write", p.Write("a", 0, recOf(100, 5)), api.OK)
	isStream(t, s, 100, recOf(100, 5))
}

func TestStreamsOfOneFile(t *testing.T) { // P11.1: each counts by its own size, and neither keeps anything
	p, s := made(t, 4, 100, 0)
	again := open(t, p, "a", 100)
	for i := range 7 {
		add(t, []*stream.Stream{s, again}[i%2], recOf(100, i))
		isStream(t, s, 100, recsOf(100, i+1)...)
		isStream(t, again, 100, recsOf(100, i+1)...)
	}
	half := open(t, p, "a", 50)
	isLen(t, half, 3*4+2)
	for i := range 7 {
		k := i/2*4 + i%2*2
		isRec(t, half, k, recOf(100, i)[:50])
		isRec(t, half, k+1, recOf(100, i)[50:])
	}
	is(t, "Set", half.Set(1, bytesOf(50, 3)), api.OK)
	isRec(t, s, 0, slices.Concat(recOf(100, 0)[:50], bytesOf(50, 3)))
	wide := open(t, p, "a", 200)
	isNoLen(t, wide, api.ErrRot)
	isRec(t, wide, 2, slices.Concat(recOf(100, 4), recOf(100, 5)))
	isNoRec(t, wide, 200, 3, api.ErrRot)
}

// P11.2.

func TestLen(t *testing.T) { // P11.2: without pages, with one, with a last page that is full and one that is not
	for size := 1; size <= most; size++ {
		fit := fits(size)
		for _, n := range []int{0, 1, fit - 1, fit, fit + 1, 2*fit - 1, 2 * fit, 2*fit + 1, 3 * fit} {
			p, s := laid(t, 4, size, pagesOf(size, recsOf(size, n))...)
			isLen(t, s, n)
			pages, want := 0, 0
			for ; want < n; want += fit {
				pages++
			}
			if got, e := p.Pages("a"); got != pages || e != api.OK {
				t.Fatalf("%d records of %d: %d pages, %d; want %d", n, size, got, e, pages)
			}
		}
	}
}

func TestLenOfWhatWasAdded(t *testing.T) { // P11.2, P11.4: one by one
	for _, size := range sizes() {
		p, s := made(t, 3, size, 0)
		isLen(t, s, 0)
		for i := range 3*fits(size) + 1 {
			add(t, s, recOf(size, i))
			isLen(t, s, i+1)
		}
		if n, e := p.Pages("a"); n != 4 || e != api.OK {
			t.Errorf("size %d: %d pages, %d", size, n, e)
		}
	}
}

func TestLenReadsTheLastPageAlone(t *testing.T) { // P11.2: whatever stands on those ahead
	p, s := laid(t, 8, 100, bytesOf(100, 1), bytesOf(33, 2), nil, bytesOf(200, 3), bytesOf(100, 4))
	fine(t, p.Disk().Flip("a", 20, 1), p.Disk().Flip("a", 3*pageSize+20, 1))
	isLen(t, s, 9)
	isHeld(t, p, 1, 0, 0)
	is(t, "Flip", p.Disk().Flip("a", 4*pageSize+20, 1), api.OK)
	isLen(t, s, 9) // a frame holds it
	isHeld(t, p, 1, 0, 0)
}

func TestLenOfTheGreatestFile(t *testing.T) { // P11.2, P11.3, R1
	const pages = mostSize / pageSize
	d := newDisk(t, 1<<20)
	fine(t, d.Create("a"), d.Write("a", 0, make([]byte, mostSize)))
	fine(t, d.Write("a", mostSize-pageSize, pageOf("a", pages-1, bytesOf(17, 5))))
	p := newPool(t, d, 2)
	s := open(t, p, "a", 1)
	isLen(t, s, (pages-1)*most+17)
	isRec(t, s, (pages-1)*most+16, bytesOf(17, 5)[16:])
	isNoRec(t, s, 1, (pages-1)*most+17, api.ErrNone)
	isNoRec(t, s, 1, pages*most, api.ErrNone)
	isNoRec(t, s, 1, (pages-1)*most-1, api.ErrRot)
	add(t, s, []byte{9})
	isLen(t, s, (pages-1)*most+18)
}

// P11.3.

func TestGet(t *testing.T) { // P11.3: the first and the last record of each page, and all between
	for size := 1; size <= most; size++ {
		n := 2*fits(size) + (fits(size)+1)/2
		_, s := laid(t, 2, size, pagesOf(size, recsOf(size, n))...)
		for i := range n {
			isRec(t, s, i, recOf(size, i))
		}
		for i := n - 1; i >= 0; i-- {
			isRec(t, s, i, recOf(size, i))
		}
	}
}

func TestPlacesThatAreNotThere(t *testing.T) { // P11.3, P11.4: one behind the last one, one on a page that is not there, below 0
	for _, size := range sizes() {
		fit := fits(size)
		for _, n := range []int{0, 1, fit - 1, fit, fit + 1, 2 * fit, 2*fit + 1} {
			texts := pagesOf(size, recsOf(size, n))
			p, s := laid(t, 4, size, texts...)
			isLen(t, s, n)
			isUnchanged(t, p, "a place that is not there", func() {
				for i := n; i < n+2*fit+1; i++ {
					isNoRec(t, s, size, i, api.ErrNone)
				}
				for _, i := range below() {
					isNoRec(t, s, size, i, api.ErrArg)
				}
				for _, i := range beyond() {
					isNoRec(t, s, size, i, api.ErrNone)
				}
			})
			holds(t, p, texts...)
		}
	}
}

func TestGetReadsItsPageAlone(t *testing.T) { // P11.3
	p, s := laid(t, 8, 100, bytesOf(33, 1), pagesOf(100, recsOf(100, 2))[0], bytesOf(34, 1), nil)
	fine(t, p.Disk().Flip("a", 20, 1), p.Disk().Flip("a", 2*pageSize+20, 1))
	isRec(t, s, 2, recOf(100, 0))
	isRec(t, s, 3, recOf(100, 1))
	isHeld(t, p, 1, 0, 0)
}

func TestAskingTurnsNothing(t *testing.T) { // P11.2, P11.3: no frame is dirty, and none pinned
	texts := pagesOf(100, recsOf(100, 7))
	p, s := laid(t, 3, 100, texts...)
	isStream(t, s, 100, recsOf(100, 7)...)
	isHeld(t, p, 3, 0, 0)
	holds(t, p, texts...)
	lies(t, p.Disk(), "a", texts...)
	is(t, "Drop", p.Drop("a"), api.OK)
}

// P11.4.

func TestAdd(t *testing.T) { // P11.4: page by page, one that is opened and one that is filled
	for _, size := range sizes() {
		p, s := made(t, 5, size, 0)
		n := 3*fits(size) + 1
		for i := range n {
			add(t, s, recOf(size, i))
			holds(t, p, pagesOf(size, recsOf(size, i+1))...)
		}
		isStream(t, s, size, recsOf(size, n)...)
		lasts(t, p, pagesOf(size, recsOf(size, n))...)
	}
}

func TestAddOfEachSize(t *testing.T) { // P11.4: as many as fit, and a page more
	for size := 1; size <= most; size++ {
		p, s := made(t, 2, size, 2*fits(size))
		if n, e := p.Pages("a"); n != 2 || e != api.OK {
			t.Fatalf("size %d: %d pages, %d", size, n, e)
		}
		add(t, s, recOf(size, 2*fits(size)))
		holds(t, p, pagesOf(size, recsOf(size, 2*fits(size)+1))...)
	}
}

func TestAddToWhatIsThere(t *testing.T) { // P11.4: behind what another stream, and another pool, left
	for _, size := range sizes() {
		for n := range 2*fits(size) + 2 {
			p, s := laid(t, 2, size, pagesOf(size, recsOf(size, n))...)
			add(t, s, recOf(size, n))
			isStream(t, s, size, recsOf(size, n+1)...)
			lasts(t, p, pagesOf(size, recsOf(size, n+1))...)
		}
	}
}

func TestAddReadsTheLastPageAlone(t *testing.T) { // P11.4: and writes one page, no more
	p, s := laid(t, 8, 100, nil, bytesOf(33, 1), bytesOf(100, 2))
	fine(t, p.Disk().Flip("a", 20, 1), p.Disk().Flip("a", pageSize+20, 1))
	add(t, s, recOf(100, 0))
	isHeld(t, p, 1, 0, 1)
	add(t, s, recOf(100, 1))
	isHeld(t, p, 2, 0, 2)
	fine(t, p.Flush("a"))
	add(t, s, recOf(100, 2))
	isHeld(t, p, 2, 0, 1)
	fine(t, p.Flush("a"))
	add(t, s, recOf(100, 3)) // the page that is full is not written
	isHeld(t, p, 3, 0, 1)
}

func TestAddAndSetOfWrongLengths(t *testing.T) { // P11.4: Set at a place that is there, too
	for _, size := range sizes() {
		fit := fits(size)
		for _, n := range []int{0, 1, fit, fit + 1} {
			texts := pagesOf(size, recsOf(size, n))
			p, s := laid(t, 3, size, texts...)
			isUnchanged(t, p, "a wrong length", func() {
				for length := range most + 30 {
					if length == size {
						continue
					}
					is(t, "Add", s.Add(bytesOf(length, 1)), api.ErrArg)
					is(t, "Set", s.Set(0, bytesOf(length, 1)), api.ErrArg)
					is(t, "Set", s.Set(n-1, bytesOf(length, 1)), api.ErrArg)
				}
				is(t, "Add of nothing", s.Add(nil), api.ErrArg)
				is(t, "Set of nothing", s.Set(0, nil), api.ErrArg)
				is(t, "Add of 2^20 bytes", s.Add(make([]byte, 1<<20)), api.ErrArg)
				is(t, "Set of 2^20 bytes", s.Set(0, make([]byte, 1<<20)), api.ErrArg)
			})
			holds(t, p, texts...)
		}
	}
}

func TestSet(t *testing.T) { // P11.4, P11.5: the first and the last record of each page, and all between; no other one is turned
	for _, size := range sizes() {
		n := 2*fits(size) + (fits(size)+1)/2
		for i := range n {
			p, s := laid(t, 4, size, pagesOf(size, recsOf(size, n))...)
			is(t, "Set", s.Set(i, otherOf(size, i)), api.OK)
			isHeld(t, p, 1, 0, 1)
			holds(t, p, pagesOf(size, with(recsOf(size, n), i, otherOf(size, i)))...)
			isLen(t, s, n)
			isRec(t, s, i, otherOf(size, i))
		}
	}
}

func TestSetAgain(t *testing.T) { // P11.5: what was set last is there
	for _, size := range sizes() {
		p, s := made(t, 2, size, 2*fits(size)+1)
		recs := recsOf(size, 2*fits(size)+1)
		for round := range 3 {
			for i := range recs {
				recs[i] = otherOf(size, i+7*round)
				is(t, "Set", s.Set(i, recs[i]), api.OK)
			}
			isStream(t, s, size, recs...)
			recs = append(recs, recOf(size, round))
			add(t, s, recs[len(recs)-1])
		}
		lasts(t, p, pagesOf(size, recs)...)
	}
}

func TestSetOfTheSame(t *testing.T) { // P11.4: it is written even so
	p, s := laid(t, 2, 100, pagesOf(100, recsOf(100, 3))...)
	is(t, "Set", s.Set(2, recOf(100, 2)), api.OK)
	isHeld(t, p, 1, 0, 1)
	isStream(t, s, 100, recsOf(100, 3)...)
}

func TestTheOrderOfRefusals(t *testing.T) { // P11.3, P11.4, R2: length, place below 0, p.Pages, page, its bytes, record
	p, s := laid(t, 2, 100, bytesOf(77, 1), bytesOf(100, 2))
	wrong := bytesOf(99, 1)
	for _, i := range []int{math.MinInt, -1, 0, 2, 3, 4, math.MaxInt} { // below 0, on bad pages, there, not there
		is(t, "Set: length, place", s.Set(i, wrong), api.ErrArg)
	}
	isNoRec(t, s, 100, 0, api.ErrRot)
	isNoRec(t, s, 100, 1, api.ErrRot)
	isNoRec(t, s, 100, 3, api.ErrNone)
	isNoRec(t, s, 100, 4, api.ErrNone)
	isNoRec(t, s, 100, -1, api.ErrArg)
	d := p.Disk()
	fine(t, d.Cut("a", pageSize+9))
	for _, i := range []int{0, 2, 3, 4, math.MaxInt} {
		isNoRec(t, s, 100, i, api.ErrRot) // p.Pages tells it ahead of a page that is not there
	}
	isNoRec(t, s, 100, -1, api.ErrArg)
	is(t, "Add: part of a page", s.Add(recOf(100, 0)), api.ErrRot)
	is(t, "Add: length, part of a page", s.Add(wrong), api.ErrArg)
	is(t, "Set: length, part of a page", s.Set(0, wrong), api.ErrArg)
	isNoLen(t, s, api.ErrRot)
	fine(t, d.Remove("a"))
	isNoRec(t, s, 100, 4, api.ErrNone)
	isNoRec(t, s, 100, -1, api.ErrArg)
	is(t, "Add: no file", s.Add(recOf(100, 0)), api.ErrNone)
	is(t, "Add: length, no file", s.Add(wrong), api.ErrArg)
	is(t, "Set: length, no file", s.Set(0, wrong), api.ErrArg)
	isNoLen(t, s, api.ErrNone)
	lose(t, d)
	isNoRec(t, s, 100, -1, api.ErrArg)
	isNoRec(t, s, 100, 0, api.ErrDead)
	isNoRec(t, s, 100, math.MaxInt, api.ErrDead)
	is(t, "Add: no power", s.Add(recOf(100, 0)), api.ErrDead)
	is(t, "Add: length, no power", s.Add(wrong), api.ErrArg)
	is(t, "Set: length, no power", s.Set(0, wrong), api.ErrArg)
	isNoLen(t, s, api.ErrDead)
}

func TestNoCallAsksTheDiskForMore(t *testing.T) { // P11.2 to P11.4: while there are frames, no call is an operation; nothing is flushed
	p, s := made(t, 8, 100, 0)
	is(t, "Arm", p.Disk().Arm(1), api.OK)
	add(t, s, recsOf(100, 7)...)
	is(t, "Set", s.Set(3, otherOf(100, 3)), api.OK)
	isStream(t, s, 100, with(recsOf(100, 7), 3, otherOf(100, 3))...)
	open(t, p, "a", 50)
	if p.Disk().Dead() {
		t.Fatal("an operation")
	}
	isHeld(t, p, 4, 0, 4)
	lies(t, p.Disk(), "a")
	is(t, "Arm", p.Disk().Arm(0), api.OK)
	lasts(t, p, pagesOf(100, with(recsOf(100, 7), 3, otherOf(100, 3)))...)
}

// P11.5.

func TestStreamsOfOnePool(t *testing.T) { // P11.5: each has its own records
	for _, frames := range []int{1, 2, 3, 8} {
		p := newPool(t, newDisk(t, 1000), frames)
		var streams []*stream.Stream
		names, lengths := []string{"a", "b", "c.1", "d-2"}, []int{100, 20, 240, 7}
		for i, name := range names {
			is(t, "Create", p.Create(name), api.OK)
			streams = append(streams, open(t, p, name, lengths[i]))
		}
		for k := range 60 {
			for i, s := range streams {
				add(t, s, recOf(lengths[i], k+i))
			}
		}
		for i, s := range streams {
			is(t, "Set", s.Set(30+i, recOf(lengths[i], 200)), api.OK)
		}
		for i, s := range streams {
			recs := recsOf(lengths[i], 60+i)[i:]
			isStream(t, s, lengths[i], with(recs, 30+i, recOf(lengths[i], 200))...)
		}
	}
}

func TestStreamsOfTwoPools(t *testing.T) { // P11.5, R5
	p, s := made(t, 2, 100, 3)
	q, u := made(t, 2, 100, 5)
	is(t, "Set", s.Set(0, otherOf(100, 0)), api.OK)
	isStream(t, u, 100, recsOf(100, 5)...)
	isStream(t, s, 100, with(recsOf(100, 3), 0, otherOf(100, 0))...)
	lose(t, q.Disk())
	isNoLen(t, u, api.ErrDead)
	lasts(t, p, pagesOf(100, with(recsOf(100, 3), 0, otherOf(100, 0)))...)
}

func TestWhatWasAddedIsThereBehindALoss(t *testing.T) { // P11.5: once it is flushed, by another pool and stream too
	for _, size := range sizes() {
		n := 3*fits(size) - 1
		p, s := made(t, 2, size, n)
		is(t, "Flush", p.Flush("a"), api.OK)
		lose(t, p.Disk())
		isNoLen(t, s, api.ErrDead)
		fine(t, p.Disk().On(nil))
		isStream(t, s, size, recsOf(size, n)...)
		s = open(t, newPool(t, p.Disk(), 1), "a", size)
		isStream(t, s, size, recsOf(size, n)...)
		add(t, s, recOf(size, n))
		isStream(t, s, size, recsOf(size, n+1)...)
	}
}

// R1, R3, R4.

func TestWhatIsHandedInIsNotKept(t *testing.T) { // R3: nor changed, the room behind its end neither
	for _, size := range sizes() {
		p, s := made(t, 3, size, 0)
		for i := range fits(size) + 1 {
			whole := bytesOf(size+30, 7)
			add(t, s, whole[:size])
			if !bytes.Equal(whole, bytesOf(size+30, 7)) {
				t.Fatal("what was handed in to Add is turned")
			}
			turn(whole)
			isRec(t, s, i, bytesOf(size+30, 7)[:size])
		}
		for i := range fits(size) + 1 {
			whole := bytesOf(size+30, 9)
			is(t, "Set", s.Set(i, whole[:size]), api.OK)
			if !bytes.Equal(whole, bytesOf(size+30, 9)) {
				t.Fatal("what was handed in to Set is turned")
			}
			turn(whole)
			isRec(t, s, i, bytesOf(size+30, 9)[:size])
		}
		whole := bytesOf(size+30, 11)
		add(t, s, whole[:size]) // and more behind it, on the same page where that fits
		add(t, s, recOf(size, 1))
		is(t, "Set", s.Set(fits(size)+1, recOf(size, 2)), api.OK)
		if !bytes.Equal(whole, bytesOf(size+30, 11)) {
			t.Fatal("what was handed in to Add is turned later")
		}
		isLen(t, s, fits(size)+3)
		is(t, "Flush", p.Flush("a"), api.OK)
	}
}

// turn turns all bytes of a list, and of the room behind its end.
func turn(b []byte) {
	b = b[:cap(b)]
	for i := range b {
		b[i] ^= 0xff
	}
}

func TestWhatIsAnsweredIsNewMemory(t *testing.T) { // R3: whatever the caller does with it
	for _, size := range sizes() {
		n := fits(size) + 1
		p, s := made(t, 2, size, n)
		for i := range n {
			b, e := s.Get(i)
			is(t, "Get", e, api.OK)
			c, e := s.Get(i)
			is(t, "Get", e, api.OK)
			next, e := s.Get((i + 1) % n)
			is(t, "Get", e, api.OK)
			turn(b)
			if !bytes.Equal(c, recOf(size, i)) || !bytes.Equal(next, recOf(size, (i+1)%n)) {
				t.Fatal("two answers share memory")
			}
			turn(c)
		}
		isStream(t, s, size, recsOf(size, n)...)
		b, e := s.Get(0)
		is(t, "Get", e, api.OK)
		is(t, "Set", s.Set(0, otherOf(size, 0)), api.OK)
		if !bytes.Equal(b, recOf(size, 0)) {
			t.Fatal("what was answered is turned by Set")
		}
		is(t, "Set", s.Set(0, b), api.OK)
		lasts(t, p, pagesOf(size, recsOf(size, n))...)
	}
}

func TestNoPool(t *testing.T) { // Errors, R4: ahead of all else
	for _, name := range append(wrongNames(), "a", "b") {
		for _, size := range append(wrongSizes(), 1, 100, most) {
			if s, e := stream.Open(nil, name, size); s != nil || e != api.ErrNil {
				t.Errorf("Open of %q, %d: %v, %d", name, size, s, e)
			}
		}
	}
}

func TestNoStream(t *testing.T) { // Errors, R4: ahead of all else
	var s *stream.Stream
	isNoLen(t, s, api.ErrNil)
	for _, rec := range [][]byte{nil, {}, {1}, make([]byte, 100), make([]byte, 240), make([]byte, 241)} {
		is(t, "Add", s.Add(rec), api.ErrNil)
		for _, i := range slices.Concat(below(), beyond(), []int{0, 1, 100}) {
			is(t, "Set", s.Set(i, rec), api.ErrNil)
		}
	}
	for _, i := range slices.Concat(below(), beyond(), []int{0, 1, 100}) {
		if b, e := s.Get(i); len(b) != 0 || e != api.ErrNil {
			t.Errorf("Get of %d: % x, %d", i, b, e)
		}
	}
}

func TestNoCallPanics(t *testing.T) { // R1
	numbers := slices.Concat(below(), beyond(), upTo(9))
	tries := func(p *pool.Pool, s *stream.Stream) {
		for _, i := range numbers {
			s.Get(i)
			for _, length := range []int{0, 1, 99, 100, 101, most, most + 1} {
				s.Set(i, make([]byte, length))
			}
		}
		for _, length := range []int{0, 1, 99, 100, 101, most, most + 1} {
			s.Add(make([]byte, length))
			s.Len()
		}
		for _, name := range append(wrongNames(), "a", "b") {
			for _, size := range append(wrongSizes(), 1, 100, most) {
				stream.Open(p, name, size)
			}
		}
	}
	tries(nil, nil)
	for frames := 1; frames < 4; frames++ {
		for _, texts := range [][][]byte{nil, {nil}, {bytesOf(1, 1)}, {bytesOf(100, 1), bytesOf(240, 1)}, {nil, nil, bytesOf(100, 1)}} {
			p, s := laid(t, frames, 100, texts...)
			tries(p, s)
			breaks := []func(d *disk.Disk) api.Errno{
				func(d *disk.Disk) api.Errno { return d.Flip("a", 9, 1) },
				func(d *disk.Disk) api.Errno { return d.Cut("a", 9) },
				func(d *disk.Disk) api.Errno { return d.Remove("a") },
				func(d *disk.Disk) api.Errno { return d.Arm(1) },
			}
			for _, breakIt := range breaks {
				breakIt(p.Disk())
				tries(p, s)
			}
			lose(t, p.Disk())
			tries(p, s)
		}
	}
}
