package stream_test

import (
	"fmt"
	"slices"
	"testing"

	"milepost/api"
	"milepost/pool"
	"milepost/stream"
)

// Pages that are no whole records, and pages that have rotted.

// bad is a stream of three full pages, one of which has been written otherwise by the pool itself.
type bad struct {
	size, page int
	text       []byte
	recs       [][]byte // of all full pages
	texts      [][]byte // with the bad one
}

// newBad is one whose page k has n bytes.
func newBad(size, k, n int) bad {
	recs := recsOf(size, 3*fits(size))
	text := bytesOf(n, 5)
	return bad{size, k, text, recs, with(pagesOf(size, recs), k, text)}
}

func (b bad) String() string {
	return fmt.Sprintf("size %d, page %d of %d bytes", b.size, b.page, len(b.text))
}

// lay is such a stream, over a pool of five frames.
func (b bad) lay(t *testing.T) (*pool.Pool, *stream.Stream) {
	t.Helper()
	p, s := laid(t, 5, b.size, pagesOf(b.size, b.recs)...)
	is(t, "pool's Write", p.Write("a", b.page, b.text), api.OK)
	return p, s
}

// want is what record i must be, or why it is none.
func (b bad) want(i int) ([]byte, api.Errno) {
	k, j := i/fits(b.size), i%fits(b.size)
	switch {
	case k > 2:
		return nil, api.ErrNone
	case k != b.page:
		return b.recs[i], api.OK
	case len(b.text)%b.size != 0:
		return nil, api.ErrRot
	case j >= len(b.text)/b.size:
		return nil, api.ErrNone
	}
	return b.text[j*b.size : (j+1)*b.size], api.OK
}

// places are records of each page, the first and the last one of it and some between.
func (b bad) places() []int {
	fit := fits(b.size)
	var l []int
	for k := range 4 {
		l = append(l, k*fit, k*fit+fit/2, k*fit+fit-1)
	}
	for j := range fit {
		if at := j * b.size; at-2*b.size <= len(b.text) && len(b.text) <= at+2*b.size {
			l = append(l, b.page*fit+j)
		}
	}
	return l
}

// asked says what is told of such a stream.
func (b bad) asked(t *testing.T) {
	t.Helper()
	p, s := b.lay(t)
	n, e := s.Len()
	switch {
	case b.page < 2 && (n != len(b.recs) || e != api.OK):
		t.Fatalf("%v: Len: %d, %d", b, n, e)
	case b.page < 2:
	case len(b.text) == 0 || len(b.text)%b.size != 0:
		isNoLen(t, s, api.ErrRot)
	case n != 2*fits(b.size)+len(b.text)/b.size || e != api.OK:
		t.Fatalf("%v: Len: %d, %d", b, n, e)
	}
	for _, i := range b.places() {
		switch rec, want := b.want(i); want {
		case api.OK:
			isRec(t, s, i, rec)
		default:
			isNoRec(t, s, b.size, i, want)
		}
	}
	holds(t, p, b.texts...)
}

// set says what Set does.
func (b bad) set(t *testing.T) {
	t.Helper()
	for _, i := range b.places() {
		p, s := b.lay(t)
		rec, want := b.want(i)
		if e := s.Set(i, otherOf(b.size, i)); e != want {
			t.Fatalf("%v: Set of %d: %d; want %d", b, i, e, want)
		}
		texts := slices.Clone(b.texts)
		if want == api.OK {
			k, at := i/fits(b.size), i%fits(b.size)*b.size
			texts[k] = slices.Replace(slices.Clone(texts[k]), at, at+len(rec), otherOf(b.size, i)...)
		}
		holds(t, p, texts...)
	}
}

// added says what Add does: it asks whether the last page has room, no more.
func (b bad) added(t *testing.T) {
	t.Helper()
	p, s := b.lay(t)
	rec := otherOf(b.size, 3)
	add(t, s, rec)
	switch {
	case b.page == 2 && len(b.text)+b.size <= most:
		holds(t, p, with(b.texts, 2, slices.Concat(b.text, rec))...)
	default:
		holds(t, p, with(b.texts, 3, rec)...)
	}
}

func TestPagesThatAreNoWholeRecords(t *testing.T) { // P11.2 to P11.4: of each length, at the end, ahead of it and at the beginning
	for _, size := range []int{1, 2, 7, 20, 79, 80, 100, 119, 120, 121, 200, 239, 240} {
		for n := range most + 1 {
			if n%size > 3 && n%size < size-3 && n%13 != 0 {
				continue // one as the other
			}
			for k := range 3 {
				b := newBad(size, k, n)
				b.asked(t)
				b.added(t)
				if n%size < 3 || n%31 == 0 {
					b.set(t)
				}
			}
		}
	}
}

func TestSomePagesThatAreNoWholeRecords(t *testing.T) { // P11.2 to P11.4: told one by one
	full, one := slices.Concat(recOf(100, 0), recOf(100, 1)), recOf(100, 2)
	tests := []struct {
		what         string
		last         int // the last page's bytes
		n            int
		len, get, at api.Errno // Len's; Get's of that page's first and second record
		pages        int       // behind an Add
	}{
		{"empty", 0, 0, api.ErrRot, api.ErrNone, api.ErrNone, 2},
		{"a byte", 1, 0, api.ErrRot, api.ErrRot, api.ErrRot, 2},
		{"a byte less than a record", 99, 0, api.ErrRot, api.ErrRot, api.ErrRot, 2},
		{"a record", 100, 3, api.OK, api.OK, api.ErrNone, 2},
		{"a byte more than a record", 101, 0, api.ErrRot, api.ErrRot, api.ErrRot, 2},
		{"just room for one more", 140, 0, api.ErrRot, api.ErrRot, api.ErrRot, 2},
		{"a byte too many for one more", 141, 0, api.ErrRot, api.ErrRot, api.ErrRot, 3},
		{"two records", 200, 4, api.OK, api.OK, api.OK, 3},
		{"a byte more than fits", 201, 0, api.ErrRot, api.ErrRot, api.ErrRot, 3},
		{"all room", 240, 0, api.ErrRot, api.ErrRot, api.ErrRot, 3},
	}
	for _, test := range tests {
		p, s := made(t, 3, 100, 3)
		holds(t, p, full, one)
		is(t, "pool's Write", p.Write("a", 1, bytesOf(test.last, 1)), api.OK)
		n, e := s.Len()
		_, first := s.Get(2)
		_, second := s.Get(3)
		if n != test.n || e != test.len || first != test.get || second != test.at {
			t.Errorf("%s: Len %d, %d; Get %d, %d", test.what, n, e, first, second)
		}
		isRec(t, s, 0, recOf(100, 0))
		isNoRec(t, s, 100, 4, api.ErrNone)
		add(t, s, recOf(100, 9))
		if n, e := p.Pages("a"); n != test.pages || e != api.OK {
			t.Errorf("%s: %d pages, %d", test.what, n, e)
		}
	}
}

func TestAnEmptyPageIsFilled(t *testing.T) { // P11.4: then it is as if it never had been
	p, s := made(t, 2, 100, 2)
	is(t, "pool's Write", p.Write("a", 1, nil), api.OK)
	isNoLen(t, s, api.ErrRot)
	add(t, s, recOf(100, 2))
	isStream(t, s, 100, recsOf(100, 3)...)
	p, s = made(t, 2, 100, 0)
	is(t, "pool's Write", p.Write("a", 0, nil), api.OK)
	isNoLen(t, s, api.ErrRot)
	isNoRec(t, s, 100, 0, api.ErrNone)
	add(t, s, recOf(100, 0))
	isStream(t, s, 100, recOf(100, 0))
}

func TestRottenPages(t *testing.T) { // P11.2 to P11.4: the error of p.Read of just that page
	for _, size := range sizes() {
		fit := fits(size)
		recs := recsOf(size, 2*fit+1)
		texts := pagesOf(size, recs)
		for k := range texts {
			for _, at := range []int{0, 4, 8, 10, 12, 200, 255} { // tag, number, size, noughts, bytes, sum
				p, s := laid(t, 5, size, texts...)
				is(t, "Flip", p.Disk().Flip("a", k*pageSize+at, 1), api.OK)
				isUnchanged(t, p, "a rotten page", func() { isRotten(t, p, s, size, k, k*fit, (k+1)*fit) })
				for i, rec := range recs {
					if i/fit != k {
						isRec(t, s, i, rec)
						is(t, "Set", s.Set(i, otherOf(size, i)), api.OK)
						is(t, "Set", s.Set(i, rec), api.OK)
					}
				}
				if k < 2 {
					isLen(t, s, len(recs))
					add(t, s, recOf(size, len(recs)))
					isLen(t, s, len(recs)+1)
				}
				isNoRec(t, s, size, 4*fit, api.ErrNone)
			}
		}
	}
}

// isRotten says that the records from begin on, and ahead of end, which stand on page k of three, must be rotten.
func isRotten(t *testing.T, p *pool.Pool, s *stream.Stream, size, k, begin, end int) {
	t.Helper()
	for i := begin; i < end; i++ {
		isNoRec(t, s, size, i, api.ErrRot)
	}
	is(t, "Set of a wrong length", s.Set(begin, make([]byte, size+1)), api.ErrArg)
	isNoRec(t, s, size, -1, api.ErrArg)
	if k == 2 {
		isNoLen(t, s, api.ErrRot)
		is(t, "Add", s.Add(recOf(size, 0)), api.ErrRot)
		is(t, "Add of a wrong length", s.Add(make([]byte, size+1)), api.ErrArg)
	}
	if n, e := p.Pages("a"); n != 3 || e != api.OK {
		t.Fatalf("Pages: %d, %d", n, e)
	}
}

func TestRottenPagesThatAreHeld(t *testing.T) { // P11.2 to P11.4: a frame has them still, so that Set mends them
	p, s := laid(t, 3, 100, pagesOf(100, recsOf(100, 3))...)
	isStream(t, s, 100, recsOf(100, 3)...)
	fine(t, p.Disk().Flip("a", 20, 1), p.Disk().Flip("a", pageSize+20, 1))
	isStream(t, s, 100, recsOf(100, 3)...)
	add(t, s, recOf(100, 3))
	is(t, "Set", s.Set(0, recOf(100, 0)), api.OK)
	lasts(t, p, pagesOf(100, recsOf(100, 4))...)
}

// Pages that the pool can't bring.

func TestAllFramesArePinned(t *testing.T) { // Errors: that of p.Read and of p.Write
	for _, size := range []int{1, 20, 100, 121, 240} {
		for n := range 2*fits(size) + 2 {
			texts := pagesOf(size, recsOf(size, n))
			p, s := laid(t, 2, size, texts...)
			pinAll(t, p, 2)
			isUnchanged(t, p, "no frame", func() {
				if n == 0 {
					isLen(t, s, 0)
				} else {
					isNoLen(t, s, api.ErrPins)
				}
				for i := range len(texts) * fits(size) {
					isNoRec(t, s, size, i, api.ErrPins) // the last ones of the last page too, as it can't be read
				}
				isNoRec(t, s, size, len(texts)*fits(size), api.ErrNone)
				isNoRec(t, s, size, -1, api.ErrArg)
				is(t, "Add", s.Add(recOf(size, n)), api.ErrPins)
				is(t, "Add of a wrong length", s.Add(make([]byte, size+1)), api.ErrArg)
				is(t, "Set of a wrong length", s.Set(0, make([]byte, size+1)), api.ErrArg)
			})
			fine(t, p.Unpin("other", 0))
			isStream(t, s, size, recsOf(size, n)...)
			add(t, s, recOf(size, n))
			isStream(t, s, size, recsOf(size, n+1)...)
		}
	}
}

func TestPinnedPages(t *testing.T) { // P11.2 to P11.4: what a frame holds is told and turned, pinned or not; it is not unpinned
	p, s := made(t, 1, 100, 3)
	if _, e := p.Pin("a", 1); e != api.OK {
		t.Fatal(e)
	}
	isLen(t, s, 3)
	isRec(t, s, 2, recOf(100, 2))
	isNoRec(t, s, 100, 0, api.ErrPins)
	add(t, s, recOf(100, 3))
	is(t, "Set", s.Set(3, otherOf(100, 3)), api.OK)
	isUnchanged(t, p, "no frame", func() { is(t, "Add", s.Add(recOf(100, 4)), api.ErrPins) })
	isLen(t, s, 4)
	isRec(t, s, 3, otherOf(100, 3))
	isHeld(t, p, 1, 1, 1)
	fine(t, p.Unpin("a", 1))
	add(t, s, recOf(100, 4))
	isStream(t, s, 100, with(recsOf(100, 5), 3, otherOf(100, 3))...)
}

// crowded is a stream "a" of n records that last, over a pool of one frame, which holds a page of another file for which there is no room on the disk.
func crowded(t *testing.T, size, n int) (*pool.Pool, *stream.Stream) {
	t.Helper()
	p, s := laid(t, 1, size, pagesOf(size, recsOf(size, n))...)
	d := p.Disk()
	fine(t, p.Create("b"), p.Write("b", 0, bytesOf(9, 1)), d.Quota(d.Used()))
	isHeld(t, p, 1, 0, 1)
	return p, s
}

func TestAFullDisk(t *testing.T) { // Errors: where a frame must be written back ahead; nothing is turned, and with room all goes on
	for _, size := range []int{1, 20, 100, 121, 240} {
		for n := range 2*fits(size) + 2 {
			p, s := crowded(t, size, n)
			isUnchanged(t, p, "no room", func() {
				if n > 0 {
					isNoLen(t, s, api.ErrFull)
					isNoRec(t, s, size, 0, api.ErrFull)
					isNoRec(t, s, size, n-1, api.ErrFull)
				}
				is(t, "Add", s.Add(recOf(size, n)), api.ErrFull)
				isNoRec(t, s, size, 3*fits(size), api.ErrNone)
				open(t, p, "a", size)
			})
			lies(t, p.Disk(), "a", pagesOf(size, recsOf(size, n))...)
			fine(t, p.Disk().Quota(1000))
			isStream(t, s, size, recsOf(size, n)...)
			add(t, s, recOf(size, n))
			isStream(t, s, size, recsOf(size, n+1)...)
			lasts(t, p, pagesOf(size, recsOf(size, n+1))...)
		}
	}
}

func TestAFullDiskBehindAFullPage(t *testing.T) { // P11.4: the error of p.Write; what was added ahead is there
	for _, size := range sizes() {
		n := fits(size)
		p, s := made(t, 1, size, n)
		fine(t, p.Disk().Quota(3))
		for range 3 {
			isUnchanged(t, p, "no room", func() { is(t, "Add", s.Add(recOf(size, n)), api.ErrFull) })
			holds(t, p, pagesOf(size, recsOf(size, n))...)
			isLen(t, s, n)
			isRec(t, s, 0, recOf(size, 0))
			isRec(t, s, n-1, recOf(size, n-1))
			is(t, "Set", s.Set(0, recOf(size, 0)), api.OK) // a frame has it
		}
		lies(t, p.Disk(), "a")
		fine(t, p.Disk().Quota(8))
		add(t, s, recOf(size, n))
		isStream(t, s, size, recsOf(size, n+1)...)
		lasts(t, p, pagesOf(size, recsOf(size, n+1))...)
	}
}

func TestWithoutPower(t *testing.T) { // Errors: that of p.Pages, whatever frames hold
	for _, n := range []int{0, 1, 2, 3, 4} {
		p, s := made(t, 4, 100, n)
		lose(t, p.Disk())
		isUnchanged(t, p, "no power", func() {
			isNoLen(t, s, api.ErrDead)
			for i := range 7 {
				isNoRec(t, s, 100, i, api.ErrDead)
			}
			isNoRec(t, s, 100, -1, api.ErrArg)
			is(t, "Add", s.Add(recOf(100, n)), api.ErrDead)
			is(t, "Add of a wrong length", s.Add(make([]byte, 99)), api.ErrArg)
			is(t, "Set of a wrong length", s.Set(0, make([]byte, 99)), api.ErrArg)
			if u, e := stream.Open(p, "a", 100); u != nil || e != api.ErrDead {
				t.Errorf("Open: %v, %d", u, e)
			}
		})
		fine(t, p.Disk().On(nil))
		isStream(t, s, 100, recsOf(100, n)...)
		lasts(t, p, pagesOf(100, recsOf(100, n))...)
	}
}

// scene is what is done ahead of a call at which something fails.
type scene struct {
	what   string
	frames int
	ahead  func(t *testing.T, s side)
	then   call
}

// scenes are over a file "a" of records of 100 bytes, five of which last.
func scenes() []scene {
	adds := func(n int) func(*testing.T, side) {
		return func(t *testing.T, s side) {
			for i := range n {
				is(t, "Add", s.streams[0].Add(recOf(100, 100+i)), api.OK)
			}
		}
	}
	missing := func(t *testing.T, s side) { // a page of another file, which the disk does not have
		is(t, "pool's Write", s.p.Write("b", 0, bytesOf(40, 1)), api.OK)
	}
	dirty := func(t *testing.T, s side) { // a page of the file, which the disk has otherwise
		is(t, "Set", s.streams[0].Set(0, recOf(100, 100)), api.OK)
	}
	l := []scene{{"the last page is full", 1, adds(1), call{what: "Add", rec: recOf(100, 200)}}}
	for _, frames := range []int{1, 2, 3} {
		for _, then := range []call{
			{what: "Len"}, {what: "Get", i: 0}, {what: "Get", i: 3}, {what: "Get", i: 5}, {what: "Set", i: 1, rec: recOf(100, 200)},
			{what: "Set", i: 4, rec: recOf(100, 200)}, {what: "Set", i: 9, rec: recOf(100, 200)}, {what: "Add", rec: recOf(100, 200)},
		} {
			l = append(l, scene{"a page is missing", frames, missing, then}, scene{"a page is dirty", frames, dirty, then},
				scene{"a page was added", frames, adds(2), then}, scene{"pages were added", frames, adds(5), then}, scene{"nothing", frames, adds(0), then})
		}
	}
	return l
}

// set is a scene, ahead of its last call.
func (c scene) set(t *testing.T) pair {
	t.Helper()
	p := newPair(t, 1000, c.frames)
	for _, s := range []side{p.ours, p.theirs} {
		for i := range 5 {
			is(t, "Add", s.streams[0].Add(recOf(100, i)), api.OK)
		}
		is(t, "Flush", s.p.Flush("a"), api.OK)
		c.ahead(t, s)
	}
	return p
}

// goesOn says that behind the last call all must be as of the model, and so what comes.
func (c scene) goesOn(t *testing.T, p pair) {
	t.Helper()
	p.isLike(t)
	for _, then := range []call{{what: "Len"}, c.then, {what: "Get", i: 4}, {what: "Add", rec: recOf(100, 210)}, {what: "Set", i: 2, rec: recOf(100, 211)}} {
		p.ask(t, 0, then)
		p.isLike(t)
	}
	p.both(t, "Flush", func(s side) api.Errno { return s.p.Flush("a") })
	p.isLike(t)
	p.holdsLike(t)
}

func TestThePowerGoesInEachCall(t *testing.T) { // Errors, R2: at each operation, with each half of the loose sectors kept
	keeps := [][]int{nil, upTo(64), upTo(2), upTo(6), {1, 3, 5, 7, 9, 11, 13, 15}, {0, 2, 4, 6, 8, 10, 12, 14}}
	for _, c := range scenes() {
		for fuse := 1; ; fuse++ {
			p := c.set(t)
			p.both(t, "Arm", func(s side) api.Errno { return s.d.Arm(fuse) })
			a := p.ask(t, 0, c.then)
			p.isLike(t)
			if !p.ours.d.Dead() {
				break
			}
			is(t, c.what, a.e, api.ErrDead)
			for _, keep := range keeps {
				p := c.set(t)
				p.both(t, "Arm", func(s side) api.Errno { return s.d.Arm(fuse) })
				p.ask(t, 0, c.then)
				p.both(t, "On", func(s side) api.Errno { return s.d.On(keep) })
				p.isLike(t)
				c.goesOn(t, p)
			}
		}
	}
}

func TestNoRoomInEachCall(t *testing.T) { // Errors, R2: with all room that is less than enough, and with room again
	for _, c := range scenes() {
		used := c.set(t).ours.d.Used()
		for room := used; room <= used+13; room++ {
			for _, again := range []int{room, 1000} {
				p := c.set(t)
				p.both(t, "Quota", func(s side) api.Errno { return s.d.Quota(room) })
				p.ask(t, 0, c.then)
				p.isLike(t)
				p.both(t, "Quota", func(s side) api.Errno { return s.d.Quota(again) })
				c.goesOn(t, p)
			}
		}
	}
}

func TestThePowerGoesAsAFullPageGoes(t *testing.T) { // P11.4, P11.5: told without the model
	for keep := range 2 {
		p, s := made(t, 1, 100, 2)
		fine(t, p.Disk().Arm(1))
		is(t, "Add", s.Add(recOf(100, 2)), api.ErrDead)
		isNoLen(t, s, api.ErrDead)
		fine(t, p.Disk().On([][]int{nil, upTo(9)}[keep]))
		lies(t, p.Disk(), "a")
		isHeld(t, p, 1, 0, 1)
		isStream(t, s, 100, recsOf(100, 2)...) // a frame has it still
		add(t, s, recOf(100, 2))
		isStream(t, s, 100, recsOf(100, 3)...)
		lasts(t, p, pagesOf(100, recsOf(100, 3))...)
	}
}

func TestARecordThatIsNotFlushedMayBeLost(t *testing.T) { // P11.4: Add does not let it last
	p, s := made(t, 8, 100, 5)
	d := p.Disk()
	is(t, "Flush", p.Flush("a"), api.OK)
	add(t, s, recOf(100, 5), recOf(100, 6))
	lose(t, d)
	fine(t, d.On(nil))
	isStream(t, s, 100, recsOf(100, 7)...)
	isStream(t, open(t, newPool(t, d, 8), "a", 100), 100, recsOf(100, 5)...)
}
