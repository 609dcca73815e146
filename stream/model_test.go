package stream_test

import (
	"bytes"
	"fmt"
	"slices"
	"testing"

	"milepost/api"
	"milepost/disk"
	"milepost/pool"
	"milepost/stream"
)

// streamer is what a stream answers, and what the model of one does.
type streamer interface {
	Len() (int, api.Errno)
	Get(i int) ([]byte, api.Errno)
	Add(rec []byte) api.Errno
	Set(i int, rec []byte) api.Errno
}

// model is a stream, sentence by sentence as the chapter says it.
type model struct {
	p    *pool.Pool
	name string
	size int
}

// cut are the whole records of a page, and what is left over.
func (m model) cut(b []byte) (recs [][]byte, rest []byte) {
	for len(b) >= m.size {
		recs, b = append(recs, b[:m.size]), b[m.size:]
	}
	return recs, b
}

func (m model) Len() (int, api.Errno) {
	pages, e := m.p.Pages(m.name)
	if e != api.OK {
		return 0, e
	}
	if pages == 0 {
		return 0, api.OK
	}
	b, e := m.p.Read(m.name, pages-1)
	if e != api.OK {
		return 0, e
	}
	recs, rest := m.cut(b)
	if len(recs) < 1 || len(recs) > fits(m.size) || len(rest) != 0 {
		return 0, api.ErrRot
	}
	n := len(recs)
	for range pages - 1 {
		n += fits(m.size)
	}
	return n, api.OK
}

func (m model) Get(i int) ([]byte, api.Errno) {
	if i < 0 {
		return nil, api.ErrArg
	}
	pages, e := m.p.Pages(m.name)
	if e != api.OK {
		return nil, e
	}
	if pages*fits(m.size) <= i {
		return nil, api.ErrNone
	}
	k := 0
	for i >= fits(m.size) {
		k, i = k+1, i-fits(m.size)
	}
	b, e := m.p.Read(m.name, k)
	if e != api.OK {
		return nil, e
	}
	recs, rest := m.cut(b)
	if len(rest) != 0 {
		return nil, api.ErrRot
	}
	if i >= len(recs) {
		return nil, api.ErrNone
	}
	return recs[i], api.OK
}

func (m model) Add(rec []byte) api.Errno {
	if len(rec) != m.size {
		return api.ErrArg
	}
	pages, e := m.p.Pages(m.name)
	if e != api.OK {
		return e
	}
	if pages > 0 {
		b, e := m.p.Read(m.name, pages-1)
		if e != api.OK {
			return e
		}
		if len(b)+m.size <= most {
			return m.p.Write(m.name, pages-1, slices.Concat(b, rec))
		}
	}
	return m.p.Write(m.name, pages, rec)
}

func (m model) Set(i int, rec []byte) api.Errno {
	if len(rec) != m.size {
		return api.ErrArg
	}
	if _, e := m.Get(i); e != api.OK {
		return e
	}
	k := 0
	for i >= fits(m.size) {
		k, i = k+1, i-fits(m.size)
	}
	b, e := m.p.Read(m.name, k)
	if e != api.OK {
		panic("a page that was read is not there")
	}
	return m.p.Write(m.name, k, slices.Concat(b[:i*m.size], rec, b[(i+1)*m.size:]))
}

// call is what is asked of a stream.
type call struct {
	what string
	i    int
	rec  []byte
}

func (c call) String() string { return fmt.Sprintf("%s(%d, %d bytes)", c.what, c.i, len(c.rec)) }

// answer is what a call answers.
type answer struct {
	n   int
	rec string
	e   api.Errno
}

// ask asks a stream.
func (c call) ask(s streamer) answer {
	switch c.what {
	case "Len":
		n, e := s.Len()
		return answer{n: n, e: e}
	case "Get":
		b, e := s.Get(c.i)
		return answer{rec: string(b), e: e}
	case "Add":
		return answer{e: s.Add(c.rec)}
	case "Set":
		return answer{e: s.Set(c.i, c.rec)}
	}
	panic("no call: " + c.what)
}

// side is a disk, a pool over it, and streams on files of it.
type side struct {
	d       *disk.Disk
	p       *pool.Pool
	streams []streamer
}

// pair is a side of streams, and one of models, to which the same is done.
type pair struct{ ours, theirs side }

// files are the names of the pair's files, which streams of these sizes are on.
func files() ([]string, []int) { return []string{"a", "b", "a"}, []int{100, 20, 60} }

// newPair is a pair over pools of so many frames.
func newPair(t *testing.T, quota, frames int) pair {
	t.Helper()
	var l [2]side
	for i := range l {
		d := newDisk(t, quota)
		p := newPool(t, d, frames)
		is(t, "Create", p.Create("a"), api.OK)
		is(t, "Create", p.Create("b"), api.OK)
		l[i] = side{d: d, p: p}
	}
	names, sizes := files()
	for i, name := range names {
		l[0].streams = append(l[0].streams, open(t, l[0].p, name, sizes[i]))
		l[1].streams = append(l[1].streams, model{l[1].p, name, sizes[i]})
	}
	return pair{l[0], l[1]}
}

// both does something to both sides, which must tell the same error.
func (p pair) both(t *testing.T, what string, do func(side) api.Errno) api.Errno {
	t.Helper()
	got, want := do(p.ours), do(p.theirs)
	if got != want {
		t.Fatalf("%s: %d; want %d", what, got, want)
	}
	return got
}

// ask asks a stream on both sides, and they must answer the same.
func (p pair) ask(t *testing.T, stream int, c call) answer {
	t.Helper()
	got, want := c.ask(p.ours.streams[stream]), c.ask(p.theirs.streams[stream])
	if got != want {
		t.Fatalf("stream %d: %v: %v; want %v", stream, c, got, want)
	}
	return got
}

// isLike holds all that pools and disks tell against each other.
func (p pair) isLike(t *testing.T) {
	t.Helper()
	a, b, c := p.ours.p.Held()
	x, y, z := p.theirs.p.Held()
	if a != x || b != y || c != z {
		t.Fatalf("Held: %d %d %d; want %d %d %d", a, b, c, x, y, z)
	}
	a, b = p.ours.p.Peak()
	x, y = p.theirs.p.Peak()
	if a != x || b != y {
		t.Fatalf("Peak: %d %d; want %d %d", a, b, x, y)
	}
	d, e := p.ours.d, p.theirs.d
	if !sameFiles(d.Files(), e.Files()) || !slices.Equal(d.Loose(), e.Loose()) || d.Dead() != e.Dead() {
		t.Fatal("the disk holds something else")
	}
}

// holdsLike holds the pages of all files, as the pools have them, against each other. Those that no frame holds are turned on the disk for that, so that which ones frames hold is told too.
func (p pair) holdsLike(t *testing.T) {
	t.Helper()
	turnPages(p.ours.d)
	turnPages(p.theirs.d)
	for _, name := range []string{"a", "b"} {
		n, e := p.ours.p.Pages(name)
		m, f := p.theirs.p.Pages(name)
		if n != m || e != f {
			t.Fatalf("Pages of %s: %d, %d; want %d, %d", name, n, e, m, f)
		}
		for k := range n {
			b, e := p.ours.p.Read(name, k)
			c, f := p.theirs.p.Read(name, k)
			if !bytes.Equal(b, c) || e != f {
				t.Fatalf("page %d of %s: % x, %d; want % x, %d", k, name, b, e, c, f)
			}
		}
	}
	turnPages(p.ours.d)
	turnPages(p.theirs.d)
}

// turnPages turns a bit of each page on a disk; once more, and they are as they were.
func turnPages(d *disk.Disk) {
	for _, f := range d.Files() {
		for at := sumAt; at < len(f.Bytes); at += pageSize {
			d.Flip(f.Name, at, 1)
		}
	}
}

// call is the next call of a stream of some size, seldom one that must be refused.
func (r *random) call(size int) call {
	n := size
	if r.below(25) == 0 {
		n = []int{0, size - 1, size + 1, most, most + 1}[r.below(5)]
	}
	i := r.below(26) - 1
	if r.below(25) == 0 {
		i = []int{below()[r.below(len(below()))], beyond()[r.below(len(beyond()))]}[r.below(2)]
	}
	switch r.below(8) {
	case 0:
		return call{what: "Len"}
	case 1, 2:
		return call{what: "Get", i: i}
	case 3, 4:
		return call{what: "Set", i: i, rec: r.text(n)}
	}
	return call{what: "Add", rec: r.text(n)}
}

// disturb does something to both sides that is done by their pools or disks.
func (p pair) disturb(t *testing.T, r *random) {
	t.Helper()
	name, k, at := []string{"a", "b"}[r.below(2)], r.below(8), r.below(2000)
	switch r.below(16) {
	case 0:
		p.both(t, "Drop", func(s side) api.Errno { return s.p.Drop(name) })
	case 1, 2:
		p.both(t, "Create", func(s side) api.Errno { return s.p.Create(name) })
	case 3, 4, 5:
		b := r.text([]int{0, 1, 20, 60, 99, 100, 101, 200, 201, 220, 239, 240}[r.below(12)])
		p.both(t, "pool's Write", func(s side) api.Errno { return s.p.Write(name, k, b) })
	case 6:
		p.both(t, "Pin", func(s side) api.Errno { _, e := s.p.Pin(name, k); return e })
	case 7, 8:
		p.both(t, "Unpin", func(s side) api.Errno { return s.p.Unpin(name, k) })
	case 9:
		p.both(t, "Flush", func(s side) api.Errno { return s.p.Flush(name) })
	case 10, 11:
		p.both(t, "Flip", func(s side) api.Errno { return s.d.Flip(name, at, 1<<(at%8)) })
	case 12:
		at -= at % []int{1, pageSize}[r.below(2)]
		p.both(t, "Cut", func(s side) api.Errno { return s.d.Cut(name, at) })
	case 13:
		n := []int{1000, 1000, r.below(60)}[r.below(3)]
		p.both(t, "Quota", func(s side) api.Errno { return s.d.Quota(n) })
	case 14:
		n := r.below(6)
		p.both(t, "Arm", func(s side) api.Errno { return s.d.Arm(n) })
	case 15:
		p.both(t, "Remove", func(s side) api.Errno { return s.d.Remove(name) })
		p.both(t, "Create", func(s side) api.Errno { return s.p.Create(name) })
	}
}

// on lets both disks have power again, with some of the loose sectors kept.
func (p pair) on(t *testing.T, r *random) {
	t.Helper()
	keep := []int{r.below(8), r.below(8), r.below(8), r.below(8), r.below(20), r.below(20)}[:r.below(7)]
	p.both(t, "On", func(s side) api.Errno { return s.d.On(keep) })
}

func TestRowsOfCalls(t *testing.T) { // P11.1 to P11.4, R5: with all that may befall a pool and a disk
	_, sizes := files()
	for seed := range 1500 {
		r := random(seed)
		p := newPair(t, 1000, 1+seed%7)
		for range 150 {
			if r.below(8) == 0 {
				p.disturb(t, &r)
			}
			if p.ours.d.Dead() && r.below(3) == 0 {
				p.on(t, &r)
			}
			stream := r.below(len(sizes))
			p.ask(t, stream, r.call(sizes[stream]))
			p.isLike(t)
		}
		p.holdsLike(t)
	}
}

// shadow are the records of a stream, as they were added and set.
type shadow struct {
	size int
	recs [][]byte
}

// answer is what a call must answer, however many frames there are.
func (s *shadow) answer(c call) answer {
	switch {
	case c.what == "Len":
		return answer{n: len(s.recs)}
	case c.what != "Get" && len(c.rec) != s.size:
		return answer{e: api.ErrArg}
	case c.what == "Add":
		s.recs = append(s.recs, c.rec)
		return answer{}
	case c.i < 0:
		return answer{e: api.ErrArg}
	case c.i >= len(s.recs):
		return answer{e: api.ErrNone}
	case c.what == "Set":
		s.recs[c.i] = c.rec
		return answer{}
	}
	return answer{rec: string(s.recs[c.i])}
}

// flushed says that a file must have just these records behind a Flush.
func flushed(t *testing.T, p *pool.Pool, name string, s *shadow) {
	t.Helper()
	is(t, "Flush", p.Flush(name), api.OK)
	lies(t, p.Disk(), name, pagesOf(s.size, s.recs)...)
}

// rowOver asks two streams of one pool of so many frames, and they must answer as what was added and set is.
func rowOver(t *testing.T, frames, seed int, sizes [2]int) {
	t.Helper()
	p := newPool(t, newDisk(t, 1<<16), frames)
	names := [2]string{"a", "b"}
	var streams [2]*stream.Stream
	var shadows [2]*shadow
	for i, name := range names {
		is(t, "Create", p.Create(name), api.OK)
		streams[i], shadows[i] = open(t, p, name, sizes[i]), &shadow{size: sizes[i]}
	}
	r := random(seed)
	for range 200 {
		i := r.below(2)
		c := r.call(sizes[i])
		if got, want := c.ask(streams[i]), shadows[i].answer(c); got != want {
			t.Fatalf("%d frames, size %d: %v: %v; want %v", frames, sizes[i], c, got, want)
		}
		if r.below(40) == 0 {
			flushed(t, p, names[i], shadows[i])
		}
	}
	for i, name := range names {
		flushed(t, p, name, shadows[i])
	}
	lose(t, p.Disk())
	fine(t, p.Disk().On(nil))
	for i, name := range names {
		isStream(t, open(t, newPool(t, p.Disk(), 1), name, sizes[i]), sizes[i], shadows[i].recs...)
	}
}

func TestFewAndManyFramesAnswerTheSame(t *testing.T) { // P11.5: and leave the same bytes behind a Flush
	for seed := range 200 {
		sizes := [2]int{sizes()[seed%len(sizes())], 1 + seed%most}
		for _, frames := range []int{1, 2, 3, 8, 9, mostFrames} {
			rowOver(t, frames, seed, sizes)
		}
	}
}
