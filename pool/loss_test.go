package pool_test

import (
	"bytes"
	"fmt"
	"slices"
	"testing"

	"milepost/api"
	"milepost/disk"
)

// The power that goes, and the room that is not there, at each operation of every call.

// scene is a pool of so many frames for which calls are made, and then one at which something fails.
type scene struct {
	what   string
	frames int
	ahead  []call
	then   call
}

func reading(name string, k int) call   { return call{what: "Read", name: name, k: k} }
func pinning(name string, k int) call   { return call{what: "Pin", name: name, k: k} }
func unpinning(name string, k int) call { return call{what: "Unpin", name: name, k: k} }
func flushing(name string) call         { return call{what: "Flush", name: name} }
func dropping(name string) call         { return call{what: "Drop", name: name} }
func creating(name string) call         { return call{what: "Create", name: name} }

// writing writes pages of a file; what they have is like no other text.
func writing(name string, pages ...int) []call {
	var l []call
	for _, k := range pages {
		l = append(l, call{what: "Write", name: name, k: k, text: []byte(fmt.Sprint("new ", name, " ", k))})
	}
	return l
}

// joined are calls one behind the other.
func joined(l ...[]call) []call { return slices.Concat(l...) }

// scenes are pools over a file "a" of two pages, and a file "b" of three, that last.
func scenes() []scene {
	read, pin := []call{reading("a", 0), reading("b", 0)}, []call{pinning("b", 0)}
	unpin := []call{unpinning("b", 0)}
	missing := writing("a", 2, 3, 4)
	mixed := joined(writing("a", 1, 2, 0, 3), writing("b", 2))
	return []scene{
		{"Create", 2, read, creating("c")},
		{"Create of what is there", 2, read, creating("a")},
		{"Drop of clean pages", 3, joined(read, []call{reading("b", 2)}), dropping("b")},
		{"Drop of dirty pages", 6, mixed, dropping("a")},
		{"Drop of a pinned page", 6, joined(mixed, pin), dropping("b")},
		{"Drop of what is not there", 3, read, dropping("c")},
		{"Pages", 6, mixed, call{what: "Pages", name: "a"}},
		{"Unpin", 6, joined(mixed, pin), unpin[0]},
		{"Read of what a frame holds", 6, mixed, reading("a", 3)},
		{"Read into an empty frame", 6, mixed, reading("b", 1)},
		{"Read where a clean page goes", 2, read, reading("b", 1)},
		{"Read where a dirty page goes", 1, writing("a", 1), reading("b", 1)},
		{"Read where a missing page goes", 1, writing("a", 2), reading("b", 1)},
		{"Read where missing pages go ahead", 4, joined(pin, missing, []call{reading("a", 2), reading("a", 3), pinning("a", 0)}), reading("b", 1)},
		{"Read where the last of many goes", 4, joined(writing("a", 2, 3, 4), []call{pinning("a", 2), pinning("a", 3)}, writing("a", 5)), reading("b", 1)},
		{"Pin where missing pages go ahead", 3, joined(writing("a", 2, 3, 4), []call{pinning("a", 2), pinning("a", 3)}), pinning("b", 1)},
		{"Write where missing pages go ahead", 3, joined(writing("a", 2, 3, 4), []call{pinning("a", 2), pinning("a", 3)}), writing("a", 5)[0]},
		{"Write of another file where missing pages go ahead", 3, joined(writing("a", 2, 3, 4), []call{pinning("a", 2)}), writing("b", 3)[0]},
		{"Write into a frame", 6, mixed, writing("a", 0)[0]},
		{"Write into an empty frame", 6, mixed, writing("a", 4)[0]},
		{"Flush of missing pages", 4, missing, flushing("a")},
		{"Flush of pages of all kinds", 6, mixed, flushing("a")},
		{"Flush of the other file", 6, mixed, flushing("b")},
		{"Flush of pinned pages", 6, joined(mixed, pin, []call{pinning("a", 1), pinning("a", 3)}), flushing("a")},
		{"Flush of nothing that is dirty", 2, joined(read, writing("a", 2, 3, 4), read), flushing("a")},
		{"Flush of a file without pages", 2, joined([]call{creating("c")}, writing("a", 2)), flushing("c")},
	}
}

// set is a scene, ahead of its last call.
func (s scene) set(t *testing.T) pair {
	t.Helper()
	p := newPair(t, 1000, s.frames)
	for _, d := range []*disk.Disk{p.d, p.other} {
		lay(t, d, "a", 2)
		lay(t, d, "b", 3)
	}
	for _, c := range s.ahead {
		if a := p.ask(t, c); a.e != api.OK {
			t.Fatalf("%s: %v: %d", s.what, c, a.e)
		}
	}
	return p
}

// isSame holds what each frame holds, what is dirty, and what becomes of all that is asked later, against the model.
func (s scene) isSame(t *testing.T, p pair) {
	t.Helper()
	p.isLike(t)
	later := joined([]call{{what: "Pages", name: "a"}, {what: "Pages", name: "b"}, reading("a", 0), reading("b", 2), reading("a", 3), s.then}, writing("a", 1), []call{flushing("a"), flushing("b")})
	for _, c := range later {
		p.ask(t, c)
		p.isLike(t)
	}
	p.holdsLike(t)
}

// keeps are sets of loose sectors that stay: none, all, and some of them.
func keeps(loose int) [][]int {
	l := [][]int{nil, upTo(loose)}
	for _, by := range []int{2, 3, 4} {
		for first := range by {
			var some []int
			for i := first; i < loose; i += by {
				some = append(some, i)
			}
			l = append(l, some)
		}
	}
	return append(l, upTo(loose/2), from(loose/2, loose))
}

func TestThePowerGoesAtEachOperation(t *testing.T) { // P10.2 to P10.6, R2
	for _, s := range scenes() {
		for fuse := 1; ; fuse++ {
			p := s.set(t)
			p.arm(t, fuse)
			p.ask(t, s.then)
			p.isLike(t)
			if !p.d.Dead() {
				break
			}
			for _, keep := range keeps(len(p.d.Loose())) {
				p := s.set(t)
				p.arm(t, fuse)
				p.ask(t, s.then)
				p.on(t, keep...)
				p.isLike(t)
				p.holdsLike(t)
				p = s.set(t)
				p.arm(t, fuse)
				p.ask(t, s.then)
				p.on(t, keep...)
				s.isSame(t, p)
			}
		}
	}
}

func TestNoRoomAtEachOperation(t *testing.T) { // P10.2 to P10.6, R2: with all room that is less than enough, and with room again
	for _, s := range scenes() {
		used := s.set(t).d.Used()
		for room := used - 4; room <= used+17; room++ {
			p := s.set(t)
			p.quota(t, room)
			p.ask(t, s.then)
			p.isLike(t)
			p.holdsLike(t)
			p = s.set(t)
			p.quota(t, room)
			p.ask(t, s.then)
			s.isSame(t, p)
			p = s.set(t)
			p.quota(t, room)
			p.ask(t, s.then)
			p.quota(t, 1000)
			s.isSame(t, p)
			for _, name := range p.d.Names() {
				p.ask(t, flushing(name))
			}
			if _, _, dirty := p.p.Held(); dirty != 0 {
				t.Fatalf("%s: %d dirty frames", s.what, dirty)
			}
		}
	}
}

// Some of them told without the model.

func TestFlushAsThePowerGoes(t *testing.T) { // P10.5: what was written ahead of that is not dirty, and nothing is synced
	for fuse := 1; fuse <= 5; fuse++ {
		d, p := laid(t, 5, 1)
		write(t, p, "a", 1, 2, 3)
		fine(t, p.Write("a", 0, []byte{9}))
		pin(t, p, "a", 2)
		fine(t, d.Arm(fuse))
		is(t, "Flush", p.Flush("a"), api.ErrDead)
		isHeld(t, p, 4, 1, 5-fuse)
		isPeak(t, p, 4, 1)
		fine(t, d.On(upTo(16)))
		want := textsOf("a", max(1, fuse-1))
		if fuse > 1 {
			want[0] = []byte{9}
		}
		lies(t, d, "a", want...)
		isPages(t, p, "a", 4)
		isRead(t, p, "a", 0, []byte{9})
		read(t, p, "a", 1, 2, 3)
		isHeld(t, p, 4, 1, 5-fuse)
		fine(t, p.Flush("a"))
		isHeld(t, p, 4, 1, 0)
		lies(t, d, "a", []byte{9}, textOf("a", 1), textOf("a", 2), textOf("a", 3))
		holds(t, p, places("a", 0, 1, 2, 3)...)
	}
}

func TestFlushWithoutRoom(t *testing.T) { // P10.5: page by page
	for pages := range 4 {
		d, p := laid(t, 5, 1)
		fine(t, p.Write("a", 0, []byte{9}))
		write(t, p, "a", 1, 2, 3)
		fine(t, d.Quota(4*(pages+1)+3))
		want := append([][]byte{{9}}, textsOf("a", 4)[1:pages+1]...)
		if pages < 3 {
			is(t, "Flush", p.Flush("a"), api.ErrFull)
			isHeld(t, p, 4, 0, 3-pages)
			if l := d.Loose(); len(l) != 4*(pages+1) {
				t.Fatalf("loose: %v", l)
			}
			lies(t, d, "a", want...)
			is(t, "Flush", p.Flush("a"), api.ErrFull)
			isHeld(t, p, 4, 0, 3-pages)
			isPages(t, p, "a", 4)
			fine(t, d.Quota(16))
		}
		fine(t, p.Flush("a"))
		isHeld(t, p, 4, 0, 0)
		isLoose(t, d)
		lies(t, d, "a", []byte{9}, textOf("a", 1), textOf("a", 2), textOf("a", 3))
	}
}

func TestReadAsThePowerGoes(t *testing.T) { // P10.3: the page that should go stays, and nothing comes
	d, p := laid(t, 2, 2)
	write(t, p, "a", 2, 3)
	fine(t, d.Arm(1))
	isRefused(t, p, "a", 0, api.ErrDead)
	isHeld(t, p, 2, 0, 2)
	isPeak(t, p, 2, 0)
	fine(t, d.On(nil))
	isPages(t, p, "a", 4)
	read(t, p, "a", 2, 3)
	isHeld(t, p, 2, 0, 2)
	read(t, p, "a", 0, 1)
	isHeld(t, p, 2, 0, 0)
	lies(t, d, "a", textsOf("a", 4)...)
}

func TestFramesOutliveALossOfPower(t *testing.T) { // Words: dirty or not, pinned or not; what was lost beneath is told as it is
	d, p := laid(t, 4, 2)
	pin(t, p, "a", 0)
	fine(t, p.Write("a", 1, []byte{7}))
	write(t, p, "a", 2, 3)
	again(t, d)
	isHeld(t, p, 4, 1, 3)
	isPages(t, p, "a", 4)
	isRead(t, p, "a", 1, []byte{7})
	read(t, p, "a", 0, 2, 3)
	fine(t, p.Flush("a"))
	again(t, d)
	lies(t, d, "a", textOf("a", 0), []byte{7}, textOf("a", 2), textOf("a", 3))
	unpin(t, p, "a", 0)
}

func TestPagesThatWereLostBeneath(t *testing.T) { // Words: behind a loss the disk has fewer pages; a clean frame is none of the file's, a dirty one is
	d, p := laid(t, 4, 0)
	write(t, p, "a", 0, 1, 2, 3)
	fine(t, d.Arm(3))
	is(t, "Flush", p.Flush("a"), api.ErrDead)
	isHeld(t, p, 4, 0, 2)
	fine(t, d.On(nil)) // pages 0 and 1 were written, not synced
	lies(t, d, "a")
	isPages(t, p, "a", 4)
	read(t, p, "a", 0, 1, 2, 3)
	is(t, "Flush of a page whose lower ones are missing", p.Flush("a"), api.ErrArg)
	write(t, p, "a", 0, 1)
	fine(t, p.Flush("a"))
	lies(t, d, "a", textsOf("a", 4)...)
}

// P10.7.

// shadow is what was written last, file by file, and which pages are pinned.
type shadow struct {
	files map[string][][]byte
	pins  map[api.Place]int
}

// rowOf are calls of all kinds for which never more pages are pinned than so many, with what each must answer.
func rowOf(r *random, mostPinned, n int) ([]call, []answer) {
	s := shadow{map[string][][]byte{}, map[api.Place]int{}}
	var calls []call
	var answers []answer
	for len(calls) < n {
		c := r.call()
		if c.what == "Pin" && len(s.pins) == mostPinned && s.pins[at(c.name, c.k)] == 0 {
			continue
		}
		calls, answers = append(calls, c), append(answers, s.answer(c))
	}
	return calls, answers
}

// answer is what a call must answer, however many frames there are.
func (s shadow) answer(c call) answer {
	texts, there := s.files[c.name]
	place := at(c.name, c.k)
	switch {
	case c.what == "Unpin":
		if s.pins[place] == 0 {
			return answer{e: api.ErrNone}
		}
		if s.pins[place]--; s.pins[place] == 0 {
			delete(s.pins, place)
		}
		return answer{}
	case c.what == "Write" && len(c.text) > most:
		return answer{e: api.ErrMany}
	case c.name == "A":
		return answer{e: api.ErrArg}
	case c.what == "Create" && there:
		return answer{e: api.ErrThere}
	case c.what == "Create":
		s.files[c.name] = nil
		return answer{}
	case !there:
		return answer{e: api.ErrNone}
	}
	switch c.what {
	case "Drop":
		for p := range s.pins {
			if p.Name == c.name {
				return answer{e: api.ErrPins}
			}
		}
		delete(s.files, c.name)
	case "Pages":
		return answer{n: len(texts)}
	case "Read", "Pin":
		if c.k < 0 {
			return answer{e: api.ErrArg}
		}
		if c.k >= len(texts) {
			return answer{e: api.ErrNone}
		}
		if c.what == "Pin" {
			s.pins[place]++
		}
		return answer{text: string(texts[c.k])}
	case "Write":
		if c.k < 0 || c.k > len(texts) {
			return answer{e: api.ErrArg}
		}
		s.files[c.name] = with(texts, c.k, c.text)
	}
	return answer{}
}

func TestFewAndManyFramesAnswerTheSame(t *testing.T) { // P10.7: one for each page that is pinned, and one more
	for seed := range 300 {
		r := random(seed)
		pinned := seed % 4
		calls, answers := rowOf(&r, pinned, 250)
		for _, frames := range []int{pinned + 1, pinned + 2, pinned + 3, 7, 8, 13, 40, mostFrames} {
			d := newDisk(t, 1000)
			p := newPool(t, d, frames)
			files := shadow{map[string][][]byte{}, map[api.Place]int{}}
			for i, c := range calls {
				if got := c.ask(p); got != answers[i] {
					t.Fatalf("%d frames: %v: %v; want %v", frames, c, got, answers[i])
				}
				files.answer(c)
				isWithin(t, p.Frames(), p, len(files.pins))
				if c.what == "Flush" && answers[i].e == api.OK {
					lies(t, d, c.name, files.files[c.name]...)
				}
			}
			isAllThere(t, d, p, files)
		}
	}
}

// isWithin says that no more frames must be held than there are, and just so many be pinned.
func isWithin(t *testing.T, frames int, p pooler, pinned int) {
	t.Helper()
	x, y, z := p.Held()
	v, w := p.Peak()
	if x > frames || y != pinned || z > x || v > frames || v < x || w < y || w > v {
		t.Fatalf("%d frames: Held %d %d %d, Peak %d %d; want %d pinned", frames, x, y, z, v, w, pinned)
	}
}

// isAllThere flushes all files, which must have what was written last, behind a loss of power too.
func isAllThere(t *testing.T, d *disk.Disk, p pooler, files shadow) {
	t.Helper()
	for name := range files.files {
		fine(t, p.Flush(name))
	}
	if l := d.Loose(); len(l) != 0 {
		t.Fatalf("loose: %v", l)
	}
	if _, _, dirty := p.Held(); dirty != 0 {
		t.Fatalf("%d dirty frames", dirty)
	}
	lose(t, d)
	fine(t, d.On(nil))
	if len(d.Names()) != len(files.files) {
		t.Fatalf("files: %q", d.Names())
	}
	for name, texts := range files.files {
		lies(t, d, name, texts...)
		for k, want := range texts {
			if b, e := p.Read(name, k); !bytes.Equal(b, want) || e != api.OK {
				t.Fatalf("Read of %s %d: %q, %d", name, k, b, e)
			}
		}
	}
}
