package pool_test

import (
	"bytes"
	"encoding/binary"
	"fmt"
	"hash/crc32"
	"slices"
	"testing"

	"milepost/api"
	"milepost/disk"
	"milepost/pagefile"
	"milepost/pool"
)

// The limits as the chapters tell them, not as package api does.
const (
	pageSize   = 256
	sectorSize = 64
	most       = 240 // bytes in a page
	mostFrames = 4096
	mostSize   = 16777216
	sumAt      = 252
)

// sumOf is the sum of bytes, as the library has it.
func sumOf(b []byte) uint32 { return crc32.Checksum(b, crc32.MakeTable(crc32.Castagnoli)) }

// pageOf is page k of a file of that name, as chapter 7 says it.
func pageOf(name string, k int, b []byte) []byte {
	p := binary.LittleEndian.AppendUint32(nil, sumOf([]byte(name)))
	p = binary.LittleEndian.AppendUint32(p, uint32(k))
	p = binary.LittleEndian.AppendUint16(p, uint16(len(b)))
	p = append(p, 0, 0)
	p = append(p, b...)
	p = append(p, make([]byte, sumAt-len(p))...)
	return binary.LittleEndian.AppendUint32(p, sumOf(p))
}

// fileOf are the pages of a file, one behind the other.
func fileOf(name string, texts ...[]byte) []byte {
	var b []byte
	for k, text := range texts {
		b = append(b, pageOf(name, k, text)...)
	}
	return b
}

// pooler is what a pool answers, and what the model of one does.
type pooler interface {
	Frames() int
	Create(name string) api.Errno
	Drop(name string) api.Errno
	Pages(name string) (int, api.Errno)
	Pin(name string, k int) ([]byte, api.Errno)
	Unpin(name string, k int) api.Errno
	Read(name string, k int) ([]byte, api.Errno)
	Write(name string, k int, b []byte) api.Errno
	Flush(name string) api.Errno
	Held() (resident, pinned, dirty int)
	Peak() (resident, pinned int)
}

// slot is a frame of the model.
type slot struct {
	full  bool
	name  string
	page  int
	text  []byte
	pins  int
	dirty bool
	used  bool
}

// model is a pool, sentence by sentence as the chapter says it.
type model struct {
	d      *disk.Disk
	slots  []slot
	hand   int
	held   int // the most
	pinned int // the most
}

func newModel(d *disk.Disk, frames int) *model { return &model{d: d, slots: make([]slot, frames)} }

func (m *model) Frames() int { return len(m.slots) }

func (m *model) Create(name string) api.Errno { return m.d.Create(name) }

func (m *model) Drop(name string) api.Errno {
	for _, s := range m.slots {
		if s.full && s.name == name && s.pins > 0 {
			return api.ErrPins
		}
	}
	for i, s := range m.slots {
		if s.full && s.name == name {
			m.slots[i] = slot{}
		}
	}
	return m.d.Remove(name)
}

func (m *model) Pages(name string) (int, api.Errno) {
	size, e := m.d.Size(name)
	if e != api.OK {
		return 0, e
	}
	if size%pageSize != 0 {
		return 0, api.ErrRot
	}
	pages := size / pageSize
	for _, s := range m.slots {
		if s.full && s.dirty && s.name == name && s.page >= pages {
			pages = s.page + 1
		}
	}
	return pages, api.OK
}

// at is which frame holds a page, or -1.
func (m *model) at(name string, k int) int {
	return slices.IndexFunc(m.slots, func(s slot) bool { return s.full && s.name == name && s.page == k })
}

// note keeps what is asked of Peak.
func (m *model) note() {
	held, pinned, _ := m.Held()
	m.held, m.pinned = max(m.held, held), max(m.pinned, pinned)
}

// write is pagefile's, of a file that is opened already.
func (m *model) write(i int) api.Errno {
	s := &m.slots[i]
	size, e := m.d.Size(s.name)
	if e != api.OK {
		return e
	}
	if size/pageSize < s.page {
		return api.ErrArg
	}
	if e := m.d.Write(s.name, s.page*pageSize, pageOf(s.name, s.page, s.text)); e != api.OK {
		return e
	}
	s.dirty = false
	return api.OK
}

// back is to write a frame back.
func (m *model) back(i int) api.Errno {
	me := m.slots[i]
	for page := range me.page {
		j := m.at(me.name, page)
		if j < 0 || !m.slots[j].dirty {
			continue
		}
		size, e := m.d.Size(me.name)
		if e != api.OK {
			return e
		}
		if page < size/pageSize {
			continue // the disk has it
		}
		if e := m.write(j); e != api.OK {
			return e
		}
	}
	return m.write(i)
}

// take is to take a frame.
func (m *model) take() (int, api.Errno) {
	for i, s := range m.slots {
		if !s.full {
			return i, api.OK
		}
	}
	n, began := len(m.slots), m.hand
	for range 2 * n {
		i := m.hand
		s := &m.slots[i]
		if s.pins == 0 && !s.used {
			if s.dirty {
				if e := m.back(i); e != api.OK {
					return 0, e
				}
			}
			m.hand = (i + 1) % n
			m.slots[i] = slot{}
			return i, api.OK
		}
		if s.pins == 0 {
			s.used = false
		}
		m.hand = (i + 1) % n
	}
	m.hand = began
	return 0, api.ErrPins
}

// get is which frame holds a page that is brought.
func (m *model) get(name string, k int) (int, api.Errno) {
	pages, e := m.Pages(name)
	if e != api.OK {
		return 0, e
	}
	if k < 0 {
		return 0, api.ErrArg
	}
	if k >= pages {
		return 0, api.ErrNone
	}
	i := m.at(name, k)
	if i < 0 {
		f, e := pagefile.Open(m.d, name)
		if e != api.OK {
			return 0, e
		}
		text, e := f.Read(k)
		if e != api.OK {
			return 0, e
		}
		if i, e = m.take(); e != api.OK {
			return 0, e
		}
		m.slots[i] = slot{full: true, name: name, page: k, text: text}
	}
	m.slots[i].used = true
	m.note()
	return i, api.OK
}

func (m *model) Pin(name string, k int) ([]byte, api.Errno) {
	i, e := m.get(name, k)
	if e != api.OK {
		return nil, e
	}
	m.slots[i].pins++
	m.note()
	return bytes.Clone(m.slots[i].text), api.OK
}

func (m *model) Unpin(name string, k int) api.Errno {
	i := m.at(name, k)
	if i < 0 || m.slots[i].pins == 0 {
		return api.ErrNone
	}
	m.slots[i].pins--
	return api.OK
}

func (m *model) Read(name string, k int) ([]byte, api.Errno) {
	i, e := m.get(name, k)
	if e != api.OK {
		return nil, e
	}
	return bytes.Clone(m.slots[i].text), api.OK
}

func (m *model) Write(name string, k int, b []byte) api.Errno {
	if len(b) > most {
		return api.ErrMany
	}
	pages, e := m.Pages(name)
	if e != api.OK {
		return e
	}
	if k < 0 || pages < k {
		return api.ErrArg
	}
	i := m.at(name, k)
	if i < 0 {
		if i, e = m.take(); e != api.OK {
			return e
		}
		m.slots[i] = slot{full: true, name: name, page: k}
	}
	s := &m.slots[i]
	s.text, s.dirty, s.used = bytes.Clone(b), true, true
	m.note()
	return api.OK
}

func (m *model) Flush(name string) api.Errno {
	pages, e := m.Pages(name)
	if e != api.OK {
		return e
	}
	for page := range pages {
		if i := m.at(name, page); i >= 0 && m.slots[i].dirty {
			if e := m.back(i); e != api.OK {
				return e
			}
		}
	}
	return m.d.Sync(name)
}

func (m *model) Held() (resident, pinned, dirty int) {
	for _, s := range m.slots {
		if s.full {
			resident++
		}
		if s.pins > 0 {
			pinned++
		}
		if s.dirty {
			dirty++
		}
	}
	return resident, pinned, dirty
}

func (m *model) Peak() (resident, pinned int) { return m.held, m.pinned }

// call is what is asked of a pool.
type call struct {
	what string
	name string
	k    int
	text []byte
}

func (c call) String() string {
	return fmt.Sprintf("%s(%q, %d, %d bytes)", c.what, c.name, c.k, len(c.text))
}

// answer is what a call answers.
type answer struct {
	text string
	n    int
	e    api.Errno
}

// ask asks a pool.
func (c call) ask(p pooler) answer {
	switch c.what {
	case "Create":
		return answer{e: p.Create(c.name)}
	case "Drop":
		return answer{e: p.Drop(c.name)}
	case "Pages":
		n, e := p.Pages(c.name)
		return answer{n: n, e: e}
	case "Pin":
		b, e := p.Pin(c.name, c.k)
		return answer{text: string(b), e: e}
	case "Unpin":
		return answer{e: p.Unpin(c.name, c.k)}
	case "Read":
		b, e := p.Read(c.name, c.k)
		return answer{text: string(b), e: e}
	case "Write":
		return answer{e: p.Write(c.name, c.k, c.text)}
	case "Flush":
		return answer{e: p.Flush(c.name)}
	}
	panic("no call: " + c.what)
}

// pair is a pool, and a model of it on a disk of its own, to which the same is done.
type pair struct {
	d, other *disk.Disk
	p        *pool.Pool
	m        *model
}

func newPair(t *testing.T, quota, frames int) pair {
	t.Helper()
	d, other := newDisk(t, quota), newDisk(t, quota)
	return pair{d, other, newPool(t, d, frames), newModel(other, frames)}
}

// both must have told the same error.
func both(t *testing.T, what string, got, want api.Errno) {
	t.Helper()
	if got != want {
		t.Fatalf("%s: %d; want %d", what, got, want)
	}
}

// ask asks both, and they must answer the same.
func (p pair) ask(t *testing.T, c call) answer {
	t.Helper()
	got, want := c.ask(p.p), c.ask(p.m)
	if got != want {
		t.Fatalf("%v: %v; want %v", c, got, want)
	}
	return got
}

// both disks are armed.
func (p pair) arm(t *testing.T, n int) {
	t.Helper()
	both(t, "Arm", p.d.Arm(n), p.other.Arm(n))
}

// on lets both disks have power again.
func (p pair) on(t *testing.T, keep ...int) {
	t.Helper()
	both(t, "On", p.d.On(keep), p.other.On(keep))
}

// quota lets both disks have so many sectors.
func (p pair) quota(t *testing.T, n int) {
	t.Helper()
	both(t, "Quota", p.d.Quota(n), p.other.Quota(n))
}

// isLike holds what frames there are, and all that the disk tells, against the model.
func (p pair) isLike(t *testing.T) {
	t.Helper()
	a, b, c := p.p.Held()
	x, y, z := p.m.Held()
	if a != x || b != y || c != z {
		t.Fatalf("Held: %d %d %d; want %d %d %d", a, b, c, x, y, z)
	}
	a, b = p.p.Peak()
	x, y = p.m.Peak()
	if a != x || b != y {
		t.Fatalf("Peak: %d %d; want %d %d", a, b, x, y)
	}
	if !sameFiles(p.d.Files(), p.other.Files()) || !slices.Equal(p.d.Loose(), p.other.Loose()) || p.d.Dead() != p.other.Dead() {
		t.Fatal("the disk holds something else")
	}
}

// holdsLike holds what each frame holds against the model: no page can be read from the disk, so that those alone are told that frames hold. Their frames are used then, in both.
func (p pair) holdsLike(t *testing.T) {
	t.Helper()
	spoilPages(p.d)
	spoilPages(p.other)
	for _, name := range p.d.Names() {
		pages := p.ask(t, call{what: "Pages", name: name}).n
		for k := range pages {
			p.ask(t, call{what: "Read", name: name, k: k})
		}
	}
	spoilPages(p.d)
	spoilPages(p.other)
}

// spoilPages turns a bit of each page on a disk; once more, and they are as they were. That is no operation.
func spoilPages(d *disk.Disk) {
	for _, f := range d.Files() {
		for at := sumAt; at < len(f.Bytes); at += pageSize {
			d.Flip(f.Name, at, 1)
		}
	}
}

// sameFiles says whether files are the same, byte for byte.
func sameFiles(a, b []api.File) bool {
	return slices.EqualFunc(a, b, func(f, g api.File) bool { return f.Name == g.Name && bytes.Equal(f.Bytes, g.Bytes) })
}

// random are numbers that are the same at each run.
type random uint64

// below is the next number, from 0 on and below n.
func (r *random) below(n int) int {
	*r = *r*6364136223846793005 + 1442695040888963407
	return int(uint64(*r) >> 33 % uint64(n))
}

// text are the next n bytes.
func (r *random) text(n int) []byte {
	b := make([]byte, n)
	for i := range b {
		b[i] = byte(r.below(256))
	}
	return b
}

// name is the next name, seldom one that is none.
func (r *random) name() string { return []string{"a", "b", "a", "b", "a", "c", "a", "A"}[r.below(8)] }

// size is how many bytes the next page has, seldom too many.
func (r *random) size() int { return []int{0, 1, 2, 5, 60, 120, 200, 239, 240, 241}[r.below(10)] }

// call is the next call.
func (r *random) call() call {
	name, k := r.name(), r.below(9)-1
	if r.below(30) == 0 {
		return call{what: "Create", name: name}
	}
	if r.below(60) == 0 {
		return call{what: "Drop", name: name}
	}
	switch r.below(12) {
	case 0:
		return call{what: "Pages", name: name}
	case 1:
		return call{what: "Pin", name: name, k: k}
	case 2, 3:
		return call{what: "Unpin", name: name, k: k}
	case 4, 5, 6:
		return call{what: "Read", name: name, k: k}
	case 7:
		return call{what: "Flush", name: name}
	}
	return call{what: "Write", name: name, k: k, text: r.text(r.size())}
}

// spoil does something to both disks that is not done through their pools.
func (p pair) spoil(t *testing.T, r *random) {
	t.Helper()
	name, other, at := r.name(), r.name(), r.below(1800)
	switch r.below(12) {
	case 0:
		both(t, "Remove", p.d.Remove(name), p.other.Remove(name))
	case 1:
		both(t, "Rename", p.d.Rename(name, other), p.other.Rename(name, other))
	case 2:
		both(t, "Cut", p.d.Cut(name, at), p.other.Cut(name, at))
	case 3:
		at -= at % pageSize
		both(t, "Cut", p.d.Cut(name, at), p.other.Cut(name, at))
	case 4, 5, 6:
		both(t, "Flip", p.d.Flip(name, at, 1<<(at%8)), p.other.Flip(name, at, 1<<(at%8)))
	case 7:
		b := r.text(at % 100)
		both(t, "disk.Write", p.d.Write(name, at, b), p.other.Write(name, at, b))
	case 8: // a page of the file, made by another hand
		k := at / pageSize
		b := pageOf(name, k, r.text(most/2))
		both(t, "disk.Write", p.d.Write(name, k*pageSize, b), p.other.Write(name, k*pageSize, b))
	case 9:
		p.quota(t, r.below(60))
	case 10:
		p.quota(t, 1000)
	case 11:
		p.arm(t, r.below(12))
	}
}

// step does one thing, whichever comes next, to both, and they must tell the same.
func (p pair) step(t *testing.T, r *random) {
	t.Helper()
	if r.below(12) == 0 {
		p.spoil(t, r)
	}
	if p.d.Dead() && r.below(4) == 0 {
		keep := []int{r.below(8), r.below(8), r.below(8), r.below(8), r.below(20), r.below(20)}[:r.below(7)]
		p.on(t, keep...)
	}
	p.ask(t, r.call())
}

func TestRowsOfCalls(t *testing.T) { // P10.1 to P10.6, R5: with all that may befall a disk
	for seed := range 2000 {
		r := random(seed)
		p := newPair(t, 1000, 1+seed%7)
		for range 120 {
			p.step(t, &r)
			p.isLike(t)
		}
		p.holdsLike(t)
	}
}

func TestRowsOfCallsThatAreRight(t *testing.T) { // P10.1 to P10.6, R5: on a disk that nothing befalls but turned bits
	for seed := range 1000 {
		r := random(seed)
		p := newPair(t, 1000, 1+seed%9)
		for range 250 {
			if r.below(20) == 0 {
				name, at := r.name(), r.below(1800)
				both(t, "Flip", p.d.Flip(name, at, 1), p.other.Flip(name, at, 1))
			}
			p.ask(t, r.call())
			p.isLike(t)
		}
		p.holdsLike(t)
	}
}
