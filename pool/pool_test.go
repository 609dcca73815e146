package pool_test

import (
	"bytes"
	"fmt"
	"math"
	"slices"
	"strings"
	"testing"

	"milepost/api"
	"milepost/disk"
	"milepost/pool"
)

// newDisk is a disk of so many sectors, without files.
func newDisk(t *testing.T, quota int) *disk.Disk {
	t.Helper()
	d, e := disk.New(quota)
	if e != api.OK || d == nil {
		t.Fatalf("New of %d: %v, %d", quota, d, e)
	}
	return d
}

// newPool is a pool of so many frames.
func newPool(t *testing.T, d *disk.Disk, frames int) *pool.Pool {
	t.Helper()
	p, e := pool.New(d, frames)
	if e != api.OK || p == nil {
		t.Fatalf("New of %d: %v, %d", frames, p, e)
	}
	return p
}

// is holds an error against what it must be.
func is(t *testing.T, what string, got, want api.Errno) {
	t.Helper()
	if got != want {
		t.Fatalf("%s: %d; want %d", what, got, want)
	}
}

// fine are errors that must be none.
func fine(t *testing.T, l ...api.Errno) {
	t.Helper()
	for i, e := range l {
		if e != api.OK {
			t.Fatalf("call %d: %d", i, e)
		}
	}
}

// rows are n bytes without a 0, none like the one ahead of it; they begin with c.
func rows(n int, c byte) []byte {
	b := make([]byte, n)
	for i := range b {
		b[i] = byte(1 + (int(c)-1+i*89)%255)
	}
	return b
}

// textOf is what page k of a file has at first, unlike all others.
func textOf(name string, k int) []byte { return []byte(fmt.Sprint(name, " ", k)) }

// textsOf are those of the first n pages.
func textsOf(name string, n int) [][]byte {
	l := make([][]byte, n)
	for k := range l {
		l[k] = textOf(name, k)
	}
	return l
}

// lay makes a file of n pages on a disk, without a pool; it lasts.
func lay(t *testing.T, d *disk.Disk, name string, n int) {
	t.Helper()
	fine(t, d.Create(name), d.Write(name, 0, fileOf(name, textsOf(name, n)...)), d.Sync(name))
}

// laid is a pool of so many frames over a new disk with a file "a" of n pages that last.
func laid(t *testing.T, frames, n int) (*disk.Disk, *pool.Pool) {
	t.Helper()
	d := newDisk(t, 1<<20)
	lay(t, d, "a", n)
	return d, newPool(t, d, frames)
}

// write writes pages of a file with what they have at first.
func write(t *testing.T, p *pool.Pool, name string, pages ...int) {
	t.Helper()
	for _, k := range pages {
		if e := p.Write(name, k, textOf(name, k)); e != api.OK {
			t.Fatalf("Write of %s %d: %d", name, k, e)
		}
	}
}

// read reads pages of a file, which must have what they had at first.
func read(t *testing.T, p *pool.Pool, name string, pages ...int) {
	t.Helper()
	for _, k := range pages {
		isRead(t, p, name, k, textOf(name, k))
	}
}

// pin pins pages of a file, which must have what they had at first.
func pin(t *testing.T, p *pool.Pool, name string, pages ...int) {
	t.Helper()
	for _, k := range pages {
		if b, e := p.Pin(name, k); !bytes.Equal(b, textOf(name, k)) || e != api.OK {
			t.Fatalf("Pin of %s %d: %q, %d", name, k, b, e)
		}
	}
}

// unpin unpins pages of a file.
func unpin(t *testing.T, p *pool.Pool, name string, pages ...int) {
	t.Helper()
	for _, k := range pages {
		if e := p.Unpin(name, k); e != api.OK {
			t.Fatalf("Unpin of %s %d: %d", name, k, e)
		}
	}
}

// isRead holds a page's bytes against what they must be.
func isRead(t *testing.T, p *pool.Pool, name string, k int, want []byte) {
	t.Helper()
	if b, e := p.Read(name, k); !bytes.Equal(b, want) || e != api.OK {
		t.Fatalf("Read of %s %d: %q, %d; want %q", name, k, b, e, want)
	}
}

// isRefused says that a page must be neither read nor pinned, and nothing be told of it.
func isRefused(t *testing.T, p *pool.Pool, name string, k int, want api.Errno) {
	t.Helper()
	if b, e := p.Read(name, k); len(b) != 0 || e != want {
		t.Fatalf("Read of %q %d: %q, %d; want %d", name, k, b, e, want)
	}
	if b, e := p.Pin(name, k); len(b) != 0 || e != want {
		t.Fatalf("Pin of %q %d: %q, %d; want %d", name, k, b, e, want)
	}
}

// isPages holds how many pages a file has against what it must be.
func isPages(t *testing.T, p *pool.Pool, name string, want int) {
	t.Helper()
	if n, e := p.Pages(name); n != want || e != api.OK {
		t.Fatalf("Pages of %q: %d, %d; want %d", name, n, e, want)
	}
}

// isNone says that how many pages a file has must not be told.
func isNone(t *testing.T, p *pool.Pool, name string, want api.Errno) {
	t.Helper()
	if n, e := p.Pages(name); n != 0 || e != want {
		t.Fatalf("Pages of %q: %d, %d; want %d", name, n, e, want)
	}
}

// isHeld holds how many frames are not empty, pinned and dirty against what they must be.
func isHeld(t *testing.T, p *pool.Pool, resident, pinned, dirty int) {
	t.Helper()
	if x, y, z := p.Held(); x != resident || y != pinned || z != dirty {
		t.Fatalf("Held: %d %d %d; want %d %d %d", x, y, z, resident, pinned, dirty)
	}
}

// isPeak holds how many frames were ever not empty, and pinned, against what they must be.
func isPeak(t *testing.T, p *pool.Pool, resident, pinned int) {
	t.Helper()
	if x, y := p.Peak(); x != resident || y != pinned {
		t.Fatalf("Peak: %d %d; want %d %d", x, y, resident, pinned)
	}
}

// lies holds a file's bytes on the disk against the pages that it must have.
func lies(t *testing.T, d *disk.Disk, name string, texts ...[]byte) {
	t.Helper()
	b, e := d.Read(name, 0, mostSize)
	if want := fileOf(name, texts...); !bytes.Equal(b, want) || e != api.OK {
		t.Fatalf("%s on the disk: %d bytes, %d; want %d, or other ones", name, len(b), e, len(want))
	}
}

// at is the place of a page.
func at(name string, k int) api.Place { return api.Place{Name: name, Page: k} }

// places are those of pages of one file.
func places(name string, pages ...int) []api.Place {
	var l []api.Place
	for _, k := range pages {
		l = append(l, at(name, k))
	}
	return l
}

// heldBy are the pages that frames hold, by their files' names, then by their numbers. They are told by turning a bit of every page on the disk: what can be read then is held. The frames are used then, so that it is asked last.
func heldBy(p *pool.Pool) []api.Place {
	d := p.Disk()
	spoilPages(d)
	var l []api.Place
	for _, name := range d.Names() {
		pages, _ := p.Pages(name)
		for k := range pages {
			if _, e := p.Read(name, k); e == api.OK {
				l = append(l, at(name, k))
			}
		}
	}
	spoilPages(d)
	return l
}

// holds holds the pages that frames hold against those that they must; it is asked last.
func holds(t *testing.T, p *pool.Pool, want ...api.Place) {
	t.Helper()
	if got := heldBy(p); !slices.Equal(got, want) {
		t.Fatalf("frames hold %v; want %v", got, want)
	}
}

// isUnchanged says that a call must change neither the disk nor how many frames hold something.
func isUnchanged(t *testing.T, p *pool.Pool, what string, call func()) {
	t.Helper()
	d := p.Disk()
	files, loose := d.Files(), d.Loose()
	x, y, z := p.Held()
	v, w := p.Peak()
	call()
	isHeld(t, p, x, y, z)
	isPeak(t, p, v, w)
	if !sameFiles(d.Files(), files) || !slices.Equal(d.Loose(), loose) {
		t.Fatalf("%s changes what is on the disk", what)
	}
}

// lose lets the power go.
func lose(t *testing.T, d *disk.Disk) {
	t.Helper()
	fine(t, d.Arm(1))
	is(t, "Sync", d.Sync("a"), api.ErrDead)
}

// again lets the power go and come, with these loose sectors kept.
func again(t *testing.T, d *disk.Disk, keep ...int) {
	t.Helper()
	lose(t, d)
	fine(t, d.On(keep))
}

// setOf are the places of the bits that are set.
func setOf(bits int) []int {
	var l []int
	for i := range 32 {
		if bits>>i&1 == 1 {
			l = append(l, i)
		}
	}
	return l
}

// upTo are the numbers from 0 on and below n.
func upTo(n int) []int { return from(0, n) }

// from are the numbers from begin on and below end.
func from(begin, end int) []int {
	var l []int
	for i := begin; i < end; i++ {
		l = append(l, i)
	}
	return l
}

// with are the texts of pages with that of page k, which is one of them or the next one, in its place.
func with(texts [][]byte, k int, b []byte) [][]byte {
	texts = slices.Clone(texts)
	if k == len(texts) {
		return append(texts, b)
	}
	texts[k] = b
	return texts
}

// wrongNames are texts that are no names.
func wrongNames() []string {
	return []string{"", "A", "aA", "a/b", "a b", "a_b", "\x00", "\xff", "é", strings.Repeat("a", 25), strings.Repeat("-", 1000)}
}

func TestLimits(t *testing.T) { // Words, P10.1, P10.4
	if api.MaxB != mostFrames || api.Room != most || api.Page != pageSize || api.Sector != sectorSize || api.MaxSize != mostSize {
		t.Error("package api has other limits than the chapters")
	}
}

func TestErrors(t *testing.T) { // Errors
	got := []api.Errno{api.OK, api.ErrArg, api.ErrNil, api.ErrNone, api.ErrThere, api.ErrFull, api.ErrDead, api.ErrRot}
	for i, e := range got {
		if int(e) != i {
			t.Errorf("error %d is %d", i, int(e))
		}
	}
	if int(api.ErrMany) != 9 || int(api.ErrPins) != 10 {
		t.Errorf("ErrMany is %d, ErrPins %d", int(api.ErrMany), int(api.ErrPins))
	}
}

func TestExamples(t *testing.T) { // P10.2 to P10.6: the chapter's
	d := newDisk(t, 100)
	p := newPool(t, d, 2)
	fine(t, p.Create("a"), p.Write("a", 0, []byte{1}), p.Write("a", 1, []byte{2}), p.Write("a", 2, []byte{3}))
	isHeld(t, p, 2, 0, 2)
	isRead(t, p, "a", 0, []byte{1})
	isRead(t, p, "a", 2, []byte{3})
	for k, want := range map[int]byte{1: 2, 2: 3} {
		if b, e := p.Pin("a", k); !bytes.Equal(b, []byte{want}) || e != api.OK {
			t.Fatalf("Pin of %d: % x, %d", k, b, e)
		}
	}
	isRefused(t, p, "a", 0, api.ErrPins)
	is(t, "Unpin", p.Unpin("a", 1), api.OK)
	isRead(t, p, "a", 0, []byte{1})
	is(t, "Flush", p.Flush("a"), api.OK)
	is(t, "Drop", p.Drop("a"), api.ErrPins)
}

// Errors.

func TestNoDisk(t *testing.T) { // Errors, R4, P10.1: ahead of all else, however many frames
	for _, n := range []int{math.MinInt, -1, 0, 1, 8, mostFrames, mostFrames + 1, math.MaxInt} {
		if p, e := pool.New(nil, n); p != nil || e != api.ErrNil {
			t.Errorf("New of %d: %v, %d", n, p, e)
		}
	}
}

func TestNoPool(t *testing.T) { // Errors, R4: ahead of all else, whatever is asked
	var p *pool.Pool
	if p.Disk() != nil || p.Frames() != 0 {
		t.Errorf("Disk %v, Frames %d", p.Disk(), p.Frames())
	}
	isHeld(t, p, 0, 0, 0)
	isPeak(t, p, 0, 0)
	for _, name := range append(wrongNames(), "a", "b") {
		is(t, "Create", p.Create(name), api.ErrNil)
		is(t, "Drop", p.Drop(name), api.ErrNil)
		is(t, "Flush", p.Flush(name), api.ErrNil)
		isNone(t, p, name, api.ErrNil)
		for _, k := range []int{math.MinInt, -1, 0, 1, math.MaxInt} {
			isRefused(t, p, name, k, api.ErrNil)
			is(t, "Unpin", p.Unpin(name, k), api.ErrNil)
			for _, n := range []int{0, 1, most, most + 1} {
				is(t, "Write", p.Write(name, k, rows(n, 1)), api.ErrNil)
			}
		}
	}
}

func TestWithoutPower(t *testing.T) { // Errors: those of the layers below; what asks no disk is answered still
	d, p := laid(t, 3, 4)
	pin(t, p, "a", 0)
	read(t, p, "a", 1)
	fine(t, p.Write("a", 4, textOf("a", 4)))
	lose(t, d)
	isUnchanged(t, p, "a call without power", func() {
		for _, name := range append(wrongNames(), "a", "b") {
			is(t, "Create", p.Create(name), api.ErrDead)
			is(t, "Flush", p.Flush(name), api.ErrDead)
			isNone(t, p, name, api.ErrDead)
			for _, k := range []int{math.MinInt, -1, 0, 1, 2, 4, 5, math.MaxInt} {
				isRefused(t, p, name, k, api.ErrDead)
				is(t, "Write", p.Write(name, k, rows(most, 1)), api.ErrDead)
				is(t, "Write", p.Write(name, k, rows(most+1, 1)), api.ErrMany)
			}
		}
		is(t, "Drop of a pinned page's file", p.Drop("a"), api.ErrPins)
		is(t, "Unpin of what is not pinned", p.Unpin("a", 1), api.ErrNone)
	})
	if p.Disk() != d || p.Frames() != 3 {
		t.Errorf("Disk %v, Frames %d", p.Disk(), p.Frames())
	}
	unpin(t, p, "a", 0)
	isHeld(t, p, 3, 0, 1)
	fine(t, d.On(nil))
	isPages(t, p, "a", 5)
	holds(t, p, places("a", 0, 1, 4)...)
	read(t, p, "a", 0, 1, 2, 3, 4)
}

func TestDropWithoutPower(t *testing.T) { // P10.2: the frames are empty, whatever disk.Remove says then
	d, p := laid(t, 4, 2)
	lay(t, d, "b", 1)
	read(t, p, "a", 0, 1)
	write(t, p, "a", 2)
	read(t, p, "b", 0)
	lose(t, d)
	is(t, "Drop", p.Drop("a"), api.ErrDead)
	isHeld(t, p, 1, 0, 0)
	isPeak(t, p, 4, 0)
	fine(t, d.On(nil))
	isPages(t, p, "a", 2)
	lies(t, d, "a", textsOf("a", 2)...)
	holds(t, p, at("b", 0))
	fine(t, p.Drop("a"))
}

func TestTheOrderOfRefusals(t *testing.T) { // R2: the first that the chapter names
	d, p := laid(t, 1, 2)
	lay(t, d, "b", 2)
	fine(t, d.Write("b", 512, []byte{1}), d.Create("c"))
	pin(t, p, "a", 0)
	tooMany := rows(most+1, 1)
	is(t, "Write: bytes, name, page", p.Write("A", -1, tooMany), api.ErrMany)
	is(t, "Write: bytes, file, page", p.Write("z", -1, tooMany), api.ErrMany)
	is(t, "Write: bytes, size, page", p.Write("b", -1, tooMany), api.ErrMany)
	is(t, "Write: bytes, page, frames", p.Write("a", -1, tooMany), api.ErrMany)
	is(t, "Write: bytes, frames", p.Write("a", 2, tooMany), api.ErrMany)
	is(t, "Write: name, page", p.Write("A", -1, nil), api.ErrArg)
	is(t, "Write: file, page", p.Write("z", -1, nil), api.ErrNone)
	is(t, "Write: file, page beyond", p.Write("z", 9, nil), api.ErrNone)
	is(t, "Write: size, page", p.Write("b", -1, nil), api.ErrRot)
	is(t, "Write: size, page beyond", p.Write("b", 9, nil), api.ErrRot)
	is(t, "Write: page, frames", p.Write("a", -1, nil), api.ErrArg)
	is(t, "Write: page beyond, frames", p.Write("a", 3, nil), api.ErrArg)
	is(t, "Write: frames", p.Write("a", 2, nil), api.ErrPins)
	isRefused(t, p, "A", -1, api.ErrArg)
	isRefused(t, p, "z", -1, api.ErrNone)
	isRefused(t, p, "b", -1, api.ErrRot)
	isRefused(t, p, "b", 9, api.ErrRot)
	isRefused(t, p, "a", -1, api.ErrArg)
	isRefused(t, p, "a", 2, api.ErrNone)
	isRefused(t, p, "c", -1, api.ErrArg)
	isRefused(t, p, "c", 0, api.ErrNone)
	isRefused(t, p, "a", 1, api.ErrPins)
	fine(t, d.Flip("a", 300, 1))
	isRefused(t, p, "a", 1, api.ErrRot) // what is to be read comes ahead of the frame
	is(t, "Drop: pins, no file", p.Drop("z"), api.ErrNone)
	fine(t, d.Remove("a"))
	is(t, "Drop: pins, no file", p.Drop("a"), api.ErrPins)
	lose(t, d)
	is(t, "Drop: pins, no file, no power", p.Drop("a"), api.ErrPins)
	is(t, "Write: bytes, no power", p.Write("a", 0, tooMany), api.ErrMany)
	is(t, "Write: page, no power", p.Write("a", -1, nil), api.ErrDead)
}

func TestWhichCallsAreOperations(t *testing.T) { // P10.2 to P10.5: where the power goes
	d, p := laid(t, 2, 4)
	last := func(what string, want int, call func()) {
		t.Helper()
		fine(t, d.Arm(want+1))
		call()
		if d.Dead() {
			t.Fatalf("%s: the power went too early", what)
		}
		is(t, what, d.Sync("zz"), api.ErrDead)
		fine(t, d.On([]int{0, 1, 2, 3, 4, 5, 6, 7, 8, 9, 10, 11}))
	}
	last("what only tells", 0, func() {
		p.Disk()
		p.Frames()
		p.Pages("a")
		p.Held()
		p.Peak()
		read(t, p, "a", 0, 1, 2, 3, 0)
		pin(t, p, "a", 1)
		unpin(t, p, "a", 1)
		newPool(t, d, 1)
	})
	last("Write into a frame", 0, func() { write(t, p, "a", 0, 1, 0) })
	last("Read that takes a dirty frame", 1, func() { read(t, p, "a", 2) })
	last("Flush of one dirty frame", 2, func() { fine(t, p.Flush("a")) })
	last("Flush of none", 1, func() { fine(t, p.Flush("a")) })
	write(t, p, "a", 0, 1)
	last("Flush of two", 3, func() { fine(t, p.Flush("a")) })
	last("Create", 1, func() { fine(t, p.Create("b")) })
	last("Create of what is there", 1, func() { is(t, "Create", p.Create("b"), api.ErrThere) })
	last("Drop", 1, func() { fine(t, p.Drop("b")) })
	last("Drop of what is not there", 1, func() { is(t, "Drop", p.Drop("b"), api.ErrNone) })
	pin(t, p, "a", 0, 1)
	last("what is refused ahead of the disk", 0, func() {
		is(t, "Drop", p.Drop("a"), api.ErrPins)
		is(t, "Write", p.Write("a", 9, nil), api.ErrArg)
		is(t, "Write", p.Write("a", 2, nil), api.ErrPins)
		is(t, "Flush", p.Flush("b"), api.ErrNone)
		isRefused(t, p, "a", 2, api.ErrPins)
	})
}

// P10.1.

func TestNew(t *testing.T) { // P10.1
	d := newDisk(t, 100)
	lay(t, d, "a", 3)
	for _, n := range []int{1, 2, 3, 7, 8, 9, 100, mostFrames - 1, mostFrames} {
		p := newPool(t, d, n)
		if p.Disk() != d || p.Frames() != n {
			t.Errorf("New of %d: Disk %v, Frames %d", n, p.Disk(), p.Frames())
		}
		isHeld(t, p, 0, 0, 0)
		isPeak(t, p, 0, 0)
		holds(t, p)
	}
}

func TestNewOfWhatIsRefused(t *testing.T) { // P10.1
	d := newDisk(t, 100)
	fine(t, d.Arm(1))
	for _, n := range []int{0, -1, -8, math.MinInt, math.MinInt32, mostFrames + 1, mostFrames + 2, 2 * mostFrames, 1 << 32, 1<<32 + 1, math.MaxInt} {
		if p, e := pool.New(d, n); p != nil || e != api.ErrArg {
			t.Errorf("New of %d: %v, %d", n, p, e)
		}
	}
	lose(t, d)
	if p, e := pool.New(d, 0); p != nil || e != api.ErrArg {
		t.Errorf("New without power: %v, %d", p, e)
	}
	newPool(t, d, 1) // the disk is not asked
}

func TestThereAreSoManyFrames(t *testing.T) { // P10.1, P10.6
	for _, n := range []int{1, 2, 3, 8, 63, mostFrames} {
		_, p := laid(t, n, n+1)
		pin(t, p, "a", upTo(n)...)
		isHeld(t, p, n, n, 0)
		isPeak(t, p, n, n)
		isRefused(t, p, "a", n, api.ErrPins)
		read(t, p, "a", upTo(n)...)
	}
}

// P10.2.

func TestCreate(t *testing.T) { // P10.2
	d := newDisk(t, 0)
	p := newPool(t, d, 1)
	names := []string{"-", ".", "0", "a", "b.1", strings.Repeat("z", 24)}
	for _, name := range names {
		fine(t, p.Create(name))
		isPages(t, p, name, 0)
		isRefused(t, p, name, 0, api.ErrNone)
		is(t, "Create", p.Create(name), api.ErrThere)
	}
	isHeld(t, p, 0, 0, 0)
	again(t, d)
	if got := d.Names(); !slices.Equal(got, names) || d.Used() != 0 {
		t.Errorf("files: %q", got)
	}
}

func TestWrongNames(t *testing.T) { // P10.2 to P10.5: whatever else is asked
	_, p := laid(t, 2, 2)
	pin(t, p, "a", 0)
	isUnchanged(t, p, "a wrong name", func() {
		for _, name := range wrongNames() {
			is(t, "Create", p.Create(name), api.ErrArg)
			is(t, "Drop", p.Drop(name), api.ErrArg)
			is(t, "Flush", p.Flush(name), api.ErrArg)
			isNone(t, p, name, api.ErrArg)
			for _, k := range []int{math.MinInt, -1, 0, 1, math.MaxInt} {
				isRefused(t, p, name, k, api.ErrArg)
				is(t, "Write", p.Write(name, k, rows(9, 9)), api.ErrArg)
				is(t, "Unpin", p.Unpin(name, k), api.ErrNone)
			}
		}
	})
	holds(t, p, at("a", 0))
}

func TestFilesThatAreNotThere(t *testing.T) { // P10.2 to P10.5
	_, p := laid(t, 2, 2)
	pin(t, p, "a", 0)
	isUnchanged(t, p, "no file", func() {
		for _, name := range []string{"b", "aa", "a.", strings.Repeat("a", 24)} {
			is(t, "Drop", p.Drop(name), api.ErrNone)
			is(t, "Flush", p.Flush(name), api.ErrNone)
			isNone(t, p, name, api.ErrNone)
			for _, k := range []int{math.MinInt, -1, 0, 1, math.MaxInt} {
				isRefused(t, p, name, k, api.ErrNone)
				is(t, "Write", p.Write(name, k, rows(9, 9)), api.ErrNone)
				is(t, "Unpin", p.Unpin(name, k), api.ErrNone)
			}
		}
	})
	holds(t, p, at("a", 0))
}

func TestPagesOf(t *testing.T) { // Words, P10.2: those of the disk, and those of dirty frames behind them
	d, p := laid(t, 5, 2)
	isPages(t, p, "a", 2)
	for k := 2; k < 5; k++ {
		write(t, p, "a", k)
		isPages(t, p, "a", k+1)
	}
	write(t, p, "a", 0, 3)
	isPages(t, p, "a", 5)
	fine(t, p.Create("b"))
	isPages(t, p, "b", 0)
	lies(t, d, "a", textsOf("a", 2)...)
	fine(t, p.Flush("a"))
	isPages(t, p, "a", 5)
	lies(t, d, "a", textsOf("a", 5)...)
	for k := 5; k < 40; k++ { // some of them on the disk, some not
		write(t, p, "a", k)
		isPages(t, p, "a", k+1)
	}
	fine(t, p.Drop("a"))
	isNone(t, p, "a", api.ErrNone)
	fine(t, p.Create("a"))
	isPages(t, p, "a", 0)
}

func TestDropOfAPinnedPage(t *testing.T) { // P10.2: nothing is done, whichever page it is
	for k := range 3 {
		d, p := laid(t, 4, 3)
		read(t, p, "a", 0, 1, 2)
		write(t, p, "a", 3)
		pin(t, p, "a", k, k)
		for range 2 {
			isUnchanged(t, p, "Drop", func() { is(t, "Drop", p.Drop("a"), api.ErrPins) })
			isPages(t, p, "a", 4)
			unpin(t, p, "a", k)
		}
		lies(t, d, "a", textsOf("a", 3)...)
		fine(t, p.Drop("a"))
		isHeld(t, p, 0, 0, 0)
		isPeak(t, p, 4, 1)
		isNone(t, p, "a", api.ErrNone)
	}
}

func TestDropOfDirtyPages(t *testing.T) { // P10.2: they are not written, and come not again
	d, p := laid(t, 5, 2)
	lay(t, d, "b", 2)
	write(t, p, "a", 1, 2, 3)
	write(t, p, "b", 1)
	pin(t, p, "b", 0)
	fine(t, p.Drop("a"))
	isHeld(t, p, 2, 1, 1)
	isPeak(t, p, 5, 1)
	if got := d.Names(); !slices.Equal(got, []string{"b"}) {
		t.Errorf("files: %q", got)
	}
	fine(t, p.Create("a"))
	isPages(t, p, "a", 0)
	isRefused(t, p, "a", 1, api.ErrNone)
	fine(t, p.Flush("a"))
	lies(t, d, "a")
	is(t, "Unpin", p.Unpin("a", 1), api.ErrNone)
	write(t, p, "a", 0)
	isHeld(t, p, 3, 1, 2)
	holds(t, p, at("a", 0), at("b", 0), at("b", 1))
}

func TestDropLasts(t *testing.T) { // P10.2: it is disk.Remove's
	d, p := laid(t, 2, 2)
	read(t, p, "a", 0)
	fine(t, p.Drop("a"))
	again(t, d)
	if got := d.Names(); len(got) != 0 {
		t.Errorf("files: %q", got)
	}
}

func TestDropOfFilesThatNoFrameHolds(t *testing.T) { // P10.2
	d, p := laid(t, 2, 2)
	lay(t, d, "b", 2)
	pin(t, p, "a", 0, 1)
	fine(t, p.Drop("b"))
	is(t, "Drop", p.Drop("b"), api.ErrNone)
	isHeld(t, p, 2, 2, 0)
	holds(t, p, places("a", 0, 1)...)
}

// P10.3.

func TestReadOfPlaces(t *testing.T) { // P10.3: below 0, at the end and beyond
	for _, n := range []int{0, 1, 2, 5} {
		_, p := laid(t, 2, n)
		read(t, p, "a", upTo(n)...)
		pages := n + 2
		write(t, p, "a", n, n+1) // its end is where dirty frames end
		isUnchanged(t, p, "no page", func() {
			for _, k := range []int{-1, -2, math.MinInt32, math.MinInt64, math.MinInt64 + 1} {
				isRefused(t, p, "a", k, api.ErrArg)
				is(t, "Unpin", p.Unpin("a", k), api.ErrNone)
			}
			for _, k := range []int{pages, pages + 1, 1 << 16, 1<<32 + 1, 1 << 56, math.MaxInt - 1, math.MaxInt} {
				isRefused(t, p, "a", k, api.ErrNone)
				is(t, "Unpin", p.Unpin("a", k), api.ErrNone)
			}
		})
		read(t, p, "a", upTo(pages)...)
	}
}

func TestReadOfRot(t *testing.T) { // P10.3: pagefile's error; no frame is taken for it
	d, p := laid(t, 2, 4)
	read(t, p, "a", 0)
	fine(t, d.Flip("a", 3*pageSize+20, 4))
	isUnchanged(t, p, "a rotten page", func() { isRefused(t, p, "a", 3, api.ErrRot) })
	read(t, p, "a", 1)
	isUnchanged(t, p, "a rotten page", func() { isRefused(t, p, "a", 3, api.ErrRot) })
	holds(t, p, places("a", 0, 1)...)
	fine(t, d.Flip("a", 3*pageSize+20, 4))
	read(t, p, "a", 3)
}

func TestWhatAFrameHoldsIsNotReadAgain(t *testing.T) { // P10.3: whatever becomes of the disk's page
	d, p := laid(t, 2, 3)
	read(t, p, "a", 0)
	pin(t, p, "a", 1)
	fine(t, d.Flip("a", 20, 4), d.Flip("a", pageSize+20, 4))
	for range 3 {
		read(t, p, "a", 0, 1)
		pin(t, p, "a", 0, 1)
	}
	isHeld(t, p, 2, 2, 0)
	unpin(t, p, "a", 0, 0, 0)
	read(t, p, "a", 2)
	isRefused(t, p, "a", 0, api.ErrRot) // that went
	read(t, p, "a", 1)
}

func TestPinMoreThanOnce(t *testing.T) { // P10.3: and Unpin as often, and once more
	for _, often := range []int{1, 2, 3, 10, 300} {
		_, p := laid(t, 2, 4)
		for range often {
			pin(t, p, "a", 1)
			isHeld(t, p, 1, 1, 0)
			isPeak(t, p, 1, 1)
		}
		for left := often; left > 0; left-- {
			read(t, p, "a", 0, 2, 3) // all others go through one frame
			isHeld(t, p, 2, 1, 0)
			is(t, "Drop", p.Drop("a"), api.ErrPins)
			unpin(t, p, "a", 1)
		}
		isHeld(t, p, 2, 0, 0)
		is(t, "Unpin once more", p.Unpin("a", 1), api.ErrNone)
		isHeld(t, p, 2, 0, 0)
		isPeak(t, p, 2, 1)
		read(t, p, "a", 0, 2, 3)
		holds(t, p, places("a", 2, 3)...)
	}
}

func TestUnpinOfWhatIsNotPinned(t *testing.T) { // P10.3
	_, p := laid(t, 2, 4)
	is(t, "Unpin of a page that no frame holds", p.Unpin("a", 0), api.ErrNone)
	read(t, p, "a", 0)
	write(t, p, "a", 1)
	is(t, "Unpin of a page that was read", p.Unpin("a", 0), api.ErrNone)
	is(t, "Unpin of a page that was written", p.Unpin("a", 1), api.ErrNone)
	pin(t, p, "a", 2)
	is(t, "Unpin of a page that went", p.Unpin("a", 0), api.ErrNone)
	is(t, "Unpin of another one", p.Unpin("a", 1), api.ErrNone)
	is(t, "Unpin of another file's", p.Unpin("b", 2), api.ErrNone)
	isHeld(t, p, 2, 1, 1)
	unpin(t, p, "a", 2)
	is(t, "Unpin once more", p.Unpin("a", 2), api.ErrNone)
	isHeld(t, p, 2, 0, 1)
}

func TestUnpinAsksNoDisk(t *testing.T) { // P10.3: a frame alone says whether it is pinned
	d, p := laid(t, 3, 3)
	pin(t, p, "a", 0, 1, 2)
	fine(t, d.Write("a", 768, []byte{1}))
	isNone(t, p, "a", api.ErrRot)
	unpin(t, p, "a", 0)
	fine(t, d.Remove("a"))
	unpin(t, p, "a", 1)
	lose(t, d)
	unpin(t, p, "a", 2)
	isHeld(t, p, 3, 0, 0)
}

func TestPinnedPagesStay(t *testing.T) { // Words, P10.3: whatever goes through the other frames
	d, p := laid(t, 4, 40)
	pin(t, p, "a", 7, 9)
	write(t, p, "a", 9) // dirty ones too
	for range 3 {
		read(t, p, "a", upTo(40)...)
	}
	isHeld(t, p, 4, 2, 1)
	lies(t, d, "a", textsOf("a", 40)...)
	fine(t, d.Flip("a", 7*pageSize, 1), d.Flip("a", 9*pageSize, 1))
	read(t, p, "a", 7, 9)
	unpin(t, p, "a", 7, 9)
	read(t, p, "a", 0, 1, 2, 3)
	isRefused(t, p, "a", 7, api.ErrRot)
	read(t, p, "a", 9) // it was written back as it went
	isHeld(t, p, 4, 0, 0)
}

func TestAllFramesArePinned(t *testing.T) { // P10.3, P10.4: what needs no frame is answered still
	for n := 1; n <= 5; n++ {
		d, p := laid(t, n, n+2)
		lay(t, d, "b", 1)
		pin(t, p, "a", upTo(n)...)
		isUnchanged(t, p, "no frame", func() {
			for range 2 {
				isRefused(t, p, "a", n, api.ErrPins)
				isRefused(t, p, "b", 0, api.ErrPins)
				is(t, "Write", p.Write("a", n, nil), api.ErrPins)
				is(t, "Write", p.Write("a", n+2, nil), api.ErrPins)
				is(t, "Write", p.Write("b", 0, nil), api.ErrPins)
			}
		})
		lies(t, d, "b", textOf("b", 0))
		read(t, p, "a", upTo(n)...)
		fine(t, p.Write("a", n-1, []byte{7}))
		isRead(t, p, "a", n-1, []byte{7})
		isHeld(t, p, n, n, 1)
		fine(t, p.Flush("a"), p.Flush("b"), p.Create("c"), p.Drop("b"))
		isHeld(t, p, n, n, 0)
		unpin(t, p, "a", 0)
		read(t, p, "a", n, n+1, n, n+1)
		isHeld(t, p, n, n-1, 0)
		isPeak(t, p, n, n)
	}
}

// P10.4.

func TestWriteOfEverySize(t *testing.T) { // P10.4: 0, Room and Room + 1 among them
	d := newDisk(t, 2000)
	p := newPool(t, d, 3)
	fine(t, p.Create("a"))
	var texts [][]byte
	for n := range most + 1 {
		texts = append(texts, rows(n, byte(n+1)))
		fine(t, p.Write("a", n, texts[n]))
		isRead(t, p, "a", n, texts[n])
	}
	for _, n := range []int{most + 1, most + 2, pageSize, 1000, 1 << 16, 1<<16 + 1, 1 << 20} {
		isUnchanged(t, p, "too many bytes", func() {
			for _, k := range []int{math.MinInt, -1, 0, most, most + 1, most + 2, math.MaxInt} {
				is(t, "Write", p.Write("a", k, make([]byte, n)), api.ErrMany)
			}
		})
	}
	isRead(t, p, "a", 0, nil)
	fine(t, p.Write("a", 0, rows(most, 1)), p.Write("a", most, nil), p.Flush("a"))
	texts[0], texts[most] = rows(most, 1), nil
	for n, want := range texts {
		isRead(t, p, "a", n, want)
	}
	lies(t, d, "a", texts...)
}

func TestWriteOfPlaces(t *testing.T) { // P10.4: below 0, at the end and beyond
	for _, n := range []int{0, 1, 3} {
		d, p := laid(t, 4, n)
		read(t, p, "a", upTo(n)...)
		isUnchanged(t, p, "Write", func() {
			for _, k := range []int{-1, -2, math.MinInt, math.MinInt32, n + 1, n + 2, 1 << 16, 1<<32 + n, 1<<56 + n, math.MaxInt} {
				is(t, fmt.Sprint("Write of page ", k), p.Write("a", k, []byte{1}), api.ErrArg)
			}
		})
		write(t, p, "a", n)
		isHeld(t, p, n+1, 0, 1)
		is(t, "Write beyond", p.Write("a", n+2, nil), api.ErrArg)
		write(t, p, "a", n+1, n+2)
		is(t, "Write beyond", p.Write("a", n+4, nil), api.ErrArg)
		fine(t, p.Flush("a"))
		lies(t, d, "a", textsOf("a", n+3)...)
		is(t, "Write beyond", p.Write("a", n+4, nil), api.ErrArg)
	}
}

func TestWriteReadsNothing(t *testing.T) { // P10.4: of a page that is not intact neither
	d, p := laid(t, 2, 3)
	for k := range 3 {
		fine(t, d.Flip("a", k*pageSize+30, 2))
		isRefused(t, p, "a", k, api.ErrRot)
	}
	fine(t, p.Write("a", 1, []byte{5}))
	isHeld(t, p, 1, 0, 1)
	isRead(t, p, "a", 1, []byte{5})
	isRefused(t, p, "a", 0, api.ErrRot)
	write(t, p, "a", 0, 2)
	fine(t, p.Flush("a"))
	lies(t, d, "a", textOf("a", 0), []byte{5}, textOf("a", 2))
}

func TestWriteIsHeldTillItIsWrittenBack(t *testing.T) { // Words, P10.4
	d, p := laid(t, 3, 3)
	for i := range 5 {
		fine(t, p.Write("a", 1, []byte{byte(i)}), p.Write("a", 3, []byte{byte(i), 3}))
		isHeld(t, p, 2, 0, 2)
		isRead(t, p, "a", 1, []byte{byte(i)})
		isRead(t, p, "a", 3, []byte{byte(i), 3})
	}
	lies(t, d, "a", textsOf("a", 3)...)
	if l := d.Loose(); len(l) != 0 {
		t.Errorf("loose: %v", l)
	}
	read(t, p, "a", 0)
	isHeld(t, p, 3, 0, 2)
	read(t, p, "a", 2) // page 1 goes
	isHeld(t, p, 3, 0, 1)
	lies(t, d, "a", textOf("a", 0), []byte{4}, textOf("a", 2))
	isRead(t, p, "a", 1, []byte{4})
}

func TestWriteOfAPinnedPage(t *testing.T) { // P10.4: it is pinned as often as it was
	_, p := laid(t, 2, 4)
	pin(t, p, "a", 1, 1)
	fine(t, p.Write("a", 1, []byte{9}))
	isHeld(t, p, 1, 1, 1)
	if b, e := p.Pin("a", 1); !bytes.Equal(b, []byte{9}) || e != api.OK {
		t.Fatalf("Pin: % x, %d", b, e)
	}
	unpin(t, p, "a", 1, 1, 1)
	is(t, "Unpin", p.Unpin("a", 1), api.ErrNone)
	read(t, p, "a", 0, 2, 3)
	isRead(t, p, "a", 1, []byte{9})
}

func TestWriteOfANewPageIsNotPinned(t *testing.T) { // P10.4: though the page that went was so once
	_, p := laid(t, 1, 2)
	pin(t, p, "a", 0)
	unpin(t, p, "a", 0)
	write(t, p, "a", 1)
	isHeld(t, p, 1, 0, 1)
	is(t, "Unpin", p.Unpin("a", 1), api.ErrNone)
	read(t, p, "a", 0)
	isHeld(t, p, 1, 0, 0)
}

// Words: to write a frame back.

func TestLowerPagesGoAhead(t *testing.T) { // of one that the disk does not have yet: all that are missing, and no others
	for n := 2; n <= 6; n++ {
		for out := range n { // the page that goes
			d := newDisk(t, 1000)
			p := newPool(t, d, n)
			fine(t, p.Create("a"))
			write(t, p, "a", upTo(n)...)
			pin(t, p, "a", upTo(n)...)
			unpin(t, p, "a", out)
			write(t, p, "a", n)
			lies(t, d, "a", textsOf("a", out+1)...)
			isHeld(t, p, n, n-1, n-out) // those behind it are dirty still, and the new one
			isPages(t, p, "a", n+1)
			want := slices.Delete(upTo(n+1), out, out+1)
			read(t, p, "a", want...)
			unpin(t, p, "a", slices.Delete(upTo(n), out, out+1)...)
			fine(t, p.Flush("a"))
			lies(t, d, "a", textsOf("a", n+1)...)
			holds(t, p, places("a", want...)...)
		}
	}
}

func TestLowerPagesThatTheDiskHasStay(t *testing.T) { // they are dirty still, when a missing one goes
	d, p := laid(t, 4, 2)
	fine(t, p.Write("a", 0, []byte{10}), p.Write("a", 1, []byte{11}))
	write(t, p, "a", 2, 3)
	pin(t, p, "a", 2)
	for k := range 2 {
		if b, e := p.Pin("a", k); !bytes.Equal(b, []byte{byte(10 + k)}) || e != api.OK {
			t.Fatalf("Pin of %d: % x, %d", k, b, e)
		}
	}
	write(t, p, "a", 4) // page 3 goes, page 2 ahead of it
	lies(t, d, "a", textsOf("a", 4)...)
	isHeld(t, p, 4, 3, 3)
	fine(t, p.Flush("a"))
	lies(t, d, "a", []byte{10}, []byte{11}, textOf("a", 2), textOf("a", 3), textOf("a", 4))
}

func TestAPageThatTheDiskHasGoesAlone(t *testing.T) { // whatever is dirty ahead of it, or missing behind it
	d, p := laid(t, 4, 3)
	fine(t, p.Write("a", 0, []byte{10}), p.Write("a", 1, []byte{11}))
	pin(t, p, "a", 2)
	write(t, p, "a", 3)
	pin(t, p, "a", 3)
	if _, e := p.Pin("a", 0); e != api.OK {
		t.Fatalf("Pin: %d", e)
	}
	write(t, p, "a", 4) // page 1 goes
	lies(t, d, "a", textOf("a", 0), []byte{11}, textOf("a", 2))
	isHeld(t, p, 4, 3, 3)
	isPages(t, p, "a", 5)
}

func TestOtherFilesStayDirty(t *testing.T) { // when a page is written back
	d, p := laid(t, 4, 0)
	lay(t, d, "b", 2)
	fine(t, p.Create("aa"))
	write(t, p, "aa", 0)
	write(t, p, "a", 0, 1)
	write(t, p, "b", 0)
	pin(t, p, "aa", 0)
	pin(t, p, "a", 0)
	read(t, p, "b", 1) // page 1 of a goes
	lies(t, d, "a", textsOf("a", 2)...)
	lies(t, d, "aa")
	isHeld(t, p, 4, 2, 2)
	holds(t, p, at("a", 0), at("aa", 0), at("b", 0), at("b", 1))
}

// backward is a pool of n frames that hold the pages of a new file "a", none of which the disk has: the first page in the last frame.
func backward(t *testing.T, n int) (*disk.Disk, *pool.Pool) {
	t.Helper()
	d := newDisk(t, 1000)
	p := newPool(t, d, n)
	fine(t, p.Create("a"))
	for k := range n - 1 {
		lay(t, d, fmt.Sprint("z", k), 1)
		read(t, p, fmt.Sprint("z", k), 0)
	}
	for k := range n {
		write(t, p, "a", k)
		if k < n-1 {
			fine(t, p.Drop(fmt.Sprint("z", n-2-k)))
		}
	}
	isHeld(t, p, n, 0, n)
	return d, p
}

func TestPagesAreWrittenInTheirOrder(t *testing.T) { // wherever their frames are, when one goes and when the file is flushed
	for n := 2; n <= 6; n++ {
		d, p := backward(t, n)
		lay(t, d, "b", 1)
		read(t, p, "b", 0) // the last page goes, and all others ahead of it
		lies(t, d, "a", textsOf("a", n)...)
		isHeld(t, p, n, 0, 0)
		d, p = backward(t, n)
		fine(t, p.Flush("a"))
		lies(t, d, "a", textsOf("a", n)...)
		for fuse := 1; fuse <= n; fuse++ {
			d, p = backward(t, n)
			fine(t, d.Arm(fuse))
			is(t, "Flush", p.Flush("a"), api.ErrDead)
			isHeld(t, p, n, 0, n-fuse+1)
			fine(t, d.On(upTo(4*n)))
			lies(t, d, "a", textsOf("a", fuse-1)...)
		}
	}
}

// P10.5.

// isLoose holds the files that have loose sectors against what they must be.
func isLoose(t *testing.T, d *disk.Disk, want ...string) {
	t.Helper()
	var names []string
	for _, p := range d.Loose() {
		names = append(names, p.Name)
	}
	if got := slices.Compact(names); !slices.Equal(got, want) {
		t.Fatalf("loose: %q; want %q", got, want)
	}
}

func TestFlush(t *testing.T) { // P10.5: all of the file's dirty frames, none of other files'
	d, p := laid(t, 8, 3)
	lay(t, d, "b", 1)
	write(t, p, "b", 0, 1)
	fine(t, p.Write("a", 2, []byte{12}), p.Write("a", 0, []byte{10}))
	write(t, p, "a", 3, 4)
	read(t, p, "a", 1)
	pin(t, p, "a", 3, 1)
	isHeld(t, p, 7, 2, 6)
	fine(t, p.Flush("a"))
	isHeld(t, p, 7, 2, 2)
	want := [][]byte{{10}, textOf("a", 1), {12}, textOf("a", 3), textOf("a", 4)}
	lies(t, d, "a", want...)
	lies(t, d, "b", textOf("b", 0))
	isLoose(t, d)
	isPages(t, p, "a", 5)
	isPages(t, p, "b", 2)
	fine(t, p.Flush("b"))
	isHeld(t, p, 7, 2, 0)
	lies(t, d, "b", textsOf("b", 2)...)
	again(t, d)
	lies(t, d, "a", want...)
	lies(t, d, "b", textsOf("b", 2)...)
	for k, text := range want {
		isRead(t, p, "a", k, text)
	}
	unpin(t, p, "a", 3, 1)
}

func TestFlushOfEachSet(t *testing.T) { // P10.5: whichever pages are dirty
	for set := range 1 << 6 {
		d, p := laid(t, 6, 4)
		lay(t, d, "b", 3)
		want, n := textsOf("a", 4), 0
		for _, k := range setOf(set) {
			if k > len(want) {
				continue
			}
			b := []byte{byte(k), byte(set)}
			fine(t, p.Write("a", k, b))
			want = with(want, k, b)
			n++
		}
		isHeld(t, p, n, 0, n)
		lies(t, d, "a", textsOf("a", 4)...)
		fine(t, p.Flush("a"))
		isHeld(t, p, n, 0, 0)
		lies(t, d, "a", want...)
		isLoose(t, d)
		lies(t, d, "b", textsOf("b", 3)...)
	}
}

func TestFlushSyncsWhatWasWrittenBack(t *testing.T) { // P10.5: where nothing is dirty too
	d, p := laid(t, 1, 1)
	write(t, p, "a", 1)
	read(t, p, "a", 0)
	isHeld(t, p, 1, 0, 0)
	isLoose(t, d, "a")
	fine(t, p.Flush("a"))
	isLoose(t, d)
	again(t, d)
	lies(t, d, "a", textsOf("a", 2)...)
	fine(t, p.Flush("a"), p.Create("b"), p.Flush("b"))
	lies(t, d, "b")
	isHeld(t, p, 1, 0, 0)
}

func TestFlushLeavesPinsAndTheHand(t *testing.T) { // P10.5
	d, p := laid(t, 3, 4)
	read(t, p, "a", 0, 1, 2, 3) // page 0 went, the hand stands at page 1
	write(t, p, "a", 2)
	fine(t, p.Flush("a"), p.Flush("a"))
	lies(t, d, "a", textsOf("a", 4)...)
	read(t, p, "a", 0)
	holds(t, p, places("a", 0, 2, 3)...)
}

func TestFlushTwice(t *testing.T) { // P10.5: what was written anew in between
	d, p := laid(t, 2, 2)
	for i := range 5 {
		b := []byte{byte(i)}
		fine(t, p.Write("a", 1, b))
		isHeld(t, p, 1, 0, 1)
		fine(t, p.Flush("a"), p.Flush("a"))
		isHeld(t, p, 1, 0, 0)
		again(t, d)
		lies(t, d, "a", textOf("a", 0), b)
	}
}

// P10.6.

func TestHeldAndPeak(t *testing.T) { // P10.6: step by step
	_, p := laid(t, 4, 6)
	step := func(what string, resident, pinned, dirty, mostResident, mostPinned int) {
		t.Helper()
		x, y, z := p.Held()
		v, w := p.Peak()
		if x != resident || y != pinned || z != dirty || v != mostResident || w != mostPinned {
			t.Fatalf("%s: %d %d %d, %d %d", what, x, y, z, v, w)
		}
	}
	step("new", 0, 0, 0, 0, 0)
	read(t, p, "a", 0)
	step("read", 1, 0, 0, 1, 0)
	read(t, p, "a", 0)
	step("read again", 1, 0, 0, 1, 0)
	pin(t, p, "a", 0, 1)
	step("pinned", 2, 2, 0, 2, 2)
	pin(t, p, "a", 0, 1)
	step("pinned twice", 2, 2, 0, 2, 2)
	unpin(t, p, "a", 0)
	step("unpinned once", 2, 2, 0, 2, 2)
	unpin(t, p, "a", 0, 1)
	step("unpinned, but one", 2, 1, 0, 2, 2)
	write(t, p, "a", 6, 6, 0)
	step("written", 3, 1, 2, 3, 2)
	pin(t, p, "a", 2)
	step("full", 4, 2, 2, 4, 2)
	read(t, p, "a", 3)
	step("one went", 4, 2, 1, 4, 2)
	unpin(t, p, "a", 1, 2)
	step("none pinned", 4, 0, 1, 4, 2)
	fine(t, p.Create("b"), p.Write("b", 0, nil))
	step("another file", 4, 0, 1, 4, 2) // page 6 went
	fine(t, p.Flush("a"))
	step("flushed", 4, 0, 1, 4, 2)
	fine(t, p.Drop("a"))
	step("dropped", 1, 0, 1, 4, 2)
	fine(t, p.Flush("b"), p.Drop("b"))
	step("nothing left", 0, 0, 0, 4, 2)
}

func TestPeakIsOfOneTime(t *testing.T) { // P10.6: not of all that ever were
	_, p := laid(t, 3, 9)
	for k := range 9 {
		pin(t, p, "a", k)
		unpin(t, p, "a", k)
	}
	isPeak(t, p, 3, 1)
	pin(t, p, "a", 0, 1, 2)
	unpin(t, p, "a", 0, 1, 2)
	fine(t, p.Drop("a"), p.Create("a"), p.Write("a", 0, nil))
	isHeld(t, p, 1, 0, 1)
	isPeak(t, p, 3, 3)
}

// What is done to a file beneath.

func TestRemovedBeneath(t *testing.T) { // P10.2 to P10.5
	d, p := laid(t, 3, 2)
	lay(t, d, "b", 3)
	read(t, p, "a", 0)
	pin(t, p, "a", 1)
	write(t, p, "a", 2)
	fine(t, d.Remove("a"))
	isUnchanged(t, p, "no file", func() {
		isNone(t, p, "a", api.ErrNone)
		for k := -1; k < 4; k++ {
			isRefused(t, p, "a", k, api.ErrNone)
			is(t, "Write", p.Write("a", k, nil), api.ErrNone)
		}
		is(t, "Flush", p.Flush("a"), api.ErrNone)
		is(t, "Drop", p.Drop("a"), api.ErrPins)
	})
	read(t, p, "b", 0) // page 0 goes, the hand stands at page 1, and behind it page 2 is dirty
	isUnchanged(t, p, "a write back without the file", func() {
		isRefused(t, p, "b", 1, api.ErrNone)
		is(t, "Write", p.Write("b", 1, nil), api.ErrNone)
	})
	read(t, p, "b", 0)
	unpin(t, p, "a", 1)
	is(t, "Drop", p.Drop("a"), api.ErrNone)
	isHeld(t, p, 1, 0, 0)
	read(t, p, "b", 1, 2)
	holds(t, p, places("b", 0, 1, 2)...)
}

func TestRemovedAndMadeAgainBeneath(t *testing.T) { // Words: a frame holds the page of that name still
	d, p := laid(t, 4, 2)
	read(t, p, "a", 0)
	write(t, p, "a", 1)
	fine(t, d.Remove("a"), p.Create("a"))
	isHeld(t, p, 2, 0, 1)
	isPages(t, p, "a", 2)
	read(t, p, "a", 0, 1)
	is(t, "Flush of a page whose lower one is missing", p.Flush("a"), api.ErrArg)
	isHeld(t, p, 2, 0, 1)
	write(t, p, "a", 0)
	fine(t, p.Flush("a"))
	lies(t, d, "a", textsOf("a", 2)...)
}

func TestRenamedBeneath(t *testing.T) { // P10.2 to P10.5: the name alone says which file it is
	d, p := laid(t, 4, 2)
	lay(t, d, "b", 3)
	read(t, p, "a", 0)
	write(t, p, "a", 1)
	fine(t, d.Rename("b", "a"))
	isPages(t, p, "a", 3)
	read(t, p, "a", 0, 1)
	isRefused(t, p, "a", 2, api.ErrRot) // it is a page of another name
	isNone(t, p, "b", api.ErrNone)
	write(t, p, "a", 0, 2)
	fine(t, p.Flush("a"))
	lies(t, d, "a", textsOf("a", 3)...)
}

func TestCutBeneath(t *testing.T) { // Words: clean frames are no pages behind the disk's, dirty ones are
	d, p := laid(t, 4, 3)
	read(t, p, "a", 0, 1, 2)
	fine(t, d.Cut("a", pageSize))
	isPages(t, p, "a", 1)
	isRefused(t, p, "a", 1, api.ErrNone)
	is(t, "Write", p.Write("a", 2, nil), api.ErrArg)
	isHeld(t, p, 3, 0, 0)
	fine(t, p.Write("a", 1, []byte{8})) // into the frame that holds it still
	isHeld(t, p, 3, 0, 1)
	isPages(t, p, "a", 2)
	isRead(t, p, "a", 1, []byte{8})
	isRefused(t, p, "a", 2, api.ErrNone)
	fine(t, p.Flush("a"))
	lies(t, d, "a", textOf("a", 0), []byte{8})
}

func TestCutBeneathDirtyPages(t *testing.T) { // Words: what dirty frames hold is there, as far as they go
	d, p := laid(t, 4, 2)
	write(t, p, "a", 2, 3)
	fine(t, d.Cut("a", pageSize))
	isPages(t, p, "a", 4)
	read(t, p, "a", 0, 2, 3)
	isRefused(t, p, "a", 1, api.ErrNone) // neither the disk has it nor a frame
	is(t, "Flush", p.Flush("a"), api.ErrArg)
	isHeld(t, p, 3, 0, 2)
	write(t, p, "a", 1)
	fine(t, p.Flush("a"))
	lies(t, d, "a", textsOf("a", 4)...)
}

func TestSizesBetween(t *testing.T) { // P10.2 to P10.5: pagefile.Open's error, of all that asks for the pages
	for _, size := range []int{1, 255, 257, 511, 513, 767} {
		d, p := laid(t, 4, 3)
		read(t, p, "a", 0)
		write(t, p, "a", 3)
		fine(t, d.Cut("a", size))
		isUnchanged(t, p, "a part of a page", func() {
			isNone(t, p, "a", api.ErrRot)
			for k := -1; k < 5; k++ {
				isRefused(t, p, "a", k, api.ErrRot)
				is(t, "Write", p.Write("a", k, nil), api.ErrRot)
			}
			is(t, "Flush", p.Flush("a"), api.ErrRot)
			is(t, "Create", p.Create("a"), api.ErrThere)
		})
		fine(t, p.Drop("a"))
		isHeld(t, p, 0, 0, 0)
	}
}

func TestWriteBackBehindASizeBetween(t *testing.T) { // Words: it is pagefile's Write, which counts whole pages
	d, p := laid(t, 1, 1)
	lay(t, d, "b", 1)
	write(t, p, "a", 1)
	fine(t, d.Write("a", pageSize, []byte{1, 2, 3}))
	isNone(t, p, "a", api.ErrRot)
	read(t, p, "b", 0)
	lies(t, d, "a", textsOf("a", 2)...)
	read(t, p, "a", 0, 1)
}

func TestWrittenBeneath(t *testing.T) { // P10.3: of what no frame holds the disk's is answered
	d, p := laid(t, 2, 2)
	read(t, p, "a", 0)
	other := fileOf("a", []byte{20}, []byte{21}, []byte{22})
	fine(t, d.Write("a", 0, other))
	isPages(t, p, "a", 3)
	read(t, p, "a", 0)
	isRead(t, p, "a", 1, []byte{21})
	isRead(t, p, "a", 2, []byte{22})
	isRead(t, p, "a", 0, []byte{20})
	fine(t, p.Flush("a"))
	lies(t, d, "a", []byte{20}, []byte{21}, []byte{22})
}

// R1, R3, R5.

func TestWhatIsHandedInIsNotKept(t *testing.T) { // R3: nor changed, the room behind its end neither
	d, p := laid(t, 2, 1)
	for _, n := range []int{0, 1, 100, most} {
		whole := rows(most+20, 7)
		b := whole[:n]
		fine(t, p.Write("a", 1, b))
		for i := range whole {
			whole[i] ^= 0xff
		}
		isRead(t, p, "a", 1, rows(most+20, 7)[:n])
		fine(t, p.Flush("a"))
		lies(t, d, "a", textOf("a", 0), rows(most+20, 7)[:n])
		for i, c := range rows(most+20, 7) {
			if whole[i] != c^0xff {
				t.Fatalf("byte %d of what was handed in is turned", i)
			}
		}
	}
}

func TestWhatIsAnsweredIsNewMemory(t *testing.T) { // R3: whatever the caller does with it
	spoil := func(b []byte) {
		b = b[:cap(b)]
		for i := range b {
			b[i] ^= 0xff
		}
	}
	d, p := laid(t, 3, 2)
	write(t, p, "a", 2)
	for k := range 3 {
		for range 2 {
			b, e := p.Read("a", k)
			is(t, "Read", e, api.OK)
			c, e := p.Pin("a", k)
			is(t, "Pin", e, api.OK)
			spoil(b)
			if !bytes.Equal(c, textOf("a", k)) {
				t.Fatalf("two answers share memory: %q", c)
			}
			spoil(c)
			read(t, p, "a", k)
			pin(t, p, "a", k)
		}
	}
	fine(t, p.Flush("a"))
	lies(t, d, "a", textsOf("a", 3)...)
}

func TestNilAndEmptyBytes(t *testing.T) { // R3
	d, p := laid(t, 2, 0)
	fine(t, p.Write("a", 0, nil), p.Write("a", 1, []byte{}), p.Flush("a"))
	lies(t, d, "a", nil, nil)
	isRead(t, p, "a", 0, nil)
	isRead(t, p, "a", 1, nil)
}

func TestPoolsOfTwoDisks(t *testing.T) { // R5
	d, p := laid(t, 2, 2)
	e, q := laid(t, 3, 3)
	write(t, p, "a", 2)
	pin(t, q, "a", 0, 1, 2)
	isHeld(t, p, 1, 0, 1)
	isHeld(t, q, 3, 3, 0)
	fine(t, q.Flush("a"))
	isHeld(t, p, 1, 0, 1)
	is(t, "Unpin", p.Unpin("a", 0), api.ErrNone)
	lose(t, e)
	fine(t, p.Flush("a"))
	lies(t, d, "a", textsOf("a", 3)...)
}

func TestPoolsOfOneDisk(t *testing.T) { // R5: each has its own frames
	d, p := laid(t, 2, 2)
	q := newPool(t, d, 2)
	pin(t, p, "a", 0, 1)
	write(t, q, "a", 2)
	isPages(t, p, "a", 2)
	isPages(t, q, "a", 3)
	isHeld(t, p, 2, 2, 0)
	isHeld(t, q, 1, 0, 1)
	fine(t, q.Write("a", 0, []byte{9}), q.Flush("a"))
	isPages(t, p, "a", 3)
	read(t, p, "a", 0)
	isRead(t, q, "a", 0, []byte{9})
	is(t, "Drop", p.Drop("a"), api.ErrPins)
	fine(t, q.Drop("a"))
	isHeld(t, p, 2, 2, 0)
	isNone(t, p, "a", api.ErrNone)
}

func TestNoCallPanics(t *testing.T) { // R1
	numbers := []int{math.MinInt, math.MinInt / 256, math.MinInt32, -256, -1, 0, 1, 2, 3, 255, 256, 1 << 16, 1<<31 - 1, 1 << 32, 1 << 55, 1 << 56, math.MaxInt / 256, math.MaxInt - 1, math.MaxInt}
	for n := 1; n < 4; n++ {
		d, p := laid(t, n, 2)
		for _, name := range append(wrongNames(), "a", "b") {
			for _, k := range numbers {
				for _, size := range []int{0, 1, most, most + 1} {
					p.Write(name, k, make([]byte, size))
				}
				p.Pin(name, k)
				p.Read(name, k)
				p.Unpin(name, k)
			}
			p.Flush(name)
			p.Pages(name)
			p.Create(name)
			p.Drop(name)
			p.Held()
			p.Peak()
		}
		lose(t, d)
		p.Drop("a")
		p.Write("a", 0, nil)
	}
}

func TestTheGreatestFile(t *testing.T) { // P10.4: a page that no file can have is told when it is written back
	const pages = mostSize / pageSize
	d := newDisk(t, 1<<20)
	fine(t, d.Create("a"), d.Write("a", 0, make([]byte, mostSize)), d.Sync("a"))
	p := newPool(t, d, 3)
	isPages(t, p, "a", pages)
	write(t, p, "a", pages-1, pages)
	isPages(t, p, "a", pages+1)
	read(t, p, "a", pages-1, pages)
	is(t, "Flush", p.Flush("a"), api.ErrMany)
	isHeld(t, p, 2, 0, 1)
	read(t, p, "a", pages)
	fine(t, p.Drop("a"))
	isHeld(t, p, 0, 0, 0)
}
