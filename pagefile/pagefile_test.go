package pagefile_test

import (
	"bytes"
	"fmt"
	"math"
	"slices"
	"strings"
	"testing"

	"milepost/api"
	"milepost/disk"
	"milepost/page"
	"milepost/pagefile"
)

// newDisk is a disk of so many sectors, without files.
func newDisk(t *testing.T, quota int) *disk.Disk {
	t.Helper()
	d, e := disk.New(quota)
	if e != api.OK || d == nil {
		t.Fatalf("New of %d: %v, %d", quota, d, e)
	}
	return d
}

// rows are n bytes without a 0, none like the one ahead of it; they begin with c.
func rows(n int, c byte) []byte {
	b := make([]byte, n)
	for i := range b {
		b[i] = byte(1 + (int(c)-1+i*89)%255)
	}
	return b
}

// is holds an error against what it must be.
func is(t *testing.T, what string, got, want api.Errno) {
	t.Helper()
	if got != want {
		t.Fatalf("%s: %d; want %d", what, got, want)
	}
}

// fine are errors that must be none.
func fine(t *testing.T, l ...api.Errno) {
	t.Helper()
	for i, e := range l {
		if e != api.OK {
			t.Fatalf("call %d: %d", i, e)
		}
	}
}

// created is a new file.
func created(t *testing.T, d *disk.Disk, name string) *pagefile.File {
	t.Helper()
	f, e := pagefile.Create(d, name)
	if f == nil || e != api.OK {
		t.Fatalf("Create of %q: %v, %d", name, f, e)
	}
	return f
}

// opened is a file that is there.
func opened(t *testing.T, d *disk.Disk, name string) *pagefile.File {
	t.Helper()
	f, e := pagefile.Open(d, name)
	if f == nil || e != api.OK {
		t.Fatalf("Open of %q: %v, %d", name, f, e)
	}
	return f
}

// written is a new file with these pages.
func written(t *testing.T, d *disk.Disk, name string, texts ...[]byte) *pagefile.File {
	t.Helper()
	f := created(t, d, name)
	for k, b := range texts {
		fine(t, f.Write(k, b))
	}
	return f
}

// three are the texts of three pages: one that is not full, one that is, one that is a few bytes.
func three() [][]byte { return [][]byte{rows(100, 1), rows(most, 2), rows(5, 3)} }

// laid is a disk with a file "a" of three pages that last.
func laid(t *testing.T) (*disk.Disk, *pagefile.File) {
	t.Helper()
	d := newDisk(t, 1000)
	f := written(t, d, "a", three()...)
	fine(t, f.Sync())
	return d, f
}

// isPages holds how many pages there are against what it must be.
func isPages(t *testing.T, f *pagefile.File, want int) {
	t.Helper()
	if n, e := f.Pages(); n != want || e != api.OK {
		t.Fatalf("Pages: %d, %d; want %d", n, e, want)
	}
}

// isRead holds a page's bytes against what they must be.
func isRead(t *testing.T, f *pagefile.File, k int, want []byte) {
	t.Helper()
	if b, e := f.Read(k); !bytes.Equal(b, want) || e != api.OK {
		t.Fatalf("Read of page %d: % x, %d; want % x", k, b, e, want)
	}
}

// isRefused says that a page must not be read, and nothing be told of it.
func isRefused(t *testing.T, f *pagefile.File, k int, want api.Errno) {
	t.Helper()
	if b, e := f.Read(k); len(b) != 0 || e != want {
		t.Fatalf("Read of page %d: % x, %d; want %d", k, b, e, want)
	}
}

// isBad holds which pages are not intact against what they must be.
func isBad(t *testing.T, d *disk.Disk, name string, want ...int) {
	t.Helper()
	if l, e := pagefile.Bad(d, name); !slices.Equal(l, want) || e != api.OK {
		t.Fatalf("Bad of %q: %v, %d; want %v", name, l, e, want)
	}
}

// has holds all that a file of pages tells, and its bytes, against the texts that it must have.
func has(t *testing.T, d *disk.Disk, f *pagefile.File, texts ...[]byte) {
	t.Helper()
	isPages(t, f, len(texts))
	var all []byte
	for k, want := range texts {
		isRead(t, f, k, want)
		all = append(all, pageOf(f.Name(), k, want)...)
	}
	isRefused(t, f, len(texts), api.ErrNone)
	isBad(t, d, f.Name())
	if b, e := raw(d, f.Name()); !bytes.Equal(b, all) || e != api.OK {
		t.Fatalf("%s: %d bytes, %d; want %d", f.Name(), len(b), e, len(all))
	}
}

// isUnchanged says that a call must not change anything on the disk.
func isUnchanged(t *testing.T, d *disk.Disk, what string, call func()) {
	t.Helper()
	files, loose := d.Files(), d.Loose()
	call()
	if !sameFiles(d.Files(), files) || !slices.Equal(d.Loose(), loose) {
		t.Fatalf("%s changes what is on the disk", what)
	}
}

// lose lets the power go.
func lose(t *testing.T, d *disk.Disk) {
	t.Helper()
	fine(t, d.Arm(1))
	is(t, "Sync", d.Sync("a"), api.ErrDead)
}

// again lets the power go and come, with these loose sectors kept.
func again(t *testing.T, d *disk.Disk, keep ...int) {
	t.Helper()
	lose(t, d)
	fine(t, d.On(keep))
}

// setOf are the places of the bits that are set.
func setOf(bits int) []int {
	var l []int
	for i := range 32 {
		if bits>>i&1 == 1 {
			l = append(l, i)
		}
	}
	return l
}

// inRoom is b with room behind its end, and all of that memory.
func inRoom(b []byte, room int) (part, whole []byte) {
	whole = append(bytes.Clone(b), bytes.Repeat([]byte{0xee}, room)...)
	return whole[:len(b)], whole
}

// spoil turns all bits of b, its room too.
func spoil(b []byte) {
	b = b[:cap(b)]
	for i := range b {
		b[i] ^= 0xff
	}
}

func TestLimits(t *testing.T) { // Words
	if api.Page != pageSize || api.Room != most || api.Sector != sectorSize || api.MaxSize != mostSize {
		t.Error("package api has other limits than the chapters")
	}
}

func TestErrors(t *testing.T) { // Errors
	got := []api.Errno{api.OK, api.ErrArg, api.ErrNil, api.ErrNone, api.ErrThere, api.ErrFull, api.ErrDead, api.ErrRot}
	for i, e := range got {
		if int(e) != i {
			t.Errorf("error %d is %d", i, int(e))
		}
	}
	if int(api.ErrMany) != 9 {
		t.Errorf("ErrMany is %d", int(api.ErrMany))
	}
}

func TestExamples(t *testing.T) { // P8.1 to P8.4: the chapter's
	d := newDisk(t, 100)
	f := created(t, d, "a")
	fine(t, f.Write(0, []byte{1, 2}))
	isPages(t, f, 1)
	isRead(t, f, 0, []byte{1, 2})
	isRefused(t, f, 1, api.ErrNone)
	is(t, "Write", f.Write(2, nil), api.ErrArg)
	is(t, "Write", f.Write(1, make([]byte, 241)), api.ErrMany)
	fine(t, d.Flip("a", 12, 1))
	isRefused(t, f, 0, api.ErrRot)
	isBad(t, d, "a", 0)
	fine(t, d.Write("a", 256, []byte{0}))
	g, e := pagefile.Open(d, "a")
	if g != nil || e != api.ErrRot {
		t.Errorf("Open: %v, %d", g, e)
	}
}

// Errors.

func TestNoDisk(t *testing.T) { // Errors, R4: ahead of all else, whatever the name is
	for _, name := range []string{"a", "", "A", strings.Repeat("a", 25)} {
		if f, e := pagefile.Create(nil, name); f != nil || e != api.ErrNil {
			t.Errorf("Create of %q: %v, %d", name, f, e)
		}
		if f, e := pagefile.Open(nil, name); f != nil || e != api.ErrNil {
			t.Errorf("Open of %q: %v, %d", name, f, e)
		}
		if l, e := pagefile.Bad(nil, name); len(l) != 0 || e != api.ErrNil {
			t.Errorf("Bad of %q: %v, %d", name, l, e)
		}
	}
}

func TestNoFile(t *testing.T) { // Errors, R4: ahead of all else, whatever is asked
	var f *pagefile.File
	if name := f.Name(); name != "" {
		t.Errorf("Name: %q", name)
	}
	if n, e := f.Pages(); n != 0 || e != api.ErrNil {
		t.Errorf("Pages: %d, %d", n, e)
	}
	is(t, "Sync", f.Sync(), api.ErrNil)
	for _, k := range []int{math.MinInt, -1, 0, 1, math.MaxInt} {
		isRefused(t, f, k, api.ErrNil)
		for _, n := range []int{0, 1, 240, 241} {
			is(t, "Write", f.Write(k, rows(n, 1)), api.ErrNil)
		}
	}
}

func TestWithoutPower(t *testing.T) { // Errors: those of the disk
	d, f := laid(t)
	lose(t, d)
	for _, name := range []string{"a", "b", "", "A"} {
		if f, e := pagefile.Create(d, name); f != nil || e != api.ErrDead {
			t.Errorf("Create of %q: %v, %d", name, f, e)
		}
		if f, e := pagefile.Open(d, name); f != nil || e != api.ErrDead {
			t.Errorf("Open of %q: %v, %d", name, f, e)
		}
		if l, e := pagefile.Bad(d, name); len(l) != 0 || e != api.ErrDead {
			t.Errorf("Bad of %q: %v, %d", name, l, e)
		}
	}
	if name := f.Name(); name != "a" {
		t.Errorf("Name: %q", name)
	}
	if n, e := f.Pages(); n != 0 || e != api.ErrDead {
		t.Errorf("Pages: %d, %d", n, e)
	}
	for _, k := range []int{0, 2, 3, 4, math.MaxInt} {
		isRefused(t, f, k, api.ErrDead)
		is(t, "Write", f.Write(k, nil), api.ErrDead)
		is(t, "Write", f.Write(k, rows(241, 1)), api.ErrMany)
	}
	is(t, "Sync", f.Sync(), api.ErrDead)
	isRefused(t, f, -1, api.ErrArg)
	is(t, "Write", f.Write(-1, rows(241, 1)), api.ErrArg)
	fine(t, d.On(nil))
	has(t, d, f, three()...) // the file that was opened ahead of the loss is one still
}

func TestWhichCallsAreOperations(t *testing.T) { // P8.1 to P8.4: one of the disk's for Create, Write and Sync, none for all else
	d, f := laid(t)
	fine(t, d.Arm(4))
	for range 5 { // nor where a call is refused ahead of the disk
		opened(t, d, "a")
		has(t, d, f, three()...)
		isRefused(t, f, -1, api.ErrArg)
		is(t, "Write", f.Write(-1, nil), api.ErrArg)
		is(t, "Write", f.Write(0, rows(241, 1)), api.ErrMany)
		is(t, "Write", f.Write(4, nil), api.ErrArg)
	}
	g := created(t, d, "b")
	fine(t, g.Write(0, []byte{1}), g.Sync())
	is(t, "Write", g.Write(0, []byte{2}), api.ErrDead)
	if !d.Dead() {
		t.Error("the power is on")
	}
	fine(t, d.On([]int{0, 1, 2, 3}))
	has(t, d, g, []byte{1})
	fine(t, d.Arm(1))
	h, e := pagefile.Create(d, "c")
	if h != nil || e != api.ErrDead {
		t.Errorf("Create: %v, %d", h, e)
	}
	fine(t, d.On(nil), d.Arm(1))
	is(t, "Sync", g.Sync(), api.ErrDead)
	fine(t, d.On(nil))
	if names := d.Names(); !slices.Equal(names, []string{"a", "b"}) {
		t.Errorf("files: %q", names)
	}
}

// P8.1.

func TestCreate(t *testing.T) { // P8.1
	d := newDisk(t, 100)
	names := []string{"a", "b.1", "-", ".", "0", "journal", strings.Repeat("z", 24)}
	for _, name := range names {
		f := created(t, d, name)
		if f.Name() != name {
			t.Errorf("Name: %q; want %q", f.Name(), name)
		}
		has(t, d, f)
		has(t, d, opened(t, d, name))
	}
	slices.Sort(names)
	if got := d.Names(); !slices.Equal(got, names) || d.Used() != 0 {
		t.Errorf("files: %q; %d sectors", got, d.Used())
	}
}

func TestCreateOfWhatIsRefused(t *testing.T) { // P8.1
	d, f := laid(t)
	for name, want := range map[string]api.Errno{"": api.ErrArg, "A": api.ErrArg, "a/b": api.ErrArg, "a b": api.ErrArg, "\x00": api.ErrArg, "\xff": api.ErrArg, strings.Repeat("a", 25): api.ErrArg, "a": api.ErrThere} {
		isUnchanged(t, d, "Create", func() {
			if f, e := pagefile.Create(d, name); f != nil || e != want {
				t.Errorf("Create of %q: %v, %d; want %d", name, f, e, want)
			}
		})
	}
	has(t, d, f, three()...)
}

func TestCreateOnAFullDisk(t *testing.T) { // P8.1: files without pages take no room
	d := newDisk(t, 0)
	f := created(t, d, "a")
	is(t, "Write", f.Write(0, nil), api.ErrFull)
	has(t, d, f)
}

func TestCreateLasts(t *testing.T) { // P8.1, P8.5
	d := newDisk(t, 100)
	created(t, d, "a")
	again(t, d)
	has(t, d, opened(t, d, "a"))
}

func TestOpenOfWhatIsRefused(t *testing.T) { // P8.1
	d, _ := laid(t)
	for name, want := range map[string]api.Errno{"b": api.ErrNone, "aa": api.ErrNone, "": api.ErrArg, "A": api.ErrArg, "a/b": api.ErrArg, strings.Repeat("a", 25): api.ErrArg, strings.Repeat("a", 24): api.ErrNone} {
		isUnchanged(t, d, "Open", func() {
			if f, e := pagefile.Open(d, name); f != nil || e != want {
				t.Errorf("Open of %q: %v, %d; want %d", name, f, e, want)
			}
			if l, e := pagefile.Bad(d, name); len(l) != 0 || e != want {
				t.Errorf("Bad of %q: %v, %d; want %d", name, l, e, want)
			}
		})
	}
}

func TestOpenOfSizes(t *testing.T) { // P8.1, P8.2, P8.4
	d := newDisk(t, 100)
	kept := created(t, d, "a")
	for size := range 3*pageSize + 2 {
		fine(t, d.Cut("a", 0), d.Write("a", 0, make([]byte, size)))
		f, e := pagefile.Open(d, "a")
		l, badErr := pagefile.Bad(d, "a")
		isPages(t, kept, size/pageSize)
		if size%pageSize != 0 {
			if f != nil || e != api.ErrRot || len(l) != 0 || badErr != api.ErrRot {
				t.Fatalf("%d bytes: Open %v, %d; Bad %v, %d", size, f, e, l, badErr)
			}
			continue
		}
		if f == nil || e != api.OK || len(l) != size/pageSize || badErr != api.OK { // a page of noughts is none
			t.Fatalf("%d bytes: Open %v, %d; Bad %v, %d", size, f, e, l, badErr)
		}
		isPages(t, f, size/pageSize)
	}
}

func TestOpenReadsWhatIsThere(t *testing.T) { // P8.1
	d, f := laid(t)
	g, h := opened(t, d, "a"), opened(t, d, "a")
	has(t, d, g, three()...)
	fine(t, h.Write(3, rows(7, 7)), g.Write(0, rows(9, 9)))
	now := [][]byte{rows(9, 9), rows(most, 2), rows(5, 3), rows(7, 7)}
	for _, f := range []*pagefile.File{f, g, h} {
		has(t, d, f, now...)
	}
}

func TestOpenOfRottenPages(t *testing.T) { // P8.1: the size alone is asked
	d, _ := laid(t)
	for k := range 3 {
		fine(t, d.Flip("a", k*pageSize, 1))
	}
	isPages(t, opened(t, d, "a"), 3)
	isBad(t, d, "a", 0, 1, 2)
}

// P8.2.

func TestPagesBehindTheFile(t *testing.T) { // P8.1, P8.2: what is done through the disk counts
	d, f := laid(t)
	fine(t, d.Write("a", 768, rows(255, 1)))
	isPages(t, f, 3)
	fine(t, d.Write("a", 768+255, rows(1, 1)))
	isPages(t, f, 4)
	isRefused(t, f, 3, api.ErrRot)
	fine(t, d.Write("a", 768, pageOf("a", 3, rows(9, 9))))
	has(t, d, f, append(three(), rows(9, 9))...)
	fine(t, d.Cut("a", 767))
	isPages(t, f, 2)
	isRefused(t, f, 2, api.ErrNone)
	fine(t, d.Cut("a", 512))
	has(t, d, f, three()[:2]...)
	fine(t, d.Cut("a", 255))
	isPages(t, f, 0)
	isRefused(t, f, 0, api.ErrNone)
	fine(t, d.Cut("a", 0))
	has(t, d, f)
}

func TestReadOfPlaces(t *testing.T) { // P8.2
	d, f := laid(t)
	for k, want := range three() {
		isRead(t, f, k, want)
	}
	for _, k := range []int{-1, -2, -256, math.MinInt32, math.MinInt64, math.MinInt64 + 1} {
		isRefused(t, f, k, api.ErrArg)
	}
	for _, k := range []int{3, 4, 255, 256, 768, mostPages, 1 << 24, 1 << 32, 1<<32 + 1, 1 << 56, 1<<56 + 2, math.MaxInt} {
		isRefused(t, f, k, api.ErrNone)
	}
	has(t, d, f, three()...)
	empty := created(t, d, "b")
	isRefused(t, empty, 0, api.ErrNone)
	isRefused(t, empty, -1, api.ErrArg)
}

func TestReadOfASizeBetween(t *testing.T) { // P8.2: a page that is not whole is none
	d, f := laid(t)
	for _, size := range []int{767, 700, 513} {
		fine(t, d.Cut("a", size))
		isRefused(t, f, 2, api.ErrNone)
		isRead(t, f, 1, rows(most, 2))
	}
}

func TestReadChangesNothing(t *testing.T) { // P8.2
	d, f := laid(t)
	fine(t, f.Write(1, rows(3, 3)), d.Flip("a", 600, 1))
	isUnchanged(t, d, "a call that only tells", func() {
		for k := -1; k < 5; k++ {
			f.Read(k)
		}
		f.Pages()
		f.Name()
		opened(t, d, "a")
		isBad(t, d, "a", 2)
	})
}

// P8.3.

func TestWriteOfEverySize(t *testing.T) { // P8.3
	d := newDisk(t, 2000)
	f := created(t, d, "a")
	var texts [][]byte
	for n := range most + 1 {
		b := rows(n, byte(n+1))
		fine(t, f.Write(n, b))
		isRead(t, f, n, b)
		texts = append(texts, b)
	}
	has(t, d, f, texts...)
	for _, b := range [][]byte{nil, {}, {0}, make([]byte, 100), make([]byte, most), append(rows(9, 9), 0, 0)} {
		fine(t, f.Write(7, b))
		texts[7] = b
		has(t, d, f, texts...)
	}
}

func TestWriteOfPlaces(t *testing.T) { // P8.3
	d, f := laid(t)
	isUnchanged(t, d, "Write of no page", func() {
		for _, k := range []int{-1, -2, -256, math.MinInt32, math.MinInt64, math.MinInt64 + 1, 4, 5, 256, mostPages, 1 << 24, 1 << 32, 1<<32 + 1, 1 << 56, 1<<56 + 3, math.MaxInt} {
			is(t, fmt.Sprint("Write of page ", k), f.Write(k, rows(9, 9)), api.ErrArg)
		}
	})
	texts := three()
	for _, k := range []int{0, 2, 1, 3, 4, 0, 4} { // the first, the last, the one behind it
		b := rows(10+k, 9)
		fine(t, f.Write(k, b))
		texts = append(texts[:k], append([][]byte{b}, texts[min(k+1, len(texts)):]...)...)
		has(t, d, f, texts...)
	}
}

func TestWriteOfTheFirstPage(t *testing.T) { // P8.3
	d := newDisk(t, 100)
	f := created(t, d, "a")
	is(t, "Write", f.Write(1, nil), api.ErrArg)
	is(t, "Write", f.Write(-1, nil), api.ErrArg)
	has(t, d, f)
	fine(t, f.Write(0, nil))
	has(t, d, f, nil)
}

func TestWriteOfTooMany(t *testing.T) { // P8.3
	d, f := laid(t)
	isUnchanged(t, d, "Write of too many bytes", func() {
		for _, n := range []int{241, 242, 252, 256, 480, 512, 1 << 16, 1<<16 + 1, 1<<16 + 240} {
			for _, k := range []int{0, 2, 3, 4, 1 << 32, math.MaxInt} {
				is(t, "Write", f.Write(k, rows(n, 1)), api.ErrMany)
			}
			is(t, "Write", f.Write(-1, rows(n, 1)), api.ErrArg)
		}
	})
}

func TestTheOrderOfRefusals(t *testing.T) { // R2: the first that the chapter names
	d, f := laid(t)
	fine(t, d.Quota(12))
	long := rows(241, 1)
	is(t, "below 0, too many bytes", f.Write(-1, long), api.ErrArg)
	is(t, "too many bytes, too far", f.Write(4, long), api.ErrMany)
	is(t, "too many bytes, no room", f.Write(3, long), api.ErrMany)
	is(t, "too far, no room", f.Write(4, nil), api.ErrArg)
	is(t, "no room", f.Write(3, nil), api.ErrFull)
	fine(t, d.Remove("a"))
	isRefused(t, f, -1, api.ErrArg)
	isRefused(t, f, 9, api.ErrNone)
	is(t, "below 0, no file", f.Write(-1, nil), api.ErrArg)
	is(t, "too many bytes, no file", f.Write(0, long), api.ErrMany)
	is(t, "too far, no file", f.Write(4, nil), api.ErrNone)
	lose(t, d)
	isRefused(t, f, -1, api.ErrArg)
	isRefused(t, f, 9, api.ErrDead)
	is(t, "below 0, no power", f.Write(-1, nil), api.ErrArg)
	is(t, "too many bytes, no power", f.Write(0, long), api.ErrMany)
	is(t, "too far, no power", f.Write(4, nil), api.ErrDead)
}

func TestWriteOnAFullDisk(t *testing.T) { // P8.3
	for quota := range 4 {
		d := newDisk(t, quota)
		f := created(t, d, "a")
		is(t, "Write", f.Write(0, nil), api.ErrFull)
		has(t, d, f)
	}
	for quota := 8; quota < 12; quota++ {
		d := newDisk(t, quota)
		f := written(t, d, "a", rows(1, 1), rows(2, 2))
		isUnchanged(t, d, "Write without room", func() { is(t, "Write", f.Write(2, nil), api.ErrFull) })
		fine(t, f.Write(1, rows(most, 3)), d.Quota(0), f.Write(0, rows(most, 4))) // no more sectors are used
		is(t, "Write", f.Write(2, nil), api.ErrFull)
		has(t, d, f, rows(most, 4), rows(most, 3))
		fine(t, d.Quota(12), f.Write(2, nil))
		has(t, d, f, rows(most, 4), rows(most, 3), nil)
	}
}

func TestWriteBehindASizeBetween(t *testing.T) { // P8.3: whole pages are counted
	for _, size := range []int{513, 700, 767} {
		d, f := laid(t)
		fine(t, d.Cut("a", size))
		is(t, "Write", f.Write(3, nil), api.ErrArg)
		fine(t, f.Write(1, rows(8, 8)))
		isPages(t, f, 2)
		fine(t, f.Write(2, rows(9, 9))) // over what is no page
		has(t, d, f, rows(100, 1), rows(8, 8), rows(9, 9))
	}
}

func TestTheGreatestFile(t *testing.T) { // P8.2, P8.3, P8.4: its last page, and the one behind it
	const last = mostPages - 1
	d := newDisk(t, 1<<20)
	f := created(t, d, "a")
	fine(t, d.Write("a", 0, make([]byte, mostSize)))
	isPages(t, f, mostPages)
	isRefused(t, f, last, api.ErrRot)
	isRefused(t, f, mostPages, api.ErrNone)
	fine(t, f.Write(last, rows(most, 1)), f.Write(0x1234, rows(9, 9)))
	isRead(t, f, last, rows(most, 1))
	is(t, "Write", f.Write(mostPages, nil), api.ErrMany)
	is(t, "Write", f.Write(mostPages+1, nil), api.ErrArg)
	l, e := pagefile.Bad(d, "a")
	if len(l) != mostPages-2 || e != api.OK || !slices.IsSorted(l) || slices.Contains(l, last) || slices.Contains(l, 0x1234) {
		t.Errorf("Bad: %d pages, %d", len(l), e)
	}
}

func TestWriteOverRot(t *testing.T) { // P8.3: what was there is not asked
	d, f := laid(t)
	fine(t, d.Flip("a", 300, 1))
	isRefused(t, f, 1, api.ErrRot)
	fine(t, f.Write(1, rows(4, 4)))
	has(t, d, f, rows(100, 1), rows(4, 4), rows(5, 3))
}

func TestWriteIsLooseTillSync(t *testing.T) { // P8.3
	d, f := laid(t)
	fine(t, f.Write(1, nil))
	want := []api.Place{{Name: "a", Page: 4}, {Name: "a", Page: 5}, {Name: "a", Page: 6}, {Name: "a", Page: 7}}
	if got := d.Loose(); !slices.Equal(got, want) {
		t.Errorf("Loose: %v; want %v", got, want)
	}
	g := written(t, d, "b", nil)
	fine(t, f.Sync())
	if got := d.Loose(); len(got) != 4 || got[0].Name != "b" {
		t.Errorf("Loose behind Sync of the other one: %v", got)
	}
	fine(t, g.Sync())
	if got := d.Loose(); len(got) != 0 {
		t.Errorf("Loose behind Sync: %v", got)
	}
}

// What is done to a file beneath.

func TestRemovedBeneath(t *testing.T) { // P8.1, P8.2, P8.3
	d, f := laid(t)
	fine(t, d.Remove("a"))
	if name := f.Name(); name != "a" {
		t.Errorf("Name: %q", name)
	}
	if n, e := f.Pages(); n != 0 || e != api.ErrNone {
		t.Errorf("Pages: %d, %d", n, e)
	}
	isRefused(t, f, 0, api.ErrNone)
	isUnchanged(t, d, "Write of no file", func() {
		is(t, "Write", f.Write(0, nil), api.ErrNone)
		is(t, "Sync", f.Sync(), api.ErrNone)
	})
	if g, e := pagefile.Open(d, "a"); g != nil || e != api.ErrNone {
		t.Errorf("Open: %v, %d", g, e)
	}
	if l, e := pagefile.Bad(d, "a"); len(l) != 0 || e != api.ErrNone {
		t.Errorf("Bad: %v, %d", l, e)
	}
	g := created(t, d, "a")
	has(t, d, f)
	fine(t, g.Write(0, []byte{7}))
	has(t, d, f, []byte{7})
}

func TestRenamedBeneath(t *testing.T) { // Words, P8.2, P8.4: the tag is that of the name
	d, f := laid(t)
	fine(t, d.Rename("a", "b"))
	isRefused(t, f, 0, api.ErrNone)
	is(t, "Write", f.Write(0, nil), api.ErrNone)
	is(t, "Sync", f.Sync(), api.ErrNone)
	g := opened(t, d, "b")
	isPages(t, g, 3)
	for k := range 3 {
		isRefused(t, g, k, api.ErrRot)
	}
	isBad(t, d, "b", 0, 1, 2)
	fine(t, g.Write(1, rows(9, 9)))
	isBad(t, d, "b", 0, 2)
	fine(t, d.Rename("b", "a"))
	isRefused(t, f, 1, api.ErrRot)
	isRead(t, f, 0, rows(100, 1))
	isBad(t, d, "a", 1)
	written(t, d, "c", rows(1, 1), rows(2, 2))
	fine(t, d.Rename("c", "a")) // over it
	isPages(t, f, 2)
	isBad(t, d, "a", 0, 1)
}

func TestPagesMovedWithinAFile(t *testing.T) { // Words, P8.2, P8.4: the number is that of the place
	for from := range 3 {
		for to := range 4 {
			d, f := laid(t)
			p, _ := d.Read("a", from*pageSize, pageSize)
			fine(t, d.Write("a", to*pageSize, p))
			if from == to {
				has(t, d, f, three()...)
				continue
			}
			isRefused(t, f, to, api.ErrRot)
			isBad(t, d, "a", to)
			isRead(t, f, from, three()[from])
		}
	}
}

func TestPagesThatChangePlaces(t *testing.T) { // Words, P8.2, P8.4
	d, f := laid(t)
	p, _ := d.Read("a", 0, pageSize)
	q, _ := d.Read("a", 512, pageSize)
	fine(t, d.Write("a", 0, q), d.Write("a", 512, p))
	isBad(t, d, "a", 0, 2)
	isRead(t, f, 1, rows(most, 2))
	fine(t, d.Write("a", 0, p), d.Write("a", 512, q))
	has(t, d, f, three()...)
}

func TestPagesMovedToAnotherFile(t *testing.T) { // Words, P8.2, P8.4
	d, f := laid(t)
	g := written(t, d, "b", three()...)
	for k := range 3 {
		p, _ := d.Read("a", k*pageSize, pageSize)
		q, _ := d.Read("b", k*pageSize, pageSize)
		if bytes.Equal(p, q) {
			t.Fatalf("page %d is the same in both files", k)
		}
		fine(t, d.Write("b", k*pageSize, p))
		isRefused(t, g, k, api.ErrRot)
		isBad(t, d, "b", k)
		fine(t, d.Write("b", k*pageSize, q))
		has(t, d, g, three()...)
	}
	has(t, d, f, three()...)
	other := newDisk(t, 100) // of the same name, but on another disk
	h := written(t, other, "a")
	p, _ := d.Read("a", 0, pageSize)
	fine(t, other.Write("a", 0, p))
	has(t, other, h, rows(100, 1))
}

func TestPagesLikeTheWords(t *testing.T) { // Words, P8.2: an older page of the same place is one too
	d, f := laid(t)
	old, _ := d.Read("a", 256, pageSize)
	fine(t, f.Write(1, rows(8, 8)), d.Write("a", 256, old))
	has(t, d, f, three()...)
	made, _ := page.Make(page.Tag("a"), 3, rows(9, 9))
	fine(t, d.Write("a", 768, made))
	has(t, d, f, append(three(), rows(9, 9))...)
	for _, number := range []uint32{0, 2, 4, 3 | 1<<16, 3 << 8, math.MaxUint32} {
		made, _ = page.Make(page.Tag("a"), number, rows(9, 9))
		fine(t, d.Write("a", 768, made))
		isBad(t, d, "a", 3)
	}
}

func TestNumbersOfManyPages(t *testing.T) { // P8.2, P8.3: a number has more than one byte
	d := newDisk(t, 4000)
	f := created(t, d, "a")
	for k := range 600 {
		fine(t, f.Write(k, rows(3, byte(1+k%255))))
	}
	for _, k := range []int{0, 1, 255, 256, 257, 511, 512, 599} {
		isRead(t, f, k, rows(3, byte(1+k%255)))
		p, _ := d.Read("a", k*pageSize, pageSize)
		if !bytes.Equal(p, pageOf("a", k, rows(3, byte(1+k%255)))) {
			t.Errorf("page %d: % x", k, p)
		}
	}
	isBad(t, d, "a")
	p, _ := d.Read("a", 0, pageSize)
	fine(t, d.Write("a", 256*pageSize, p), d.Write("a", 512*pageSize, p))
	isBad(t, d, "a", 256, 512)
}

// P8.4.

func TestBadOfEachSet(t *testing.T) { // P8.4
	for set := range 32 {
		d := newDisk(t, 100)
		f := written(t, d, "a", nil, rows(1, 1), rows(most, 2), rows(9, 3), nil)
		fine(t, f.Sync())
		for _, k := range setOf(set) {
			fine(t, d.Flip("a", k*pageSize+k*50, 4))
		}
		isBad(t, d, "a", setOf(set)...)
		for k := range 5 {
			if _, e := f.Read(k); (e == api.ErrRot) != slices.Contains(setOf(set), k) {
				t.Errorf("%b: Read of page %d: %d", set, k, e)
			}
		}
	}
}

func TestBadOfManyPages(t *testing.T) { // P8.4: rising
	d := newDisk(t, 2000)
	f := created(t, d, "a")
	var want []int
	for k := range 300 {
		fine(t, f.Write(k, rows(k%241, 1)))
	}
	for k := range 300 {
		if k%7 == 3 || k > 290 {
			fine(t, d.Flip("a", k*pageSize+k%256, byte(1+k%255)))
			want = append(want, k)
		}
	}
	isBad(t, d, "a", want...)
}

func TestBadOfASizeBetween(t *testing.T) { // P8.4: nothing is told of the pages then
	d, _ := laid(t)
	fine(t, d.Flip("a", 0, 1), d.Cut("a", 767))
	if l, e := pagefile.Bad(d, "a"); len(l) != 0 || e != api.ErrRot {
		t.Errorf("Bad: %v, %d", l, e)
	}
	fine(t, d.Cut("a", 512))
	isBad(t, d, "a", 0)
	fine(t, d.Cut("a", 0))
	isBad(t, d, "a")
}

// P8.5.

// burst is what turns bits of width ones that stand one behind the other: the first and the last, and those between that pattern says.
func burst(width int, pattern uint32) uint32 {
	return uint32(1) | uint32(1)<<(width-1) | pattern&uint32(1<<width-1)
}

// flip turns the bits of a burst in the file "a", from bit at on.
func flip(t *testing.T, d *disk.Disk, at int, bits uint32) {
	t.Helper()
	var masks [5]byte
	for j := range 32 {
		if bits>>j&1 == 1 {
			masks[(at+j)/8-at/8] |= 1 << ((at + j) % 8)
		}
	}
	for i, mask := range masks {
		if mask != 0 {
			fine(t, d.Flip("a", at/8+i, mask))
		}
	}
}

// isTurned says that a burst in page k must be told of this page, and of no other one.
func isTurned(t *testing.T, d *disk.Disk, f *pagefile.File, k, bit int, bits uint32) {
	t.Helper()
	at := 8*pageSize*k + bit
	flip(t, d, at, bits)
	isBad(t, d, "a", k)
	isRefused(t, f, k, api.ErrRot)
	for other, want := range three() {
		if other != k {
			isRead(t, f, other, want)
		}
	}
	flip(t, d, at, bits)
}

func TestBurstsAtEveryPlace(t *testing.T) { // P8.5, its first sentence
	d, f := laid(t)
	for width := 1; width <= 32; width++ {
		for at := 0; at+width <= 8*pageSize; at++ {
			isTurned(t, d, f, 1, at, burst(width, uint32(at)*0x9e3779b9))
		}
	}
	has(t, d, f, three()...)
}

func TestBurstsInEveryPage(t *testing.T) { // P8.5, its first sentence: the first page and the last one too
	d, f := laid(t)
	for _, k := range []int{0, 2} {
		for at := range 8 * pageSize {
			width := min(1+at%32, 8*pageSize-at)
			isTurned(t, d, f, k, at, burst(width, 0))
			isTurned(t, d, f, k, at, burst(width, math.MaxUint32))
		}
	}
	has(t, d, f, three()...)
}

func TestBurstsAtThePagesEnds(t *testing.T) { // P8.5, its first sentence
	d, f := laid(t)
	for k := range 3 {
		for width := 1; width <= 32; width++ {
			for _, pattern := range []uint32{0, math.MaxUint32, 0x55555555, 0xaaaaaaaa, 0x9e3779b9} {
				for _, at := range []int{0, 8*sumAt - width, 8 * sumAt, 8*pageSize - width} {
					isTurned(t, d, f, k, at, burst(width, pattern))
				}
			}
		}
	}
	has(t, d, f, three()...)
}

func TestBurstsInSeveralPages(t *testing.T) { // P8.5: each page's own; two that touch are told of both
	d, f := laid(t)
	flip(t, d, 8*pageSize-16, math.MaxUint32)
	isBad(t, d, "a", 0, 1)
	isRead(t, f, 2, rows(5, 3))
	flip(t, d, 8*pageSize*2+77, 0x80000001)
	isBad(t, d, "a", 0, 1, 2)
	flip(t, d, 8*pageSize-16, math.MaxUint32)
	isBad(t, d, "a", 2)
}

func TestBurstsOutliveALossOfPower(t *testing.T) { // P8.5: they are turned in what lasts
	d, f := laid(t)
	flip(t, d, 8*300, 0x80000001)
	again(t, d)
	isBad(t, d, "a", 1)
	isRefused(t, f, 1, api.ErrRot)
	flip(t, d, 8*300, 0x80000001)
	has(t, d, f, three()...)
}

// lossOf is the file "a" behind a loss of power, as the words say it: of the sectors that were loose those of kept are as now.
func lossOf(lasted, now []byte, loose, kept []int) []byte {
	b := bytes.Clone(lasted)
	for _, i := range kept {
		if i >= len(loose) {
			continue
		}
		begin, end := loose[i]*sectorSize, min((loose[i]+1)*sectorSize, len(now))
		if end > len(b) {
			b = append(b, make([]byte, end-len(b))...)
		}
		copy(b[begin:end], now[begin:end])
	}
	return b
}

// isAfter holds a file of pages against the bytes that it must have.
func isAfter(t *testing.T, d *disk.Disk, f *pagefile.File, want []byte) {
	t.Helper()
	if b, e := raw(d, "a"); !bytes.Equal(b, want) || e != api.OK {
		t.Fatalf("%d bytes, %d; want %d others", len(b), e, len(want))
	}
	isPages(t, f, len(want)/pageSize)
	var bad []int
	for k := range len(want) / pageSize {
		if text, ok := textOf(want[k*pageSize:(k+1)*pageSize], "a", k); ok {
			isRead(t, f, k, text)
		} else {
			isRefused(t, f, k, api.ErrRot)
			bad = append(bad, k)
		}
	}
	isRefused(t, f, len(want)/pageSize, api.ErrNone)
	if len(want)%pageSize == 0 {
		isBad(t, d, "a", bad...)
	} else if l, e := pagefile.Bad(d, "a"); len(l) != 0 || e != api.ErrRot {
		t.Fatalf("Bad: %v, %d", l, e)
	}
}

func TestLossesAheadOfSync(t *testing.T) { // P8.5, its second sentence
	for keep := range 256 {
		d, f := laid(t)
		lasted, _ := raw(d, "a")
		fine(t, f.Write(1, rows(most, 9)), f.Write(3, rows(20, 8)))
		now, _ := raw(d, "a")
		again(t, d, setOf(keep)...)
		isAfter(t, d, f, lossOf(lasted, now, []int{4, 5, 6, 7, 12, 13, 14, 15}, setOf(keep)))
		isRead(t, f, 0, rows(100, 1)) // neither of them was written to
		isRead(t, f, 2, rows(5, 3))
		switch keep & 15 {
		case 0:
			isRead(t, f, 1, rows(most, 2))
		case 15:
			isRead(t, f, 1, rows(most, 9))
		default: // some of each, and both are full of other bytes
			isRefused(t, f, 1, api.ErrRot)
		}
		fine(t, f.Write(1, rows(1, 1)), f.Write(3, rows(2, 2)), f.Sync()) // it can be written again
		has(t, d, f, rows(100, 1), rows(1, 1), rows(5, 3), rows(2, 2))
	}
}

func TestLossesOfPagesThatWereNeverSynced(t *testing.T) { // P8.5, its second sentence: noughts, where nothing lasted
	for keep := range 256 {
		d := newDisk(t, 100)
		f := written(t, d, "a", rows(most, 1), rows(most, 2))
		now, _ := raw(d, "a")
		again(t, d, setOf(keep)...)
		isAfter(t, d, f, lossOf(nil, now, []int{0, 1, 2, 3, 4, 5, 6, 7}, setOf(keep)))
	}
}

func TestLossesBehindSync(t *testing.T) { // P8.5, its second sentence
	for keep := range 16 {
		d, f := laid(t)
		fine(t, f.Write(1, rows(most, 9)), f.Write(3, rows(20, 8)), f.Sync())
		again(t, d, setOf(keep)...)
		has(t, d, f, rows(100, 1), rows(most, 9), rows(5, 3), rows(20, 8))
		again(t, d, setOf(keep)...)
		has(t, d, opened(t, d, "a"), rows(100, 1), rows(most, 9), rows(5, 3), rows(20, 8))
	}
}

func TestLossesAtWriteAndSync(t *testing.T) { // P8.5: the operation at which the power goes does nothing
	for keep := range 16 {
		d, f := laid(t)
		lasted, _ := raw(d, "a")
		fine(t, d.Arm(1))
		is(t, "Write", f.Write(0, rows(9, 9)), api.ErrDead)
		fine(t, d.On(setOf(keep)))
		has(t, d, f, three()...)
		fine(t, d.Arm(2), f.Write(0, rows(9, 9)))
		now, _ := raw(d, "a")
		is(t, "Sync", f.Sync(), api.ErrDead)
		fine(t, d.On(setOf(keep)))
		isAfter(t, d, f, lossOf(lasted, now, []int{0, 1, 2, 3}, setOf(keep)))
		isRead(t, f, 1, rows(most, 2))
	}
}

func TestWrittenTwiceAheadOfALoss(t *testing.T) { // P8.5: as it was then, or as it was written last
	for keep := range 16 {
		d, f := laid(t)
		lasted, _ := raw(d, "a")
		fine(t, f.Write(1, rows(most, 7)), f.Write(1, rows(most, 9)))
		now, _ := raw(d, "a")
		again(t, d, setOf(keep)...)
		isAfter(t, d, f, lossOf(lasted, now, []int{4, 5, 6, 7}, setOf(keep)))
	}
}

func TestSyncOfOneFileAlone(t *testing.T) { // P8.3, P8.5
	d := newDisk(t, 100)
	f, g := written(t, d, "a", rows(9, 1)), written(t, d, "b", rows(9, 2))
	fine(t, g.Sync())
	again(t, d)
	has(t, d, f)
	has(t, d, g, rows(9, 2))
}

// R3, R5.

func TestWhatIsHandedInIsNotKept(t *testing.T) { // R3
	for _, n := range []int{0, 1, 100, 239, 240, 241, 300} {
		d, f := laid(t)
		texts := three()
		b, whole := inRoom(rows(n, 9), 300)
		was := bytes.Clone(whole)
		if e := f.Write(1, b); e == api.OK {
			texts[1] = rows(n, 9)
		}
		f.Write(-1, b)
		f.Write(9, b)
		if !bytes.Equal(whole, was) {
			t.Errorf("Write of %d bytes changes what it is handed, or the room behind it", n)
		}
		spoil(whole)
		has(t, d, f, texts...)
	}
}

func TestWhatIsAnsweredIsNewMemory(t *testing.T) { // R3
	d, f := laid(t)
	for k := range 3 {
		b, _ := f.Read(k)
		other, _ := f.Read(k)
		spoil(b)
		if !bytes.Equal(other, three()[k]) {
			t.Errorf("two answers of page %d share memory", k)
		}
	}
	has(t, d, f, three()...)
	b, _ := f.Read(1)
	fine(t, f.Write(1, rows(most, 9)), d.Flip("a", 300, 1))
	if !bytes.Equal(b, rows(most, 2)) {
		t.Error("what was answered is changed later")
	}
	fine(t, d.Flip("a", 0, 1))
	l, _ := pagefile.Bad(d, "a")
	other, _ := pagefile.Bad(d, "a")
	for i := range l {
		l[i] = 77
	}
	if !slices.Equal(other, []int{0, 1}) {
		t.Errorf("two lists share memory: %v", other)
	}
	isBad(t, d, "a", 0, 1)
}

func TestFilesSideBySide(t *testing.T) { // R5
	d, e := newDisk(t, 100), newDisk(t, 100)
	f, g, h := written(t, d, "a", rows(9, 1)), written(t, d, "b", rows(9, 2)), written(t, e, "a", rows(9, 3))
	fine(t, f.Write(1, rows(8, 1)), g.Write(0, rows(8, 2)), h.Write(0, rows(8, 3)), h.Sync(), d.Flip("b", 20, 1))
	again(t, e)
	has(t, d, f, rows(9, 1), rows(8, 1))
	isBad(t, d, "b", 0)
	has(t, e, h, rows(8, 3))
	lose(t, d)
	has(t, e, h, rows(8, 3))
}

func TestNoCallPanics(t *testing.T) { // R1
	numbers := []int{math.MinInt, math.MinInt32, -256, -1, 0, 1, 2, 255, mostPages, 1<<31 - 1, 1 << 31, 1 << 32, 1 << 55, 1 << 56, math.MaxInt}
	for size := range 600 {
		d := newDisk(t, 100)
		f := created(t, d, "a")
		fine(t, d.Write("a", 0, rows(size, 1)))
		pagefile.Open(d, "a")
		pagefile.Bad(d, "a")
		for _, k := range numbers {
			f.Read(k)
			f.Write(k, rows(size, 2))
		}
		f.Sync()
	}
}
