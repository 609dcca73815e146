package disk_test

import (
	"bytes"
	"math"
	"slices"
	"strings"
	"testing"

	"milepost/api"
	"milepost/disk"
)

// newDisk is a disk of so many sectors, without files.
func newDisk(t *testing.T, quota int) *disk.Disk {
	t.Helper()
	d, e := disk.New(quota)
	if e != api.OK || d == nil {
		t.Fatalf("New of %d: %v, %d", quota, d, e)
	}
	return d
}

// fill are n bytes, all of them c.
func fill(n int, c byte) []byte { return bytes.Repeat([]byte{c}, n) }

// joined are several texts, one behind the other.
func joined(l ...[]byte) []byte { return bytes.Join(l, nil) }

// at is the place of a sector.
func at(name string, k int) api.Place { return api.Place{Name: name, Page: k} }

// is holds an error against what it must be.
func is(t *testing.T, got, want api.Errno) {
	t.Helper()
	if got != want {
		t.Fatalf("%d; want %d", got, want)
	}
}

// fine are errors that must be none.
func fine(t *testing.T, l ...api.Errno) {
	t.Helper()
	for i, e := range l {
		if e != api.OK {
			t.Fatalf("call %d: %d", i, e)
		}
	}
}

// has holds what a file holds now against what it must be.
func has(t *testing.T, d *disk.Disk, name string, want []byte) {
	t.Helper()
	b, e := d.Read(name, 0, mostSize)
	if !bytes.Equal(b, want) || e != api.OK {
		t.Fatalf("%s: % x, %d; want % x", name, b, e, want)
	}
	if n, e := d.Size(name); n != len(want) || e != api.OK {
		t.Fatalf("Size of %s: %d, %d; want %d", name, n, e, len(want))
	}
}

// isLoose holds the loose sectors against what they must be.
func isLoose(t *testing.T, d *disk.Disk, want ...api.Place) {
	t.Helper()
	if got := d.Loose(); !slices.Equal(got, want) {
		t.Fatalf("Loose: %v; want %v", got, want)
	}
}

// isNamed holds the names of all files against what they must be.
func isNamed(t *testing.T, d *disk.Disk, want ...string) {
	t.Helper()
	if got := d.Names(); !slices.Equal(got, want) {
		t.Fatalf("Names: %q; want %q", got, want)
	}
}

// isUsed holds the sectors used against what they must be.
func isUsed(t *testing.T, d *disk.Disk, want int) {
	t.Helper()
	if got := d.Used(); got != want {
		t.Fatalf("Used: %d; want %d", got, want)
	}
}

// lose lets the power go.
func lose(t *testing.T, d *disk.Disk) {
	t.Helper()
	fine(t, d.Arm(1))
	is(t, d.Sync("a"), api.ErrDead)
	if !d.Dead() {
		t.Fatal("Dead: false")
	}
}

// again lets the power go and come, with these loose sectors kept.
func again(t *testing.T, d *disk.Disk, keep ...int) {
	t.Helper()
	lose(t, d)
	fine(t, d.On(keep))
	if d.Dead() {
		t.Fatal("Dead: true")
	}
	isLoose(t, d)
}

// laid is a disk with one file "a" that holds, and lasts, so much.
func laid(t *testing.T, b []byte) *disk.Disk {
	t.Helper()
	d := newDisk(t, 1000)
	fine(t, d.Create("a"), d.Write("a", 0, b), d.Sync("a"))
	return d
}

func TestLimits(t *testing.T) { // Words
	if api.Sector != sectorSize || api.MaxName != mostName || api.MaxSize != mostSize {
		t.Error("package api has other limits than the chapter")
	}
}

func TestExamples(t *testing.T) { // P6.1 to P6.7: the chapter's
	d := newDisk(t, 2)
	is(t, d.Create("a"), api.OK)
	is(t, d.Create("a"), api.ErrThere)
	is(t, d.Create("A"), api.ErrArg)
	fine(t, d.Write("a", 0, fill(100, 1)), d.Sync("a"), d.Write("a", 60, fill(8, 2)))
	isLoose(t, d, at("a", 0), at("a", 1))
	is(t, d.Write("a", 100, fill(29, 3)), api.ErrFull)
	fine(t, d.Arm(1))
	is(t, d.Sync("a"), api.ErrDead)
	_, e := d.Read("a", 0, 1)
	is(t, e, api.ErrDead)
	fine(t, d.On([]int{1}))
	b, e := d.Read("a", 58, 8)
	if string(b) != "\x01\x01\x01\x01\x01\x01\x02\x02" || e != api.OK {
		t.Errorf("Read: % x, %d", b, e)
	}
	fine(t, d.Rename("a", "b"), d.Flip("b", 0, 0x80))
	b, e = d.Read("b", 0, 2)
	if string(b) != "\x81\x01" || e != api.OK {
		t.Errorf("Read: % x, %d", b, e)
	}
	fine(t, d.Cut("b", 1))
	isUsed(t, d, 1)
}

// P6.1: New.

func TestNew(t *testing.T) { // P6.1
	for _, quota := range []int{0, 1, 2, 63, 64, 4096, mostQuota - 1, mostQuota} {
		newModel(quota).isLike(t, newDisk(t, quota)) // no files, with power
	}
	for _, quota := range []int{-1, -2, math.MinInt, mostQuota + 1, mostQuota + 2, 1 << 32, math.MaxInt} {
		if d, e := disk.New(quota); d != nil || e != api.ErrArg {
			t.Errorf("New of %d: %v, %d", quota, d, e)
		}
	}
}

func TestNewHasSoManySectors(t *testing.T) { // P6.1
	for _, quota := range []int{0, 1, 2, 5, 100} {
		d := newDisk(t, quota)
		fine(t, d.Create("a"), d.Write("a", 0, fill(quota*sectorSize, 1)))
		is(t, d.Write("a", quota*sectorSize, fill(1, 1)), api.ErrFull)
		isUsed(t, d, quota)
	}
}

func TestNewIsNotArmed(t *testing.T) { // P6.1
	d := newDisk(t, 1)
	fine(t, d.Create("a"))
	for range 1000 {
		fine(t, d.Sync("a"))
	}
	is(t, d.On(nil), api.ErrState)
}

// What may not be: no disk, no power, no name, no file.

func TestNoDisk(t *testing.T) { // R4: ahead of all else
	var d *disk.Disk
	for _, name := range []string{"a", "", "A"} {
		for _, n := range []int{-1, 0, 1, math.MinInt, math.MaxInt} {
			for i, e := range []api.Errno{
				d.Create(name), d.Remove(name), d.Rename(name, name), d.Write(name, n, []byte{1}), d.Write(name, n, nil), d.Cut(name, n), d.Sync(name),
				d.Quota(n), d.Arm(n), d.On(nil), d.On([]int{n}), d.Flip(name, n, 1), d.Flip(name, n, 0),
			} {
				if e != api.ErrNil {
					t.Errorf("call %d of no disk: %d", i, e)
				}
			}
			if b, e := d.Read(name, n, n); len(b) != 0 || e != api.ErrNil {
				t.Errorf("Read of no disk: % x, %d", b, e)
			}
			if n, e := d.Size(name); n != 0 || e != api.ErrNil {
				t.Errorf("Size of no disk: %d, %d", n, e)
			}
		}
	}
	if len(d.Names()) != 0 || len(d.Files()) != 0 || len(d.Loose()) != 0 || d.Used() != 0 || d.Dead() {
		t.Error("no disk has something")
	}
}

// call is what is asked of a disk and a name.
type call = func(d *disk.Disk, name string) api.Errno

// called are the ways to call what names a file, with what else it is handed being right, or not.
type called struct {
	what   string
	right  call
	wrong  []call // ErrArg ahead of ErrNone
	behind []call // ErrArg behind ErrNone, of a file of no bytes
}

// calls are all calls that name a file but Create, which asks that it is none.
func calls(t *testing.T) []called {
	write := func(off, n int) call {
		b := make([]byte, n)
		return func(d *disk.Disk, name string) api.Errno { return d.Write(name, off, b) }
	}
	cut := func(size int) call {
		return func(d *disk.Disk, name string) api.Errno { return d.Cut(name, size) }
	}
	flip := func(at int, mask byte) call {
		return func(d *disk.Disk, name string) api.Errno { return d.Flip(name, at, mask) }
	}
	read := func(off, n int) call {
		return func(d *disk.Disk, name string) api.Errno {
			b, e := d.Read(name, off, n)
			if e != api.OK && len(b) != 0 {
				t.Errorf("Read of %q: % x beside %d", name, b, e)
			}
			return e
		}
	}
	size := func(d *disk.Disk, name string) api.Errno {
		n, e := d.Size(name)
		if e != api.OK && n != 0 {
			t.Errorf("Size of %q: %d beside %d", name, n, e)
		}
		return e
	}
	least, most := math.MinInt, math.MaxInt
	return []called{
		{what: "Remove", right: (*disk.Disk).Remove},
		{what: "Rename", right: func(d *disk.Disk, name string) api.Errno { return d.Rename(name, "z") },
			wrong: []call{func(d *disk.Disk, name string) api.Errno { return d.Rename(name, "") }, func(d *disk.Disk, name string) api.Errno { return d.Rename(name, "Z") }}},
		{what: "Write", right: write(0, 1), wrong: []call{write(-1, 1), write(-1, 0), write(least, 1), write(-1, mostSize+9)},
			behind: []call{write(1, 1), write(1, 0), write(most, 1), write(most, 0), write(mostSize, 1), write(1, mostSize)}},
		{what: "Cut", right: cut(0), wrong: []call{cut(-1), cut(least)}, behind: []call{cut(1), cut(most)}},
		{what: "Sync", right: (*disk.Disk).Sync},
		{what: "Read", right: read(0, 1), wrong: []call{read(-1, 1), read(0, -1), read(-1, -1), read(least, least), read(most, -1), read(-1, most)}},
		{what: "Size", right: size},
		{what: "Flip", wrong: []call{flip(0, 0), flip(-1, 1), flip(-1, 0), flip(least, 1), flip(most, 0)}, behind: []call{flip(0, 1), flip(1, 255), flip(most, 1)}},
	}
}

// rightAndWrong are all ways to call.
func (c called) rightAndWrong() []call {
	l := append(slices.Clone(c.wrong), c.behind...)
	if c.right != nil {
		l = append(l, c.right)
	}
	return l
}

// wrongNames are texts that are no names.
func wrongNames() []string {
	l := []string{"", strings.Repeat("a", mostName+1), strings.Repeat("-", 1000), "aé", "日本", "a b", "a/b", "a\x00", "\xff", "A", "aB", "Ba", "a_b", strings.Repeat("z", mostName-1) + "Z"}
	for c := range 256 {
		if x := string([]byte{byte(c)}); !strings.Contains("abcdefghijklmnopqrstuvwxyz0123456789.-", x) {
			l = append(l, x, "a"+x, x+"a", "a"+x+"a", strings.Repeat("a", mostName-1)+x)
		}
	}
	return l
}

// rightNames are names of all kinds.
func rightNames() []string {
	l := []string{strings.Repeat("a", mostName-1), strings.Repeat("-", mostName), "abcdefghijklmnopqrstuvwx", "yz0123456789.-", ".", "..", "-", "--", "0", "u.1"}
	for _, c := range "abcdefghijklmnopqrstuvwxyz0123456789.-" {
		l = append(l, string(c)+"x", "xx"+string(c), strings.Repeat(string(c), mostName))
	}
	slices.Sort(l)
	return slices.Compact(l)
}

func TestWrongNames(t *testing.T) { // Words: ErrArg ahead of all else, and nothing is done
	d := newDisk(t, 100)
	fine(t, d.Create("a"), d.Write("a", 0, fill(70, 7)))
	all := calls(t)
	for _, name := range wrongNames() {
		is(t, d.Create(name), api.ErrArg)
		for _, c := range all {
			for _, f := range c.rightAndWrong() {
				if e := f(d, name); e != api.ErrArg {
					t.Errorf("%s of %q: %d", c.what, name, e)
				}
			}
		}
		for _, e := range []api.Errno{d.Rename("a", name), d.Rename("b", name), d.Rename(name, "a"), d.Rename(name, name)} {
			is(t, e, api.ErrArg)
		}
	}
	isNamed(t, d, "a")
	has(t, d, "a", fill(70, 7))
	isLoose(t, d, at("a", 0), at("a", 1))
}

func TestRightNames(t *testing.T) { // Words
	d := newDisk(t, 1000)
	for i, name := range rightNames() {
		fine(t, d.Create(name), d.Write(name, 0, fill(3, byte(i))), d.Sync(name), d.Flip(name, 0, 255), d.Cut(name, 2))
		has(t, d, name, []byte{byte(i) ^ 255, byte(i)})
	}
	isNamed(t, d, rightNames()...)
	for _, name := range rightNames() {
		fine(t, d.Rename(name, "other"), d.Rename("other", name), d.Remove(name))
	}
	isNamed(t, d)
}

func TestNoSuchFile(t *testing.T) { // P6.2 to P6.4, P6.7: behind what may not be handed in, ahead of all else
	d := newDisk(t, 0)
	fine(t, d.Create("a"))
	all := calls(t)
	for _, name := range []string{"b", "aa", ".", strings.Repeat("a", mostName)} {
		for _, c := range all {
			for _, f := range c.wrong {
				if e := f(d, name); e != api.ErrArg {
					t.Errorf("%s of what may not be, and no file: %d", c.what, e)
				}
			}
			for _, f := range c.behind {
				if e := f(d, name); e != api.ErrNone {
					t.Errorf("%s behind no file: %d", c.what, e)
				}
			}
			if c.right != nil {
				is(t, c.right(d, name), api.ErrNone)
			}
		}
		is(t, d.Write(name, 0, make([]byte, mostSize+1)), api.ErrNone)
		is(t, d.Rename(name, name), api.ErrNone)
		is(t, d.Rename(name, "a"), api.ErrNone)
	}
	isNamed(t, d, "a")
}

func TestWhatMayNotBe(t *testing.T) { // P6.2 to P6.4, P6.7: of a file that is there
	d := newDisk(t, 0)
	fine(t, d.Create("a"))
	for _, c := range calls(t) {
		for _, f := range append(slices.Clone(c.wrong), c.behind...) {
			if e := f(d, "a"); e != api.ErrArg {
				t.Errorf("%s of what may not be: %d", c.what, e)
			}
		}
	}
	isNamed(t, d, "a")
	has(t, d, "a", nil)
	isLoose(t, d)
}

func TestNoPower(t *testing.T) { // Errors: ErrDead ahead of all else, and nothing is done
	d := newDisk(t, 10)
	fine(t, d.Create("a"), d.Write("a", 0, fill(200, 1)), d.Sync("a"), d.Write("a", 100, fill(200, 2)))
	lose(t, d)
	all := calls(t)
	for _, name := range []string{"a", "b", "", "A", strings.Repeat("a", mostName+1)} {
		is(t, d.Create(name), api.ErrDead)
		for _, c := range all {
			for _, f := range c.rightAndWrong() {
				if e := f(d, name); e != api.ErrDead {
					t.Errorf("%s without power: %d", c.what, e)
				}
			}
		}
		is(t, d.Rename("a", name), api.ErrDead)
		is(t, d.Rename("b", name), api.ErrDead)
	}
	isNamed(t, d, "a")
	isUsed(t, d, 5)
	isLoose(t, d, at("a", 1), at("a", 2), at("a", 3), at("a", 4))
	if l := d.Files(); len(l) != 1 || l[0].Name != "a" || !bytes.Equal(l[0].Bytes, joined(fill(100, 1), fill(200, 2))) {
		t.Errorf("Files without power: %v", l)
	}
	fine(t, d.On([]int{0, 1, 2, 3}))
	has(t, d, "a", joined(fill(100, 1), fill(200, 2)))
}

// P6.2: Create, Remove, Rename.

func TestCreate(t *testing.T) { // P6.2
	d := newDisk(t, 0) // a file without bytes asks for no room
	fine(t, d.Create("a"))
	has(t, d, "a", nil)
	isLoose(t, d)
	isUsed(t, d, 0)
	again(t, d) // it lasts
	has(t, d, "a", nil)
	is(t, d.Create("a"), api.ErrThere)
	fine(t, d.Create("b"), d.Create("aa"), d.Create("."))
	isNamed(t, d, ".", "a", "aa", "b")
}

func TestCreateLeavesWhatIsThere(t *testing.T) { // P6.2
	d := laid(t, fill(100, 1))
	fine(t, d.Write("a", 0, fill(3, 2)))
	is(t, d.Create("a"), api.ErrThere)
	has(t, d, "a", joined(fill(3, 2), fill(97, 1)))
	isLoose(t, d, at("a", 0))
	again(t, d)
	has(t, d, "a", fill(100, 1))
}

func TestRemove(t *testing.T) { // P6.2
	d := laid(t, fill(100, 1))
	fine(t, d.Create("ab"), d.Write("ab", 0, fill(65, 3)), d.Write("a", 64, fill(65, 2)), d.Remove("a"))
	isNamed(t, d, "ab")
	isLoose(t, d, at("ab", 0), at("ab", 1))
	isUsed(t, d, 2)
	is(t, d.Remove("a"), api.ErrNone)
	again(t, d, 0, 1, 2, 3) // that lasts
	isNamed(t, d, "ab")
	has(t, d, "ab", fill(65, 3))
}

func TestCreateAgain(t *testing.T) { // P6.2: nothing is known of the one that was there
	d := laid(t, fill(200, 1))
	fine(t, d.Write("a", 0, fill(100, 2)), d.Remove("a"), d.Create("a"))
	has(t, d, "a", nil)
	isLoose(t, d)
	fine(t, d.Write("a", 0, fill(1, 3)))
	again(t, d)
	has(t, d, "a", nil)
}

func TestRename(t *testing.T) { // P6.2
	d := laid(t, fill(130, 1))
	fine(t, d.Write("a", 70, fill(10, 2)), d.Write("a", 130, fill(70, 3)), d.Rename("a", "b"))
	now := joined(fill(70, 1), fill(10, 2), fill(50, 1), fill(70, 3))
	isNamed(t, d, "b")
	has(t, d, "b", now)
	isUsed(t, d, 4)
	isLoose(t, d, at("b", 1), at("b", 2), at("b", 3)) // all that is known of it stays
	is(t, d.Rename("a", "c"), api.ErrNone)
	fine(t, d.Create("a")) // the name is free
	again(t, d, 0)
	has(t, d, "b", joined(fill(70, 1), fill(10, 2), fill(50, 1)))
	has(t, d, "a", nil)
}

func TestRenameLasts(t *testing.T) { // P6.2: with what lasts, and what does not
	for keep := range 8 {
		d := laid(t, fill(64, 1))
		fine(t, d.Write("a", 10, fill(150, 2)), d.Rename("a", "z"))
		again(t, d, setOf(keep)...)
		isNamed(t, d, "z")
		want := fill(160, 0)[:max(64, min(160, 64*length(keep)))]
		copy(want, fill(64, 1))
		if keep&1 != 0 {
			copy(want[10:64], fill(54, 2))
		}
		if keep&2 != 0 {
			copy(want[64:128], fill(64, 2))
		}
		if keep&4 != 0 {
			copy(want[128:160], fill(32, 2))
		}
		has(t, d, "z", want)
	}
}

func TestRenameOntoItself(t *testing.T) { // P6.2
	d := laid(t, fill(100, 1))
	fine(t, d.Write("a", 64, fill(100, 2)), d.Rename("a", "a"))
	isNamed(t, d, "a")
	has(t, d, "a", joined(fill(64, 1), fill(100, 2)))
	isLoose(t, d, at("a", 1), at("a", 2))
	isUsed(t, d, 3)
	again(t, d, 1)
	has(t, d, "a", joined(fill(100, 1), fill(28, 0), fill(36, 2)))
	is(t, d.Rename("b", "b"), api.ErrNone)
}

func TestRenameOntoAnother(t *testing.T) { // P6.2: that one is gone, with all that is known of it
	d := laid(t, fill(100, 1))
	fine(t, d.Create("b"), d.Write("b", 0, fill(500, 2)), d.Sync("b"), d.Write("b", 0, fill(500, 3)))
	fine(t, d.Create("c"), d.Write("c", 0, fill(10, 4)), d.Write("a", 70, fill(1, 5)), d.Rename("a", "b"))
	isNamed(t, d, "b", "c")
	has(t, d, "b", joined(fill(70, 1), fill(1, 5), fill(29, 1)))
	isLoose(t, d, at("b", 1), at("c", 0))
	isUsed(t, d, 3)
	again(t, d, 1, 2, 3, 4, 5, 6, 7, 8)
	has(t, d, "b", fill(100, 1))
	has(t, d, "c", fill(10, 4))
}

func TestRenameOfWhatIsNotLoose(t *testing.T) { // P6.2: what was loose of the other one is forgotten
	d := laid(t, fill(100, 1))
	fine(t, d.Create("b"), d.Write("b", 0, fill(50, 2)), d.Rename("a", "b"))
	isLoose(t, d)
	again(t, d, 0, 1)
	has(t, d, "b", fill(100, 1))
	fine(t, d.Create("a"), d.Rename("a", "b"))
	has(t, d, "b", nil)
	again(t, d)
	has(t, d, "b", nil)
}

func TestRenameThere(t *testing.T) { // P6.2: and back
	d := laid(t, fill(10, 1))
	fine(t, d.Write("a", 5, fill(100, 2)), d.Rename("a", "b"), d.Rename("b", "c"), d.Rename("c", "a"))
	isLoose(t, d, at("a", 0), at("a", 1))
	again(t, d, 0)
	has(t, d, "a", joined(fill(5, 1), fill(59, 2)))
}

// P6.3: Write, Cut, Sync.

func TestWrite(t *testing.T) { // P6.3
	d := laid(t, fill(200, 1))
	for _, w := range []struct {
		off, n, first, last int // last: the one behind the last sector that is loose
	}{
		{0, 1, 0, 1}, {63, 1, 0, 1}, {64, 1, 1, 2}, {0, 64, 0, 1}, {0, 65, 0, 2}, {1, 63, 0, 1}, {1, 64, 0, 2},
		{63, 2, 0, 2}, {63, 66, 0, 3}, {64, 64, 1, 2}, {100, 8, 1, 2}, {127, 1, 1, 2}, {128, 72, 2, 4}, {191, 1, 2, 3}, {192, 1, 3, 4}, {192, 8, 3, 4}, {0, 200, 0, 4},
		{199, 1, 3, 4}, {200, 1, 3, 4}, {200, 56, 3, 4}, {200, 57, 3, 5}, {192, 64, 3, 4}, {190, 70, 2, 5}, {0, 300, 0, 5},
	} {
		fine(t, d.Write("a", 0, fill(200, 1)), d.Cut("a", 200), d.Sync("a"), d.Write("a", w.off, fill(w.n, 2)))
		want := joined(fill(w.off, 1), fill(w.n, 2), fill(max(0, 200-w.off-w.n), 1))
		has(t, d, "a", want)
		var loose []api.Place
		for k := w.first; k < w.last; k++ {
			loose = append(loose, at("a", k))
		}
		isLoose(t, d, loose...)
		isUsed(t, d, (len(want)+63)/64)
	}
}

func TestWriteNothing(t *testing.T) { // P6.3: no sector has one of no bytes
	d := laid(t, fill(100, 1))
	for _, off := range []int{0, 1, 63, 64, 65, 99, 100} {
		fine(t, d.Write("a", off, nil), d.Write("a", off, []byte{}))
		has(t, d, "a", fill(100, 1))
		isLoose(t, d)
	}
	is(t, d.Write("a", 101, nil), api.ErrArg)
	fine(t, d.Quota(0), d.Write("a", 100, nil), d.Create("b"), d.Write("b", 0, nil))
	isLoose(t, d)
}

func TestWriteWhatIsThere(t *testing.T) { // P6.3: what is written to is loose, even if it is the same
	d := laid(t, fill(100, 1))
	fine(t, d.Write("a", 64, fill(1, 1)))
	isLoose(t, d, at("a", 1))
	has(t, d, "a", fill(100, 1))
}

func TestWriteBehindTheEnd(t *testing.T) { // P6.3
	d := laid(t, fill(100, 1))
	for _, off := range []int{101, 102, 128, mostSize, mostSize + 1, math.MaxInt - 1, math.MaxInt} {
		for _, n := range []int{0, 1, 100} {
			is(t, d.Write("a", off, fill(n, 2)), api.ErrArg)
		}
	}
	has(t, d, "a", fill(100, 1))
	isLoose(t, d)
}

func TestWritePiecewise(t *testing.T) { // P6.3: from where the last one ended
	d := newDisk(t, 100)
	fine(t, d.Create("a"))
	var want []byte
	for i := range 60 {
		fine(t, d.Write("a", len(want), fill(i, byte(i))))
		want = append(want, fill(i, byte(i))...)
		has(t, d, "a", want)
		isUsed(t, d, (len(want)+63)/64)
	}
}

func TestQuotaJustMet(t *testing.T) { // P6.3
	d := newDisk(t, 3)
	fine(t, d.Create("a"), d.Create("b"), d.Write("a", 0, fill(65, 1)))
	is(t, d.Write("b", 0, fill(65, 2)), api.ErrFull)
	is(t, d.Write("a", 65, fill(128, 2)), api.ErrFull)
	is(t, d.Write("a", 0, fill(193, 2)), api.ErrFull)
	has(t, d, "a", fill(65, 1)) // nothing of it was written
	has(t, d, "b", nil)
	isLoose(t, d, at("a", 0), at("a", 1))
	fine(t, d.Write("a", 65, fill(63, 1)), d.Write("b", 0, fill(64, 2)))
	isUsed(t, d, 3)
	is(t, d.Write("a", 128, fill(1, 3)), api.ErrFull)
	is(t, d.Write("b", 64, fill(1, 3)), api.ErrFull)
	is(t, d.Write("b", 1, fill(64, 3)), api.ErrFull)
	fine(t, d.Write("a", 0, fill(128, 4)), d.Write("b", 0, fill(64, 5))) // no more than there are
	fine(t, d.Cut("a", 64), d.Write("b", 64, fill(64, 6)))               // room is free again
	isUsed(t, d, 3)
	is(t, d.Write("a", 64, fill(1, 7)), api.ErrFull)
	fine(t, d.Remove("b"), d.Write("a", 64, fill(128, 7)))
	isUsed(t, d, 3)
}

func TestQuotaRenamedOver(t *testing.T) { // P6.3, P6.4: the room of the one that is gone is free
	d := newDisk(t, 2)
	fine(t, d.Create("a"), d.Create("b"), d.Write("a", 0, fill(64, 1)), d.Write("b", 0, fill(64, 2)))
	is(t, d.Write("a", 64, fill(1, 1)), api.ErrFull)
	fine(t, d.Rename("b", "a"), d.Write("a", 64, fill(1, 1)))
	isUsed(t, d, 2)
}

func TestQuotaBelowWhatIsUsed(t *testing.T) { // P6.3, P6.5
	d := laid(t, fill(300, 1)) // 5 sectors, room for 20 bytes in the last one
	fine(t, d.Create("b"))
	for _, quota := range []int{0, 1, 4} {
		fine(t, d.Quota(quota))
		isUsed(t, d, 5)
		fine(t, d.Write("a", 0, fill(300, 2)), d.Write("a", 290, fill(20, 3)), d.Write("a", 310, fill(10, 3)))
		is(t, d.Write("a", 320, fill(1, 4)), api.ErrFull)
		is(t, d.Write("a", 0, fill(321, 4)), api.ErrFull)
		is(t, d.Write("b", 0, fill(1, 4)), api.ErrFull)
		fine(t, d.Write("b", 0, nil), d.Cut("a", 300))
	}
	fine(t, d.Cut("a", 256)) // 4 of 4
	is(t, d.Write("a", 256, fill(1, 4)), api.ErrFull)
	fine(t, d.Quota(5), d.Write("a", 256, fill(64, 4)))
	is(t, d.Write("b", 0, fill(1, 4)), api.ErrFull)
}

func TestMaxSize(t *testing.T) { // P6.3: just met and just passed
	d := newDisk(t, mostQuota)
	fine(t, d.Create("a"))
	is(t, d.Write("a", 0, make([]byte, mostSize+1)), api.ErrMany)
	has(t, d, "a", nil)
	fine(t, d.Write("a", 0, fill(mostSize, 1)))
	isUsed(t, d, mostSize/sectorSize)
	is(t, d.Write("a", mostSize, fill(1, 2)), api.ErrMany)
	is(t, d.Write("a", mostSize-1, fill(2, 2)), api.ErrMany)
	is(t, d.Write("a", 0, make([]byte, mostSize+1)), api.ErrMany)
	is(t, d.Write("a", 1, make([]byte, mostSize)), api.ErrMany)
	is(t, d.Write("a", mostSize+1, fill(1, 2)), api.ErrArg)
	has(t, d, "a", fill(mostSize, 1))
	fine(t, d.Write("a", mostSize, nil), d.Sync("a"), d.Write("a", mostSize-1, fill(1, 3)))
	isLoose(t, d, at("a", mostSize/sectorSize-1))
	again(t, d)
	has(t, d, "a", fill(mostSize, 1))
}

func TestMaxSizeAheadOfTheQuota(t *testing.T) { // P6.3
	d := newDisk(t, 1)
	fine(t, d.Create("a"))
	is(t, d.Write("a", 0, make([]byte, mostSize+1)), api.ErrMany)
	is(t, d.Write("a", 0, make([]byte, mostSize)), api.ErrFull)
	is(t, d.Write("a", 1, make([]byte, mostSize)), api.ErrArg)
	fine(t, d.Write("a", 0, fill(1, 1)))
	is(t, d.Write("a", 1, make([]byte, mostSize)), api.ErrMany)
	is(t, d.Write("a", 1, make([]byte, mostSize-1)), api.ErrFull)
}

func TestMostSectors(t *testing.T) { // P6.3, P6.5: a disk of as many as there may be
	d := newDisk(t, mostQuota)
	for _, name := range []string{"a", "b", "c", "d"} {
		fine(t, d.Create(name), d.Write(name, 0, make([]byte, mostSize)))
	}
	isUsed(t, d, mostQuota)
	fine(t, d.Create("e"))
	is(t, d.Write("e", 0, fill(1, 1)), api.ErrFull)
	fine(t, d.Cut("a", mostSize-sectorSize), d.Write("e", 0, fill(64, 1)))
	is(t, d.Write("e", 64, fill(1, 1)), api.ErrFull)
}

func TestCut(t *testing.T) { // P6.3
	for size := range 201 {
		d := laid(t, fill(100, 1))
		fine(t, d.Write("a", 70, fill(130, 2)), d.Cut("a", size)) // 0 is not loose, 1 to 3 are
		now := joined(fill(70, 1), fill(130, 2))[:size]
		has(t, d, "a", now)
		isUsed(t, d, (size+63)/64)
		var loose []api.Place
		for k := 1; k*sectorSize < size; k++ {
			loose = append(loose, at("a", k))
		}
		isLoose(t, d, loose...)
		again(t, d)
		has(t, d, "a", fill(min(100, size), 1)) // that lasts
	}
}

func TestCutKeepsWhatIsLoose(t *testing.T) { // P6.3: within a sector
	d := laid(t, fill(100, 1))
	fine(t, d.Write("a", 64, fill(64, 2)), d.Cut("a", 80))
	isLoose(t, d, at("a", 1))
	again(t, d, 0)
	has(t, d, "a", joined(fill(64, 1), fill(16, 2)))
}

func TestCutRefused(t *testing.T) { // P6.3
	d := laid(t, fill(100, 1))
	for _, size := range []int{101, 102, 128, mostSize, math.MaxInt, -1, -100, math.MinInt} {
		is(t, d.Cut("a", size), api.ErrArg)
	}
	has(t, d, "a", fill(100, 1))
	fine(t, d.Cut("a", 100))
	has(t, d, "a", fill(100, 1))
	isLoose(t, d)
	fine(t, d.Cut("a", 0), d.Cut("a", 0))
	is(t, d.Cut("a", 1), api.ErrArg)
	again(t, d)
	has(t, d, "a", nil)
}

func TestCutAndWritten(t *testing.T) { // P6.3: what was cut is not there again
	d := laid(t, fill(200, 1))
	fine(t, d.Cut("a", 70), d.Write("a", 70, fill(100, 2)))
	has(t, d, "a", joined(fill(70, 1), fill(100, 2)))
	isLoose(t, d, at("a", 1), at("a", 2))
	again(t, d, 1) // between what lasts and what stays are noughts, not what was cut
	has(t, d, "a", joined(fill(70, 1), fill(58, 0), fill(42, 2)))
}

func TestCutLooseAndWritten(t *testing.T) { // P6.3: what is cut is not loose, what is written again is
	d := laid(t, fill(10, 1))
	fine(t, d.Write("a", 10, fill(300, 2)), d.Cut("a", 128), d.Write("a", 128, fill(1, 3)))
	isLoose(t, d, at("a", 0), at("a", 1), at("a", 2))
	again(t, d, 2)
	has(t, d, "a", joined(fill(10, 1), fill(118, 0), fill(1, 3)))
}

func TestSync(t *testing.T) { // P6.3
	d := laid(t, fill(100, 1))
	fine(t, d.Create("b"), d.Write("b", 0, fill(70, 5)))
	fine(t, d.Write("a", 50, fill(150, 2)), d.Sync("a"))
	isLoose(t, d, at("b", 0), at("b", 1)) // of no other file
	has(t, d, "a", joined(fill(50, 1), fill(150, 2)))
	fine(t, d.Write("a", 0, fill(200, 3)))
	again(t, d)
	has(t, d, "a", joined(fill(50, 1), fill(150, 2)))
	has(t, d, "b", nil)
	fine(t, d.Cut("a", 20), d.Sync("a"), d.Sync("a"), d.Sync("b"))
	again(t, d)
	has(t, d, "a", fill(20, 1))
}

// P6.4: Read, Size, Names, Files, Used.

func TestRead(t *testing.T) { // P6.4
	r := random(4)
	want := r.bytesOf(200)
	d := laid(t, want)
	for off := range 210 {
		for _, n := range []int{0, 1, 2, 63, 64, 65, 100, 199, 200, 201, 1000, math.MaxInt - 1, math.MaxInt} {
			begin := min(off, 200)
			rest := want[begin : begin+min(n, 200-begin)]
			if b, e := d.Read("a", off, n); !bytes.Equal(b, rest) || e != api.OK {
				t.Fatalf("Read of %d, %d: % x, %d; want % x", off, n, b, e, rest)
			}
		}
	}
	for _, off := range []int{mostSize, mostSize + 1, math.MaxInt - 1, math.MaxInt} {
		for _, n := range []int{0, 1, math.MaxInt} {
			if b, e := d.Read("a", off, n); len(b) != 0 || e != api.OK {
				t.Errorf("Read of %d, %d: % x, %d", off, n, b, e)
			}
		}
	}
}

func TestReadIsNow(t *testing.T) { // P6.4: not what lasts
	d := laid(t, fill(10, 1))
	fine(t, d.Write("a", 5, fill(10, 2)))
	has(t, d, "a", joined(fill(5, 1), fill(10, 2)))
	if l := d.Files(); len(l) != 1 || !bytes.Equal(l[0].Bytes, joined(fill(5, 1), fill(10, 2))) {
		t.Errorf("Files: %v", l)
	}
}

func TestNamesRise(t *testing.T) { // P6.4: byte by byte
	d := newDisk(t, 10)
	for _, name := range []string{"b", "a", "aa", "a.", "a-", "a0", "10", "9", "z", ".", "-", "a.10", "a.9"} {
		fine(t, d.Create(name), d.Write(name, 0, nil))
	}
	want := []string{"-", ".", "10", "9", "a", "a-", "a.", "a.10", "a.9", "a0", "aa", "b", "z"}
	isNamed(t, d, want...)
	for i, f := range d.Files() {
		if f.Name != want[i] || len(f.Bytes) != 0 {
			t.Errorf("Files, %d: %v", i, f)
		}
	}
}

func TestFiles(t *testing.T) { // P6.4
	d := newDisk(t, 100)
	if l := d.Files(); len(l) != 0 {
		t.Errorf("Files of none: %v", l)
	}
	fine(t, d.Create("b"), d.Write("b", 0, fill(3, 2)), d.Create("c"), d.Create("a"), d.Write("a", 0, fill(70, 1)))
	l := d.Files()
	if len(l) != 3 || l[0].Name != "a" || !bytes.Equal(l[0].Bytes, fill(70, 1)) || l[1].Name != "b" || !bytes.Equal(l[1].Bytes, fill(3, 2)) || l[2].Name != "c" || len(l[2].Bytes) != 0 {
		t.Errorf("Files: %v", l)
	}
}

func TestUsed(t *testing.T) { // P6.4: of each file, rounded up
	d := newDisk(t, 1000)
	fine(t, d.Create("a"), d.Create("b"))
	for size := range 200 {
		fine(t, d.Cut("a", 0), d.Write("a", 0, fill(size, 1)))
		isUsed(t, d, (size+63)/64)
	}
	fine(t, d.Cut("a", 1), d.Write("b", 0, fill(1, 1))) // not of all together
	isUsed(t, d, 2)
}

// P6.5: Quota, Arm.

func TestQuota(t *testing.T) { // P6.5
	d := newDisk(t, 2)
	fine(t, d.Create("a"))
	for _, n := range []int{-1, math.MinInt, mostQuota + 1, math.MaxInt} {
		is(t, d.Quota(n), api.ErrArg)
	}
	is(t, d.Write("a", 0, fill(129, 1)), api.ErrFull) // it is as it was
	fine(t, d.Write("a", 0, fill(128, 1)))
	for _, n := range []int{0, 1, 2, mostQuota - 1, mostQuota} {
		fine(t, d.Quota(n))
		has(t, d, "a", fill(128, 1))
	}
	fine(t, d.Write("a", 0, fill(200*sectorSize, 1)))
	lose(t, d)
	is(t, d.Quota(-1), api.ErrArg) // without power too
	is(t, d.Quota(mostQuota+1), api.ErrArg)
	fine(t, d.Quota(3), d.On(nil), d.Write("a", 0, fill(3*sectorSize, 1)))
	is(t, d.Write("a", 3*sectorSize, fill(1, 1)), api.ErrFull)
}

// operations are one of each kind, done right, refused for its name, and refused for want of a file.
func operations() []func(d *disk.Disk) api.Errno {
	var l []func(d *disk.Disk) api.Errno
	for _, name := range []string{"a", "", "none"} {
		l = append(l,
			func(d *disk.Disk) api.Errno { return d.Create(name) },
			func(d *disk.Disk) api.Errno { return d.Write(name, 0, fill(9, 9)) },
			func(d *disk.Disk) api.Errno { return d.Write(name, -1, nil) },
			func(d *disk.Disk) api.Errno { return d.Cut(name, 5) },
			func(d *disk.Disk) api.Errno { return d.Cut(name, 1<<40) },
			func(d *disk.Disk) api.Errno { return d.Sync(name) },
			func(d *disk.Disk) api.Errno { return d.Rename(name, "b") },
			func(d *disk.Disk) api.Errno { return d.Rename("b", name) },
			func(d *disk.Disk) api.Errno { return d.Remove(name) },
		)
	}
	return l
}

func TestArm(t *testing.T) { // P6.5: each operation counts, whatever it is asked
	all := operations()
	for first := range all {
		for n := 1; n <= len(all)+1; n++ {
			d, other := newDisk(t, 10), newDisk(t, 10)
			fine(t, d.Arm(n))
			for k := 1; k < n; k++ {
				f := all[(first+k)%len(all)]
				if got, want := f(d), f(other); got != want || got == api.ErrDead || d.Dead() {
					t.Fatalf("armed with %d, operation %d: %d; want %d", n, k, got, want)
				}
			}
			before := d.Files()
			for range 3 { // that one and all behind it
				is(t, all[(first+n)%len(all)](d), api.ErrDead)
				if !d.Dead() || !slices.EqualFunc(before, d.Files(), sameFile) {
					t.Fatalf("armed with %d: what is dead does something", n)
				}
			}
		}
	}
}

// sameFile says whether two files have the same name and the same bytes.
func sameFile(a, b api.File) bool { return a.Name == b.Name && bytes.Equal(a.Bytes, b.Bytes) }

func TestArmCountsOperationsAlone(t *testing.T) { // P6.5
	d := laid(t, fill(10, 1))
	fine(t, d.Arm(2))
	for range 20 {
		if _, e := d.Read("a", 0, 1); e != api.OK {
			t.Fatal(e)
		}
		if _, e := d.Size("a"); e != api.OK {
			t.Fatal(e)
		}
		if _, e := d.Read("b", -1, 1); e != api.ErrArg {
			t.Fatal(e)
		}
		fine(t, d.Flip("a", 0, 1), d.Quota(5))
		is(t, d.Flip("b", 0, 1), api.ErrNone)
		is(t, d.On(nil), api.ErrState)
		is(t, d.Arm(-1), api.ErrArg)
		d.Names()
		d.Files()
		d.Loose()
		d.Used()
		if d.Dead() {
			t.Fatal("Dead: true")
		}
	}
	fine(t, d.Sync("a"))
	is(t, d.Sync("a"), api.ErrDead)
}

func TestArmAgain(t *testing.T) { // P6.5
	d := laid(t, nil)
	fine(t, d.Arm(2), d.Sync("a"), d.Arm(2), d.Sync("a"), d.Arm(1), d.Arm(3), d.Sync("a"), d.Sync("a"), d.Arm(0))
	for range 10 { // not armed
		fine(t, d.Sync("a"))
	}
	fine(t, d.Arm(1), d.Arm(0), d.Sync("a"), d.Arm(math.MaxInt), d.Sync("a"))
	is(t, d.Arm(-1), api.ErrArg)
	is(t, d.Arm(math.MinInt), api.ErrArg)
	fine(t, d.Sync("a"), d.Arm(2))
	is(t, d.Arm(-1), api.ErrArg) // it is armed as it was
	fine(t, d.Sync("a"))
	is(t, d.Sync("a"), api.ErrDead)
}

func TestArmWithoutPower(t *testing.T) { // P6.5: ErrArg ahead of ErrDead
	d := laid(t, nil)
	lose(t, d)
	for _, n := range []int{-1, math.MinInt} {
		is(t, d.Arm(n), api.ErrArg)
	}
	for _, n := range []int{0, 1, 2, math.MaxInt} {
		is(t, d.Arm(n), api.ErrDead)
	}
	fine(t, d.On(nil))
	for range 10 { // not armed
		fine(t, d.Sync("a"))
	}
}

// P6.6: Dead, Loose, On.

// setOf are the places of the bits of a number.
func setOf(x int) []int {
	var l []int
	for i := 0; x>>i > 0; i++ {
		if x>>i&1 != 0 {
			l = append(l, i)
		}
	}
	return l
}

// length is the place behind a number's highest bit.
func length(x int) int {
	n := 0
	for ; x > 0; x >>= 1 {
		n++
	}
	return n
}

func TestOnWithPower(t *testing.T) { // P6.6
	d := laid(t, fill(10, 1))
	fine(t, d.Write("a", 0, fill(10, 2)), d.Arm(2))
	is(t, d.On(nil), api.ErrState)
	is(t, d.On([]int{0}), api.ErrState)
	has(t, d, "a", fill(10, 2)) // nothing has changed
	isLoose(t, d, at("a", 0))
	fine(t, d.Sync("a"))
	is(t, d.Sync("a"), api.ErrDead) // it is armed still
	fine(t, d.On(nil))
	is(t, d.On(nil), api.ErrState)
}

func TestLooseRises(t *testing.T) { // P6.6: by names, then by numbers
	d := newDisk(t, 1000)
	for _, name := range []string{"b", "a", "a.2", "a.10"} {
		fine(t, d.Create(name), d.Write(name, 0, fill(12*sectorSize, 1)), d.Sync(name))
		for _, k := range []int{11, 2, 10, 0, 9, 2} {
			fine(t, d.Write(name, k*sectorSize, fill(1, 2)))
		}
	}
	var want []api.Place
	for _, name := range []string{"a", "a.10", "a.2", "b"} {
		want = append(want, at(name, 0), at(name, 2), at(name, 9), at(name, 10), at(name, 11))
	}
	isLoose(t, d, want...)
	lose(t, d)
	isLoose(t, d, want...)
	fine(t, d.On([]int{1, 7, 10, 19}))
	for i, name := range []string{"a", "a.10", "a.2", "b"} {
		want := fill(12*sectorSize, 1)
		want[[]int{2, 9, 0, 11}[i]*sectorSize] = 2 // the places count over all files
		has(t, d, name, want)
	}
}

func TestOnNoughtsBetween(t *testing.T) { // P6.6: kept behind ones that were lost
	for _, size := range []int{0, 1, 10, 63, 64, 65, 100, 128, 129, 192, 193, 250} {
		for end := size + 1; end < 330; end += 13 {
			for k := size / sectorSize; k*sectorSize < end; k++ {
				d := laid(t, fill(size, 1))
				fine(t, d.Write("a", size, fill(end-size, 2)))
				again(t, d, k-size/sectorSize)
				begin := k * sectorSize
				stop := min(begin+sectorSize, end)
				want := joined(fill(size, 1), fill(stop-size, 0))
				copy(want[max(begin, size):], fill(stop-max(begin, size), 2))
				has(t, d, "a", want)
			}
		}
	}
}

func TestOnOverWhatLasts(t *testing.T) { // P6.6: a kept sector within does not make it longer or shorter
	for keep := range 16 {
		d := laid(t, fill(250, 1))
		fine(t, d.Write("a", 10, fill(230, 2)))
		again(t, d, setOf(keep)...)
		want := fill(250, 1)
		for _, k := range setOf(keep) {
			for i := k * 64; i < k*64+64 && i < 240; i++ {
				if i >= 10 {
					want[i] = 2
				}
			}
		}
		has(t, d, "a", want)
	}
}

func TestOnNumbersThatAreNoPlaces(t *testing.T) { // P6.6: and such that stand there twice, in any order
	for _, keep := range [][]int{{1}, {1, 1}, {1, 1, 1, -1}, {3, 1}, {math.MaxInt, 1, math.MinInt}, {-1, 1, 1 << 32, 1<<32 + 1, -2}} {
		d := laid(t, fill(64, 1))
		fine(t, d.Write("a", 0, fill(192, 2)))
		again(t, d, keep...)
		has(t, d, "a", joined(fill(64, 1), fill(64, 2)))
	}
	for _, keep := range [][]int{{0, 1, 2}, {2, 1, 0}, {2, 0, 2, 1, 0}, {1, 2, 3, 0}} {
		d := laid(t, fill(64, 1))
		fine(t, d.Write("a", 0, fill(192, 2)))
		again(t, d, keep...)
		has(t, d, "a", fill(192, 2))
	}
	for _, keep := range [][]int{nil, {}, {3}, {-1}, {3, 4, 5, -3}, {math.MinInt, math.MaxInt}} {
		d := laid(t, fill(64, 1))
		fine(t, d.Write("a", 0, fill(192, 2)))
		again(t, d, keep...)
		has(t, d, "a", fill(64, 1))
	}
}

func TestOnLasts(t *testing.T) { // P6.6: what is left lasts, and nothing is loose
	d := laid(t, fill(64, 1))
	fine(t, d.Write("a", 32, fill(200, 2)))
	again(t, d, 0, 2)
	want := joined(fill(32, 1), fill(32, 2), fill(64, 0), fill(64, 2))
	has(t, d, "a", want)
	isUsed(t, d, 3)
	fine(t, d.Write("a", 0, fill(300, 3)))
	again(t, d)
	has(t, d, "a", want)
	again(t, d, 0, 1, 2)
	has(t, d, "a", want)
}

func TestOnWithoutFiles(t *testing.T) { // P6.6
	d := newDisk(t, 0)
	again(t, d, 0, 1)
	isNamed(t, d)
}

// scene is a disk, and its model, with files of all kinds: that lasts; not; in part; loose within and behind what lasts; cut; renamed.
func scene(t *testing.T) pair {
	t.Helper()
	p := newPair(t, 40)
	for _, w := range []struct {
		name   string
		off, n int
		c      byte
		sync   bool
	}{
		{"a", 0, 150, 1, true}, {"a", 70, 20, 2, false}, {"b", 0, 100, 3, false}, {"c", 0, 64, 4, true}, {"d", 0, 30, 5, true}, {"d", 20, 120, 6, false},
	} {
		if p.m.files[w.name] == nil {
			both(t, "Create", p.d.Create(w.name), p.m.create(w.name))
		}
		b := fill(w.n, w.c)
		both(t, "Write", p.d.Write(w.name, w.off, b), p.m.write(w.name, w.off, b))
		if w.sync {
			both(t, "Sync", p.d.Sync(w.name), p.m.sync(w.name))
		}
	}
	both(t, "Rename", p.d.Rename("d", "e"), p.m.rename("d", "e"))
	both(t, "Cut", p.d.Cut("b", 90), p.m.cut("b", 90))
	p.m.isLike(t, p.d)
	return p
}

func TestLossAheadOfEachOperation(t *testing.T) { // P6.5, P6.6: with every set of loose sectors kept
	for i, f := range []func(d *disk.Disk) api.Errno{
		func(d *disk.Disk) api.Errno { return d.Create("f") },
		func(d *disk.Disk) api.Errno { return d.Remove("a") },
		func(d *disk.Disk) api.Errno { return d.Rename("e", "a") },
		func(d *disk.Disk) api.Errno { return d.Write("a", 10, fill(300, 9)) },
		func(d *disk.Disk) api.Errno { return d.Cut("e", 5) },
		func(d *disk.Disk) api.Errno { return d.Sync("e") },
		func(d *disk.Disk) api.Errno { return d.Sync("") },
	} {
		count := 1 << len(scene(t).m.loose())
		if count != 64 {
			t.Fatalf("the scene has %d sets of loose sectors", count)
		}
		for keep := range count {
			p := scene(t)
			fine(t, p.d.Arm(1), p.m.arm(1))
			if e := f(p.d); e != api.ErrDead || !p.m.fails() {
				t.Fatalf("operation %d without power: %d", i, e)
			}
			p.m.isLike(t, p.d) // it did nothing
			both(t, "On", p.d.On(setOf(keep)), p.m.on(setOf(keep)))
			p.m.isLike(t, p.d)
			if e := f(p.d); e != api.OK && i < 6 { // with power it does
				t.Fatalf("operation %d: %d", i, e)
			}
		}
	}
}

func TestLossBehindEachOperation(t *testing.T) { // P6.2, P6.3, P6.6: with every set of loose sectors kept
	for _, f := range []func(t *testing.T, p pair){
		func(t *testing.T, p pair) { both(t, "Create", p.d.Create("f"), p.m.create("f")) },
		func(t *testing.T, p pair) { both(t, "Remove", p.d.Remove("e"), p.m.remove("e")) },
		func(t *testing.T, p pair) { both(t, "Rename", p.d.Rename("a", "b"), p.m.rename("a", "b")) },
		func(t *testing.T, p pair) { both(t, "Rename", p.d.Rename("e", "0"), p.m.rename("e", "0")) },
		func(t *testing.T, p pair) {
			both(t, "Write", p.d.Write("c", 60, fill(70, 9)), p.m.write("c", 60, fill(70, 9)))
		},
		func(t *testing.T, p pair) { both(t, "Cut", p.d.Cut("a", 100), p.m.cut("a", 100)) },
		func(t *testing.T, p pair) { both(t, "Cut", p.d.Cut("e", 25), p.m.cut("e", 25)) },
		func(t *testing.T, p pair) { both(t, "Sync", p.d.Sync("e"), p.m.sync("e")) },
		func(t *testing.T, p pair) { both(t, "Flip", p.d.Flip("e", 25, 3), p.m.flip("e", 25, 3)) },
	} {
		for keep := 0; ; keep++ {
			p := scene(t)
			f(t, p)
			p.m.isLike(t, p.d)
			if keep>>len(p.m.loose()) > 0 {
				break
			}
			fine(t, p.d.Arm(1), p.m.arm(1))
			both(t, "Sync", p.d.Sync("a"), p.m.sync("a"))
			both(t, "On", p.d.On(setOf(keep)), p.m.on(setOf(keep)))
			p.m.isLike(t, p.d)
		}
	}
}

// P6.7: Flip.

func TestFlip(t *testing.T) { // P6.7
	d := laid(t, fill(10, 1))
	fine(t, d.Create("b"), d.Write("b", 0, fill(10, 5)), d.Write("a", 10, fill(10, 2)))
	for i := range 20 {
		for _, mask := range []byte{1, 2, 0x80, 0xff, 0x55} {
			want, _ := d.Read("a", 0, 20)
			want[i] ^= mask
			fine(t, d.Flip("a", i, mask))
			has(t, d, "a", want)
			fine(t, d.Flip("a", i, mask)) // it is turned back
		}
	}
	has(t, d, "a", joined(fill(10, 1), fill(10, 2)))
	has(t, d, "b", fill(10, 5))
}

func TestFlipRefused(t *testing.T) { // P6.7
	d := laid(t, fill(10, 1))
	for _, i := range []int{-1, math.MinInt, 10, 11, 64, mostSize, math.MaxInt} {
		is(t, d.Flip("a", i, 1), api.ErrArg)
		is(t, d.Flip("a", i, 0), api.ErrArg)
	}
	is(t, d.Flip("a", 0, 0), api.ErrArg)
	is(t, d.Flip("b", 0, 0), api.ErrArg) // ahead of ErrNone
	is(t, d.Flip("b", -1, 1), api.ErrArg)
	is(t, d.Flip("b", 10, 1), api.ErrNone)
	has(t, d, "a", fill(10, 1))
}

func TestFlipLasts(t *testing.T) { // P6.7: in a byte that lasts; what it is turned in is not loose
	d := laid(t, fill(100, 1))
	fine(t, d.Flip("a", 70, 0x80))
	isLoose(t, d)
	again(t, d)
	has(t, d, "a", joined(fill(70, 1), fill(1, 0x81), fill(29, 1)))
}

func TestFlipDoesNotLast(t *testing.T) { // P6.7: in a byte that does not last
	for keep := range 4 {
		d := laid(t, fill(10, 1))
		fine(t, d.Write("a", 10, fill(90, 2)), d.Flip("a", 20, 4), d.Flip("a", 80, 8))
		isLoose(t, d, at("a", 0), at("a", 1))
		again(t, d, setOf(keep)...)
		now := joined(fill(10, 1), fill(10, 2), fill(1, 6), fill(59, 2), fill(1, 10), fill(19, 2))
		switch keep {
		case 0:
			has(t, d, "a", fill(10, 1))
		case 1:
			has(t, d, "a", now[:64])
		case 2:
			has(t, d, "a", joined(fill(10, 1), fill(54, 0), now[64:]))
		case 3:
			has(t, d, "a", now)
		}
	}
}

func TestFlipOfWhatWasWrittenOver(t *testing.T) { // P6.7: now, and in what lasts there
	for keep := range 2 {
		d := laid(t, fill(10, 1))
		fine(t, d.Write("a", 0, fill(10, 0x20)), d.Flip("a", 3, 0x80))
		has(t, d, "a", joined(fill(3, 0x20), fill(1, 0xa0), fill(6, 0x20)))
		again(t, d, setOf(keep)...)
		if keep == 0 {
			has(t, d, "a", joined(fill(3, 1), fill(1, 0x81), fill(6, 1)))
		} else {
			has(t, d, "a", joined(fill(3, 0x20), fill(1, 0xa0), fill(6, 0x20)))
		}
	}
}

// P6.8: what follows.

func TestWhateverIsDone(t *testing.T) { // P6.1 to P6.8: held against the model
	for seed := range 300 {
		r := random(seed)
		p := newPair(t, 12)
		for range 400 {
			p.step(t, &r)
			p.m.isLike(t, p.d)
		}
	}
}

func TestWhatWasSyncedIsThere(t *testing.T) { // P6.8, its first sentence
	synced := []api.File{{Name: "s", Bytes: fill(200, 7)}, {Name: "s.1", Bytes: nil}, {Name: "t", Bytes: fill(64, 8)}}
	for seed := range 100 {
		r := random(seed)
		p := newPair(t, 30)
		for _, f := range synced {
			fine(t, p.d.Create(f.Name), p.m.create(f.Name), p.d.Write(f.Name, 0, f.Bytes), p.m.write(f.Name, 0, f.Bytes), p.d.Sync(f.Name), p.m.sync(f.Name))
		}
		for range 200 { // that name none of these
			p.step(t, &r)
			for _, f := range p.d.Files() {
				i := slices.IndexFunc(synced, func(s api.File) bool { return s.Name == f.Name })
				if i >= 0 && !bytes.Equal(f.Bytes, synced[i].Bytes) {
					t.Fatalf("%s: % x", f.Name, f.Bytes)
				}
			}
		}
		if !slices.Contains(p.d.Names(), "s") || !slices.Contains(p.d.Names(), "s.1") || !slices.Contains(p.d.Names(), "t") {
			t.Fatalf("Names: %q", p.d.Names())
		}
	}
}

func TestUnsyncedSectorsAlone(t *testing.T) { // P6.8, its first sentence: of a file that was written to in part
	for k := range 5 {
		for keep := range 2 {
			d := laid(t, fill(300, 1))
			fine(t, d.Write("a", k*64+3, fill(5, 2)))
			again(t, d, setOf(keep)...)
			want := fill(300, 1)
			if keep == 1 {
				copy(want[k*64+3:], fill(5, 2))
			}
			has(t, d, "a", want)
		}
	}
}

func TestEachSectorIsNowOrLasted(t *testing.T) { // P6.8, its second sentence
	now := joined(fill(10, 1), fill(200, 2), fill(90, 3)) // of which 130 lasted: 1 up to 130
	for keep := range 32 {
		d := laid(t, fill(130, 1))
		fine(t, d.Write("a", 10, fill(120, 2)), d.Write("a", 130, fill(80, 2)), d.Write("a", 210, fill(90, 3)))
		again(t, d, setOf(keep)...)
		b, _ := d.Read("a", 0, mostSize)
		if want := max(130, min(300, 64*length(keep))); len(b) != want {
			t.Fatalf("%b is kept: %d bytes; want %d", keep, len(b), want)
		}
		for i, c := range b {
			switch {
			case keep>>(i/64)&1 != 0:
				if c != now[i] {
					t.Fatalf("%b is kept, byte %d: %d", keep, i, c)
				}
			case i < 130:
				if c != 1 {
					t.Fatalf("%b is kept, byte %d: %d", keep, i, c)
				}
			case c != 0:
				t.Fatalf("%b is kept, byte %d: %d", keep, i, c)
			}
		}
	}
}

func TestNoOtherFileIsChanged(t *testing.T) { // P6.8, its third sentence
	others := func(d *disk.Disk) []api.File {
		return slices.DeleteFunc(d.Files(), func(f api.File) bool { return f.Name == "a" || f.Name == "z" })
	}
	looseOthers := func(d *disk.Disk) []api.Place {
		return slices.DeleteFunc(d.Loose(), func(p api.Place) bool { return p.Name == "a" || p.Name == "z" })
	}
	p := scene(t)
	files, loose := others(p.d), looseOthers(p.d)
	for i, f := range []func(d *disk.Disk) api.Errno{
		func(d *disk.Disk) api.Errno { return d.Write("a", 0, fill(300, 9)) },
		func(d *disk.Disk) api.Errno { return d.Flip("a", 100, 1) },
		func(d *disk.Disk) api.Errno { return d.Cut("a", 100) },
		func(d *disk.Disk) api.Errno { return d.Rename("a", "z") },
		func(d *disk.Disk) api.Errno { return d.Sync("z") },
		func(d *disk.Disk) api.Errno { return d.Create("a") },
		func(d *disk.Disk) api.Errno { return d.Write("a", 0, fill(65, 9)) },
		func(d *disk.Disk) api.Errno { return d.Rename("z", "a") },
		func(d *disk.Disk) api.Errno { return d.Cut("a", 0) },
		func(d *disk.Disk) api.Errno { return d.Remove("a") },
	} {
		fine(t, f(p.d))
		if !slices.EqualFunc(files, others(p.d), sameFile) || !slices.Equal(loose, looseOthers(p.d)) {
			t.Fatalf("call %d changes other files", i)
		}
	}
	again(t, p.d) // nor what of them lasts
	has(t, p.d, "b", nil)
	has(t, p.d, "c", fill(64, 4))
	has(t, p.d, "e", fill(30, 5))
}

func TestUsedGrowsByWriteAlone(t *testing.T) { // P6.8, its fourth sentence
	for seed := range 100 {
		r := random(seed + 1000)
		p := newPair(t, 12)
		for range 400 {
			used, quota, files := p.d.Used(), p.m.quota, p.d.Files()
			p.step(t, &r)
			if n := p.d.Used(); n > used && (n > quota || slices.EqualFunc(files, p.d.Files(), sameFile) || !oneIsLonger(files, p.d.Files())) {
				t.Fatalf("%d sectors are used; ahead %d of %d", n, used, quota)
			}
		}
	}
}

// oneIsLonger says whether files are the same but for one, which is longer.
func oneIsLonger(before, now []api.File) bool {
	longer := 0
	for i := range min(len(before), len(now)) {
		if len(now[i].Bytes) > len(before[i].Bytes) {
			longer++
		} else if !sameFile(before[i], now[i]) {
			return false
		}
	}
	return len(before) == len(now) && longer == 1
}

// R3, R5.

func TestWhatIsHandedInIsNotKept(t *testing.T) { // R3
	d := newDisk(t, 100)
	b := append(fill(100, 1), fill(100, 9)...)
	fine(t, d.Create("a"), d.Write("a", 0, b[:100]), d.Sync("a"), d.Write("a", 50, b[:100]))
	if !bytes.Equal(b, joined(fill(100, 1), fill(100, 9))) {
		t.Error("Write changes what it is handed")
	}
	for i := range b {
		b[i] = 77
	}
	has(t, d, "a", fill(150, 1))
	fine(t, d.Write("a", 150, b[:10]))
	if !bytes.Equal(b, fill(200, 77)) {
		t.Error("Write changes what it was handed once, or the room behind its end")
	}
	keep := []int{3, -1, 1, 1, 99}
	again(t, d, keep[:4]...)
	if !slices.Equal(keep, []int{3, -1, 1, 1, 99}) {
		t.Errorf("On changes what it is handed: %v", keep)
	}
}

func TestWhatIsAnsweredIsNewMemory(t *testing.T) { // R3
	d := laid(t, fill(100, 1))
	fine(t, d.Create("b"), d.Write("b", 0, fill(100, 2)))
	spoil := func(b []byte) {
		for i := range b[:cap(b)] {
			b[:cap(b)][i] = 77
		}
	}
	for range 2 {
		all, _ := d.Read("a", 0, 100)
		part, _ := d.Read("a", 10, 20)
		spoil(all)
		if !bytes.Equal(part, fill(20, 1)) {
			t.Error("two answers share memory")
		}
		spoil(part)
		for _, f := range d.Files() {
			spoil(f.Bytes)
		}
		names, loose := d.Names(), d.Loose()
		names[0], names[1], loose[0], loose[1] = "x", "y", at("x", 8), at("y", 9)
		has(t, d, "a", fill(100, 1))
		has(t, d, "b", fill(100, 2))
		isNamed(t, d, "a", "b")
		isLoose(t, d, at("b", 0), at("b", 1))
	}
	old, _ := d.Read("a", 0, 100)
	fine(t, d.Write("a", 0, fill(100, 3)), d.Flip("a", 0, 1), d.Cut("a", 5), d.Write("a", 5, fill(90, 4)))
	if !bytes.Equal(old, fill(100, 1)) {
		t.Error("what was answered is changed later")
	}
	again(t, d)
	has(t, d, "a", joined(fill(1, 0), fill(4, 1))) // the byte was turned in what lasts too
}

func TestWhatLastsIsItsOwn(t *testing.T) { // P6.3, P6.6: writing now does not change what lasts
	d := laid(t, fill(100, 1))
	fine(t, d.Write("a", 0, fill(100, 2)))
	again(t, d)
	has(t, d, "a", fill(100, 1))
	fine(t, d.Write("a", 0, fill(100, 3)), d.Cut("a", 90), d.Write("a", 90, fill(10, 4)))
	again(t, d)
	has(t, d, "a", fill(90, 1))
}

func TestDisksSideBySide(t *testing.T) { // R5
	p, q := scene(t), scene(t)
	r := random(5)
	for range 500 {
		p.step(t, &r)
		q.m.isLike(t, q.d)
	}
	p.m.isLike(t, p.d)
}
