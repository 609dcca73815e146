package journal_test

import (
	"bytes"
	"fmt"
	"math"
	"slices"
	"testing"

	"milepost/api"
	"milepost/disk"
	"milepost/journal"
)

// newDisk is a disk of so many sectors, without files.
func newDisk(t *testing.T, quota int) *disk.Disk {
	t.Helper()
	d, e := disk.New(quota)
	if e != api.OK || d == nil {
		t.Fatalf("New of %d: %v, %d", quota, d, e)
	}
	return d
}

// is holds an error against what it must be.
func is(t *testing.T, what string, got, want api.Errno) {
	t.Helper()
	if got != want {
		t.Fatalf("%s: %d; want %d", what, got, want)
	}
}

// fine are errors that must be none.
func fine(t *testing.T, l ...api.Errno) {
	t.Helper()
	for i, e := range l {
		if e != api.OK {
			t.Fatalf("call %d: %d", i, e)
		}
	}
}

// rec is a record like no other of these.
func rec(i int) api.Rec {
	return api.Rec{Kind: uint32(i + 1), A: uint32(i) * 0x01020305, B: ^uint32(i)}
}

// recs are the first n of these.
func recs(n int) []api.Rec {
	l := make([]api.Rec, n)
	for i := range l {
		l[i] = rec(i)
	}
	return l
}

// opened is the journal of a disk.
func opened(t *testing.T, d *disk.Disk) *journal.Journal {
	t.Helper()
	j, e := journal.Open(d)
	if j == nil || e != api.OK {
		t.Fatalf("Open: %v, %d", j, e)
	}
	return j
}

// isNotOpened says that there must be no journal.
func isNotOpened(t *testing.T, d *disk.Disk, want api.Errno) {
	t.Helper()
	if j, e := journal.Open(d); j != nil || e != want {
		t.Fatalf("Open: %v, %d; want %d", j, e, want)
	}
}

// added is a journal on a new disk with the first n of these records.
func added(t *testing.T, n int) (*disk.Disk, *journal.Journal) {
	t.Helper()
	d := newDisk(t, 1000)
	j := opened(t, d)
	for _, r := range recs(n) {
		fine(t, j.Add(r))
	}
	return d, j
}

// laid is a new disk whose journal's file has these bytes; they last.
func laid(t *testing.T, b []byte) *disk.Disk {
	t.Helper()
	d := newDisk(t, 1<<20)
	fine(t, d.Create("journal"), d.Write("journal", 0, b), d.Sync("journal"))
	return d
}

// tells holds a journal's records against what they must be.
func tells(t *testing.T, j *journal.Journal, want ...api.Rec) {
	t.Helper()
	if got := j.Recs(); !slices.Equal(got, want) {
		t.Fatalf("Recs: %d records, %v; want %d, %v", len(got), got[:min(9, len(got))], len(want), want[:min(9, len(want))])
	}
}

// lies holds the bytes of the journal's file against the records that it must have.
func lies(t *testing.T, d *disk.Disk, want ...api.Rec) {
	t.Helper()
	b, e := raw(d)
	if !bytes.Equal(b, fileOf(want...)) || e != api.OK {
		t.Fatalf("the file: %d bytes, %d; want those of %d records", len(b), e, len(want))
	}
}

// finds opens the journal of a disk, which must have these records; the file has them alone then, and they last.
func finds(t *testing.T, d *disk.Disk, want ...api.Rec) *journal.Journal {
	t.Helper()
	j := opened(t, d)
	tells(t, j, want...)
	lies(t, d, want...)
	if l := d.Loose(); slices.ContainsFunc(l, func(p api.Place) bool { return p.Name == "journal" }) {
		t.Fatalf("loose behind Open: %v", l)
	}
	return j
}

// isUnchanged says that a call must not change anything on the disk.
func isUnchanged(t *testing.T, d *disk.Disk, what string, call func()) {
	t.Helper()
	files, loose := d.Files(), d.Loose()
	call()
	if !sameFiles(d.Files(), files) || !slices.Equal(d.Loose(), loose) {
		t.Fatalf("%s changes what is on the disk", what)
	}
}

// lose lets the power go.
func lose(t *testing.T, d *disk.Disk) {
	t.Helper()
	fine(t, d.Arm(1))
	is(t, "Sync", d.Sync("x"), api.ErrDead)
}

// again lets the power go and come, with these loose sectors kept.
func again(t *testing.T, d *disk.Disk, keep ...int) {
	t.Helper()
	lose(t, d)
	fine(t, d.On(keep))
}

// setOf are the places of the bits that are set.
func setOf(bits int) []int {
	var l []int
	for i := range 32 {
		if bits>>i&1 == 1 {
			l = append(l, i)
		}
	}
	return l
}

// turned are bytes with the bits of one turned.
func turned(b []byte, at int, mask byte) []byte {
	b = bytes.Clone(b)
	b[at] ^= mask
	return b
}

// joined are parts one behind the other, in new memory.
func joined(parts ...[]byte) []byte { return bytes.Join(parts, nil) }

func TestLimits(t *testing.T) { // Words
	if journal.Name != "journal" {
		t.Errorf("Name is %q", journal.Name)
	}
	if api.Sector != sectorSize || api.MaxSize != mostSize {
		t.Error("package api has other limits than the chapters")
	}
}

func TestErrors(t *testing.T) { // Errors
	want := map[api.Errno]int{api.OK: 0, api.ErrArg: 1, api.ErrNil: 2, api.ErrNone: 3, api.ErrFull: 5, api.ErrDead: 6, api.ErrMany: 9}
	for e, number := range want {
		if int(e) != number {
			t.Errorf("error %d is %d", number, int(e))
		}
	}
}

func TestExamples(t *testing.T) { // P9.1 to P9.3: the chapter's
	one := api.Rec{Kind: 1, A: 2, B: 3}
	d := newDisk(t, 100)
	j := opened(t, d)
	fine(t, j.Add(one))
	is(t, "Add", j.Add(api.Rec{Kind: 0, A: 2, B: 3}), api.ErrArg)
	tells(t, j, one)
	fine(t, d.Write("journal", 64, []byte{1}))
	finds(t, d, one)
	if n, e := d.Size("journal"); n != 64 || e != api.OK {
		t.Errorf("the file: %d bytes, %d", n, e)
	}
	fine(t, d.Flip("journal", 5, 1))
	finds(t, d)
}

// Errors.

func TestNoDisk(t *testing.T) { // Errors, R4
	isNotOpened(t, nil, api.ErrNil)
}

func TestNoJournal(t *testing.T) { // Errors, R4, P9.2: ahead of all else, whatever is asked
	var j *journal.Journal
	tells(t, j)
	for _, kind := range []uint32{0, 1, 4, 5, math.MaxUint32} {
		is(t, "Add", j.Add(api.Rec{Kind: kind}), api.ErrNil)
	}
	for _, n := range []int{math.MinInt, -1, 0, 1, math.MaxInt} {
		is(t, "Back", j.Back(n), api.ErrNil)
	}
}

func TestWithoutPower(t *testing.T) { // Errors, P9.2: the disk's own; what was added is told without it too
	d, j := added(t, 3)
	lose(t, d)
	isUnchanged(t, d, "a call without power", func() {
		isNotOpened(t, d, api.ErrDead)
		is(t, "Add", j.Add(rec(3)), api.ErrDead)
		for n := range 4 {
			is(t, "Back", j.Back(n), api.ErrDead)
		}
		tells(t, j, recs(3)...)
	})
	fine(t, d.On(nil))
	tells(t, j, recs(3)...)
	fine(t, j.Add(rec(3)))
	tells(t, j, recs(4)...)
	finds(t, d, recs(4)...)
}

func TestWithoutPowerAndFile(t *testing.T) { // Errors, P9.1: it is not made then
	d := newDisk(t, 9)
	lose(t, d)
	isNotOpened(t, d, api.ErrDead)
	fine(t, d.On(nil))
	if l := d.Names(); len(l) != 0 {
		t.Errorf("files: %q", l)
	}
}

func TestTheOrderOfRefusals(t *testing.T) { // R2: the first that the chapter names
	d, j := added(t, 2)
	fine(t, d.Quota(2))
	is(t, "Kind 0, no room", j.Add(api.Rec{}), api.ErrArg)
	is(t, "no room", j.Add(rec(2)), api.ErrFull)
	fine(t, d.Cut("journal", 64))
	is(t, "Kind 0, no room, a file that is too short", j.Add(api.Rec{}), api.ErrArg)
	is(t, "no room, a file that is too short", j.Add(rec(2)), api.ErrArg)
	is(t, "beyond, a file that is too short", j.Back(3), api.ErrArg)
	fine(t, d.Remove("journal"))
	is(t, "Kind 0, no file", j.Add(api.Rec{}), api.ErrArg)
	is(t, "no file", j.Add(rec(2)), api.ErrNone)
	is(t, "below 0, no file", j.Back(-1), api.ErrArg)
	is(t, "beyond, no file", j.Back(3), api.ErrArg)
	is(t, "no file", j.Back(2), api.ErrNone)
	lose(t, d)
	is(t, "Kind 0, no file, no power", j.Add(api.Rec{}), api.ErrArg)
	is(t, "no file, no power", j.Add(rec(2)), api.ErrDead)
	is(t, "below 0, no file, no power", j.Back(-1), api.ErrArg)
	is(t, "beyond, no file, no power", j.Back(3), api.ErrArg)
	is(t, "no file, no power", j.Back(2), api.ErrDead)
	tells(t, j, recs(2)...)
}

func TestWhichCallsAreOperations(t *testing.T) { // P9.1 to P9.4: each row's last call is the one at which the power goes
	begin := func(b []byte, fuse int) (*disk.Disk, *journal.Journal) {
		d := newDisk(t, 1000)
		if b != nil {
			d = laid(t, b)
		}
		j := opened(t, laid(t, fileOf(recs(2)...)))
		if b != nil && len(recsOf(b))*sectorSize == len(b) {
			j = opened(t, d)
		}
		fine(t, d.Arm(fuse))
		return d, j
	}
	last := func(d *disk.Disk, what string) {
		t.Helper()
		if d.Dead() {
			t.Fatalf("%s: the power went too early", what)
		}
		is(t, what, d.Sync("x"), api.ErrDead)
	}
	whole, torn := fileOf(recs(2)...), append(fileOf(recs(2)...), 1)
	d, _ := begin(nil, 3)
	opened(t, d)
	last(d, "Open where there is no file: Create, Sync")
	d, _ = begin(whole, 2)
	opened(t, d)
	last(d, "Open of whole sectors: Sync")
	d, _ = begin(torn, 3)
	opened(t, d)
	last(d, "Open of a torn end: Cut, Sync")
	d, j := begin(whole, 3)
	fine(t, j.Add(rec(2)))
	last(d, "Add: Write, Sync")
	for n := range 3 {
		d, j = begin(whole, 3)
		fine(t, j.Back(n))
		last(d, "Back: Cut, Sync")
	}
	d, j = begin(whole, 1)
	tells(t, j, recs(2)...)
	is(t, "Add", j.Add(api.Rec{}), api.ErrArg)
	is(t, "Back", j.Back(-1), api.ErrArg)
	is(t, "Back", j.Back(3), api.ErrArg)
	last(d, "Recs, and what is refused ahead of the disk")
}

// P9.1.

func TestOpenWhereThereIsNoFile(t *testing.T) { // P9.1: it is made; that takes no room
	for _, quota := range []int{0, 1, 1 << 20} {
		d := newDisk(t, quota)
		j := finds(t, d)
		if l := d.Names(); !slices.Equal(l, []string{"journal"}) || d.Used() != 0 {
			t.Errorf("files: %q, %d sectors", l, d.Used())
		}
		again(t, d)
		finds(t, d)
		tells(t, j)
	}
}

func TestOpenLeavesOtherFiles(t *testing.T) { // P9.1
	d := newDisk(t, 100)
	for _, name := range []string{"a", "journal.", "journa", "input"} {
		fine(t, d.Create(name), d.Write(name, 0, fileOf(recs(2)...)))
	}
	finds(t, d)
	if l := d.Names(); !slices.Equal(l, []string{"a", "input", "journa", "journal", "journal."}) || d.Used() != 8 || len(d.Loose()) != 8 {
		t.Errorf("files: %q, %d sectors, %d loose", l, d.Used(), len(d.Loose()))
	}
}

func TestOpenOfAnEmptyFile(t *testing.T) { // P9.1
	d := laid(t, nil)
	j := finds(t, d)
	fine(t, j.Add(rec(0)))
	finds(t, d, rec(0))
}

func TestOpenOfSizes(t *testing.T) { // P9.1: sectors that are whole count
	b := fileOf(recs(5)...)
	for size := range len(b) + 1 {
		d := laid(t, b[:size])
		finds(t, d, recs(size/sectorSize)...)
		finds(t, d, recs(size/sectorSize)...)
	}
}

func TestOpenOfBytesThatSayNothing(t *testing.T) { // P9.1: of any size
	r := random(7)
	for size := range 300 {
		for _, b := range [][]byte{make([]byte, size), bytes.Repeat([]byte{0xff}, size), bytes.Repeat([]byte{1}, size), r.text(size)} {
			finds(t, laid(t, b))
		}
	}
}

func TestTornEnds(t *testing.T) { // P9.1: of every length
	for count := range 4 {
		next, r := fileOf(recs(count + 3)...)[count*sectorSize:], random(count)
		wrong := turned(next, 20, 1)
		for length := range 3*sectorSize + 1 {
			want := recs(count)
			for _, end := range [][]byte{make([]byte, length), bytes.Repeat([]byte{0xff}, length), r.text(length), wrong[:length]} {
				finds(t, laid(t, joined(fileOf(want...), end)), want...)
			}
			want = recs(count + length/sectorSize)
			finds(t, laid(t, joined(fileOf(recs(count)...), next[:length])), want...)
		}
	}
}

func TestTornEndGoesForGood(t *testing.T) { // P9.1, P9.5: it is cut, and that lasts
	d := laid(t, joined(fileOf(recs(2)...), make([]byte, 100)))
	finds(t, d, recs(2)...)
	again(t, d)
	lies(t, d, recs(2)...)
	if d.Used() != 2 {
		t.Errorf("%d sectors", d.Used())
	}
}

func TestOpenOfWhatDoesNotLastYet(t *testing.T) { // P9.1, P9.5: Open syncs, with a torn end and without
	for _, end := range [][]byte{nil, {0}, make([]byte, 64), sectorOf(9, rec(3))} {
		d := newDisk(t, 100)
		fine(t, d.Create("journal"), d.Write("journal", 0, joined(fileOf(recs(3)...), end)))
		if len(d.Loose()) == 0 {
			t.Fatal("nothing is loose")
		}
		finds(t, d, recs(3)...)
		again(t, d)
		finds(t, d, recs(3)...)
	}
}

// isWrong says that a sector must be none of record number 2, wherever it came from: right ones behind it do not count either.
func isWrong(t *testing.T, what string, sector []byte) {
	t.Helper()
	d := laid(t, joined(sectorOf(1, rec(0)), sector, sectorOf(3, rec(2)), sectorOf(4, rec(3))))
	j, e := journal.Open(d)
	if e != api.OK || !slices.Equal(j.Recs(), recs(1)) {
		t.Fatalf("%s: %v, %d", what, j.Recs(), e)
	}
	lies(t, d, rec(0))
	finds(t, d, rec(0))
}

func TestSectorsThatAreRight(t *testing.T) { // Words, P9.1: what isWrong is held against
	d := laid(t, joined(sectorOf(1, rec(0)), sectorOf(2, rec(1)), sectorOf(3, rec(2)), sectorOf(4, rec(3))))
	finds(t, d, recs(4)...)
}

func TestSectorsOfAWrongNumber(t *testing.T) { // Words, P9.1: the sums fit
	for _, number := range []uint32{0, 1, 3, 4, 258, 2 << 8, 2 << 16, 2 << 24, 2 | 1<<8, 2 | 1<<16, 2 | 1<<31, ^uint32(2), math.MaxUint32} {
		isWrong(t, fmt.Sprint("number ", number), sectorOf(number, rec(1)))
	}
	for bit := range 32 {
		isWrong(t, fmt.Sprint("number of bit ", bit), sectorOf(2^1<<bit, rec(1)))
	}
	for _, number := range []uint32{0, 2, 1 << 24, math.MaxUint32} {
		finds(t, laid(t, joined(sectorOf(number, rec(0)), sectorOf(2, rec(1)))))
	}
}

func TestSectorsOfKind0(t *testing.T) { // Words, P9.1: the sum fits
	for _, r := range []api.Rec{{}, {A: 1}, {B: 1}, {A: math.MaxUint32, B: math.MaxUint32}} {
		isWrong(t, fmt.Sprint(r), sectorOf(2, r))
		finds(t, laid(t, sectorOf(1, r)))
	}
}

func TestSectorsOfEveryKind(t *testing.T) { // Words, P9.1, P9.3: only 0 is none
	for bit := range 32 {
		for _, r := range []api.Rec{{Kind: 1 << bit}, {Kind: ^uint32(1 << bit)}, {Kind: 1, A: 1 << bit}, {Kind: 1, B: 1 << bit}} {
			finds(t, laid(t, sectorOf(1, r)), r)
			d := newDisk(t, 9)
			j := opened(t, d)
			fine(t, j.Add(r))
			tells(t, j, r)
			finds(t, d, r)
		}
	}
}

func TestSectorsWithoutNoughts(t *testing.T) { // Words, P9.1: among them one byte is not 0, and the sum fits, or is the old one
	right := sectorOf(2, rec(1))
	for at := 16; at < sumAt; at++ {
		for bit := range 8 {
			b := turned(right, at, 1<<bit)
			isWrong(t, fmt.Sprint("byte ", at), b)
			isWrong(t, fmt.Sprint("byte ", at, ", summed"), summed(b[:sumAt]))
		}
	}
	full := bytes.Repeat([]byte{0xff}, sumAt)
	copy(full, right[:16])
	isWrong(t, "all of them", summed(full))
}

func TestSectorsOfAWrongSum(t *testing.T) { // Words, P9.1
	right := sectorOf(2, rec(1))
	for at := range sectorSize {
		for bit := range 8 {
			isWrong(t, fmt.Sprint("byte ", at, " bit ", bit), turned(right, at, 1<<bit))
		}
	}
	isWrong(t, "no sum", joined(right[:sumAt], make([]byte, 4)))
	reversed := bytes.Clone(right)
	slices.Reverse(reversed[sumAt:])
	isWrong(t, "the highest byte first", reversed)
	isWrong(t, "the other bits", turned(turned(turned(turned(right, 60, 0xff), 61, 0xff), 62, 0xff), 63, 0xff))
	isWrong(t, "another record's", joined(right[:sumAt], sectorOf(2, rec(0))[sumAt:]))
}

func TestSectorsAtOtherPlaces(t *testing.T) { // Words, P9.1
	isWrong(t, "a byte too early", joined(sectorOf(2, rec(1))[1:], []byte{0}))
	isWrong(t, "a byte too late", joined([]byte{0}, sectorOf(2, rec(1))[:63]))
	isWrong(t, "noughts", make([]byte, sectorSize))
	isWrong(t, "nothing", nil)
	isWrong(t, "the one ahead", sectorOf(1, rec(0)))
	finds(t, laid(t, joined([]byte{0}, fileOf(recs(2)...))))
}

func TestWrongSectorsAtEveryPlace(t *testing.T) { // P9.1, P9.5: the longest row with which it begins
	b := fileOf(recs(6)...)
	for k := range 6 {
		d := laid(t, turned(b, k*sectorSize+k*9, 0x40))
		finds(t, d, recs(k)...)
	}
	for set := range 64 {
		c, first := bytes.Clone(b), 6
		for _, k := range setOf(set) {
			c[k*sectorSize+13] ^= 1
			first = min(first, k)
		}
		finds(t, laid(t, c), recs(first)...)
	}
}

func TestRightSectorsBehindAWrongOne(t *testing.T) { // Words, P9.1, P9.5: neither of their places' numbers nor of the next one's do they count
	b := fileOf(recs(4)...)
	for k := range 4 {
		ahead, behind := b[:k*sectorSize], b[k*sectorSize:]
		for _, wrong := range [][]byte{make([]byte, sectorSize), turned(behind[:sectorSize], 9, 2), sectorOf(uint32(k+2), rec(k)), sectorOf(uint32(k+1), api.Rec{})} {
			finds(t, laid(t, joined(ahead, wrong, behind[sectorSize:])), recs(k)...)
			finds(t, laid(t, joined(ahead, wrong, behind)), recs(k)...)
			finds(t, laid(t, joined(ahead, wrong, wrong, behind)), recs(k)...)
		}
	}
}

func TestAsManyRecordsAsThereMayBe(t *testing.T) { // P9.1, P9.3, P9.4, R7: 2^16, one less, one more
	all := recs(most + 3)
	for _, extra := range []int{-1, 0, 1, 3} {
		want := all[:min(most, most+extra)]
		finds(t, laid(t, fileOf(all[:most+extra]...)), want...)
	}
	d := laid(t, fileOf(all[:most-1]...))
	j := opened(t, d)
	fine(t, j.Add(all[most-1]))
	tells(t, j, all[:most]...)
	lies(t, d, all[:most]...)
	isUnchanged(t, d, "Add of one too many", func() {
		is(t, "Add", j.Add(rec(0)), api.ErrMany)
		is(t, "Add of Kind 0", j.Add(api.Rec{}), api.ErrArg)
		is(t, "Back", j.Back(most+1), api.ErrArg)
	})
	tells(t, j, all[:most]...)
	again(t, d)
	j = finds(t, d, all[:most]...)
	is(t, "Add", j.Add(rec(0)), api.ErrMany)
	fine(t, j.Back(most), j.Back(most-1), j.Add(rec(5)))
	is(t, "Add", j.Add(rec(0)), api.ErrMany)
	all[most-1] = rec(5)
	lies(t, d, all[:most]...)
	fine(t, d.Quota(0))
	is(t, "too many, no room", j.Add(rec(0)), api.ErrMany)
	fine(t, d.Remove("journal"))
	is(t, "too many, no file", j.Add(rec(0)), api.ErrMany)
	lose(t, d)
	is(t, "too many, no file, no power", j.Add(rec(0)), api.ErrMany)
	tells(t, j, all[:most]...)
}

func TestTheGreatestFile(t *testing.T) { // P9.1: of 2^24 bytes
	all := recs(mostSize / sectorSize)
	finds(t, laid(t, fileOf(all...)), all[:most]...)
	finds(t, laid(t, make([]byte, mostSize)))
}

// P9.2.

func TestRecsInOrder(t *testing.T) { // P9.2, P9.3: those that are like one another too
	d := newDisk(t, 100)
	j := opened(t, d)
	same := api.Rec{Kind: api.RecRound, A: 7, B: 7}
	want := []api.Rec{same, {Kind: 4}, same, same, {Kind: 1}, {Kind: 3}, same}
	for i, r := range want {
		tells(t, j, want[:i]...)
		fine(t, j.Add(r))
	}
	tells(t, j, want...)
	finds(t, d, want...)
}

func TestWhatIsAnsweredIsNewMemory(t *testing.T) { // P9.2, R3
	spoil := func(l []api.Rec) {
		l = l[:cap(l)]
		for i := range l {
			l[i] = api.Rec{Kind: 99, A: 99, B: 99}
		}
	}
	for count := range 20 {
		d, j := added(t, count)
		for _, j := range []*journal.Journal{j, opened(t, d)} {
			other := j.Recs()
			spoil(j.Recs())
			if !slices.Equal(other, recs(count)) {
				t.Fatal("two lists share memory")
			}
			tells(t, j, recs(count)...)
			was := j.Recs()
			fine(t, j.Back(count/2))
			spoil(j.Recs())
			for i := count / 2; i < count; i++ {
				spoil(j.Recs())
				fine(t, j.Add(rec(i)))
			}
			if !slices.Equal(was, recs(count)) {
				t.Fatal("what was answered is changed later")
			}
			_ = append(j.Recs(), api.Rec{Kind: 98})
			fine(t, j.Add(rec(count)))
			spoil(was)
			tells(t, j, recs(count+1)...)
			finds(t, d, recs(count+1)...)
			fine(t, j.Back(count))
		}
	}
}

// P9.3.

func TestAddWritesTheSector(t *testing.T) { // Words, P9.3: byte for byte
	d := newDisk(t, 100)
	j := opened(t, d)
	fine(t, j.Add(api.Rec{Kind: 0x04030201, A: 0x08070605, B: 0x0c0b0a09}))
	want := []byte{1, 0, 0, 0, 1, 2, 3, 4, 5, 6, 7, 8, 9, 10, 11, 12}
	want = summed(append(want, make([]byte, 44)...))
	if b, e := raw(d); !bytes.Equal(b, want) || e != api.OK {
		t.Errorf("% x, %d; want % x", b, e, want)
	}
}

func TestAddOfManyRecords(t *testing.T) { // P9.3: a number has more than one byte
	d, j := added(t, 600)
	tells(t, j, recs(600)...)
	lies(t, d, recs(600)...)
	again(t, d)
	finds(t, d, recs(600)...)
}

func TestAddOfTheGreatestNumbers(t *testing.T) { // P9.3
	d := newDisk(t, 100)
	j := opened(t, d)
	want := []api.Rec{{Kind: math.MaxUint32, A: math.MaxUint32, B: math.MaxUint32}, {Kind: 1}, {Kind: math.MaxUint32}, {Kind: 1, A: math.MaxUint32}, {Kind: 1, B: math.MaxUint32}, {Kind: 1 << 31, A: 1 << 31, B: 1 << 31}}
	for _, r := range want {
		fine(t, j.Add(r))
	}
	tells(t, j, want...)
	finds(t, d, want...)
}

func TestAddOfKind0(t *testing.T) { // P9.3
	for count := range 3 {
		d, j := added(t, count)
		isUnchanged(t, d, "Add of Kind 0", func() {
			for _, r := range []api.Rec{{}, {A: 1}, {B: 1}, {A: math.MaxUint32, B: math.MaxUint32}} {
				is(t, "Add", j.Add(r), api.ErrArg)
			}
		})
		tells(t, j, recs(count)...)
		fine(t, j.Add(rec(count)))
		finds(t, d, recs(count+1)...)
	}
}

func TestAddOnAFullDisk(t *testing.T) { // P9.3
	for quota := range 5 {
		d := newDisk(t, quota)
		j := opened(t, d)
		for i := range quota {
			fine(t, j.Add(rec(i)))
		}
		isUnchanged(t, d, "Add without room", func() {
			is(t, "Add", j.Add(rec(9)), api.ErrFull)
		})
		tells(t, j, recs(quota)...)
		again(t, d)
		finds(t, d, recs(quota)...)
		fine(t, d.Quota(quota+1), j.Add(rec(quota)))
		tells(t, j, recs(quota+1)...)
		is(t, "Add", j.Add(rec(9)), api.ErrFull)
		fine(t, d.Quota(0), j.Back(quota))
		if quota > 0 {
			is(t, "Add", j.Add(rec(9)), api.ErrFull)
		}
		finds(t, d, recs(quota)...)
	}
	d, j := added(t, 2)
	fine(t, d.Create("a"), d.Write("a", 0, make([]byte, 64)), d.Quota(3)) // another file's sector
	is(t, "Add", j.Add(rec(2)), api.ErrFull)
	fine(t, d.Remove("a"), j.Add(rec(2)))
	finds(t, d, recs(3)...)
}

func TestAddLasts(t *testing.T) { // P9.3: with it alone
	d := newDisk(t, 100)
	j := opened(t, d)
	for i := range 5 {
		fine(t, j.Add(rec(i)))
		if l := d.Loose(); len(l) != 0 {
			t.Fatalf("loose behind Add: %v", l)
		}
		again(t, d)
		lies(t, d, recs(i+1)...)
		tells(t, j, recs(i+1)...)
	}
}

func TestAddWithoutPower(t *testing.T) { // P9.3: it goes at each of its operations; the journal's records are as ahead
	for count := range 4 {
		for fuse := 1; fuse <= 2; fuse++ {
			for keep := range 2 {
				d, j := added(t, count)
				fine(t, d.Arm(fuse))
				is(t, "Add", j.Add(rec(count)), api.ErrDead)
				tells(t, j, recs(count)...)
				fine(t, d.On(setOf(keep)))
				tells(t, j, recs(count)...)
				there := count
				if fuse == 2 && keep == 1 {
					there++
				}
				lies(t, d, recs(there)...)
				fine(t, j.Add(rec(7))) // over what was kept
				want := append(recs(count), rec(7))
				tells(t, j, want...)
				finds(t, d, want...)
			}
		}
	}
}

// P9.4.

func TestBack(t *testing.T) { // P9.4: to none, to some, to all; it lasts
	for count := range 6 {
		for n := range count + 1 {
			d, j := added(t, count)
			fine(t, j.Back(n))
			tells(t, j, recs(n)...)
			lies(t, d, recs(n)...)
			again(t, d)
			lies(t, d, recs(n)...)
			finds(t, d, recs(n)...)
			tells(t, j, recs(n)...)
			is(t, "Back", j.Back(n+1), api.ErrArg)
		}
	}
}

func TestBackOfWhatIsRefused(t *testing.T) { // P9.4
	for count := range 4 {
		d, j := added(t, count)
		isUnchanged(t, d, "Back of no number", func() {
			for _, n := range []int{math.MinInt, math.MinInt / 64, math.MinInt32, -64, -1, count + 1, count + 2, 64 * (count + 1), 1 << 16, 1 << 32, 1<<58 + count, math.MaxInt / 64, math.MaxInt} {
				is(t, fmt.Sprint("Back of ", n), j.Back(n), api.ErrArg)
			}
		})
		tells(t, j, recs(count)...)
	}
}

func TestAddBehindBack(t *testing.T) { // P9.3, P9.4: in the places of those that were taken back
	for n := range 6 {
		d, j := added(t, 5)
		fine(t, j.Back(n))
		want := recs(n)
		for i := range 7 {
			fine(t, j.Add(rec(20+i)))
			want = append(want, rec(20+i))
			tells(t, j, want...)
			lies(t, d, want...)
		}
		again(t, d)
		finds(t, d, want...)
		fine(t, j.Back(n), j.Back(n), j.Back(0), j.Back(0))
		tells(t, j)
		finds(t, d)
	}
}

func TestBackOnAFullDisk(t *testing.T) { // P9.4: it asks for no room
	d, j := added(t, 3)
	fine(t, d.Quota(0), j.Back(3), j.Back(1))
	tells(t, j, rec(0))
	finds(t, d, rec(0))
}

func TestBackWithoutPower(t *testing.T) { // P9.4: it goes at each of its operations; the journal's records are as ahead
	for n := range 4 {
		for fuse := 1; fuse <= 2; fuse++ {
			d, j := added(t, 3)
			fine(t, d.Arm(fuse))
			is(t, "Back", j.Back(n), api.ErrDead)
			tells(t, j, recs(3)...)
			fine(t, d.On(nil))
			tells(t, j, recs(3)...)
			left := 3
			if fuse == 2 {
				left = n // what is cut off lasts no more
			}
			lies(t, d, recs(left)...)
			if left < 3 {
				is(t, "Add behind a file that is too short", j.Add(rec(3)), api.ErrArg)
				is(t, "Back to what is gone", j.Back(3), api.ErrArg)
			}
			tells(t, j, recs(3)...)
			fine(t, j.Back(n))
			tells(t, j, recs(n)...)
			finds(t, d, recs(n)...)
		}
	}
}

// What is done to the file beneath.

func TestRemovedBeneath(t *testing.T) { // P9.2, P9.3, P9.4: what was opened tells its records still
	d, j := added(t, 3)
	fine(t, d.Remove("journal"))
	isUnchanged(t, d, "a call without the file", func() {
		tells(t, j, recs(3)...)
		is(t, "Add", j.Add(rec(3)), api.ErrNone)
		for n := range 4 {
			is(t, "Back", j.Back(n), api.ErrNone)
		}
	})
	tells(t, j, recs(3)...)
	k := finds(t, d)
	tells(t, j, recs(3)...)
	is(t, "Add", j.Add(rec(3)), api.ErrArg)
	is(t, "Back", j.Back(1), api.ErrArg)
	tells(t, j, recs(3)...)
	fine(t, j.Back(0), k.Add(rec(8)))
	tells(t, j)
	tells(t, k, rec(8))
	finds(t, d, rec(8))
}

func TestRenamedBeneath(t *testing.T) { // P9.1, P9.3: the name alone says which file it is
	d, j := added(t, 3)
	fine(t, d.Rename("journal", "a"))
	is(t, "Add", j.Add(rec(3)), api.ErrNone)
	finds(t, d)
	fine(t, d.Rename("a", "journal"))
	tells(t, j, recs(3)...)
	fine(t, j.Add(rec(3)))
	finds(t, d, recs(4)...)
}

func TestCutBeneath(t *testing.T) { // P9.3, P9.4
	for size := range 3*sectorSize + 1 {
		d, j := added(t, 3)
		fine(t, d.Cut("journal", size))
		tells(t, j, recs(3)...)
		if size < 3*sectorSize {
			is(t, "Add", j.Add(rec(3)), api.ErrArg)
			is(t, "Back", j.Back(3), api.ErrArg)
			tells(t, j, recs(3)...)
		}
		n := size / sectorSize
		fine(t, j.Back(n), j.Add(rec(9)))
		tells(t, j, append(recs(n), rec(9))...)
		finds(t, d, append(recs(n), rec(9))...)
	}
}

func TestWrittenBeneath(t *testing.T) { // P9.3, P9.4: Add goes over what lies behind its records, Back lets it go
	d, j := added(t, 2)
	fine(t, d.Write("journal", 128, make([]byte, 100)), j.Add(rec(2)))
	tells(t, j, recs(3)...)
	if n, e := d.Size("journal"); n != 228 || e != api.OK {
		t.Fatalf("the file: %d bytes, %d", n, e)
	}
	fine(t, j.Back(3))
	lies(t, d, recs(3)...)
	fine(t, d.Write("journal", 192, joined(sectorOf(4, rec(3)), sectorOf(5, rec(4)))), j.Add(rec(7)))
	tells(t, j, append(recs(3), rec(7))...)
	finds(t, d, rec(0), rec(1), rec(2), rec(7), rec(4)) // the longest row of records with which it begins
	fine(t, d.Write("journal", 0, []byte{9}))
	tells(t, j, append(recs(3), rec(7))...)
	finds(t, d)
}

func TestTurnedBeneath(t *testing.T) { // P9.2, P9.3, P9.5: what was opened is not told of it
	d, j := added(t, 3)
	fine(t, d.Flip("journal", 70, 4), j.Add(rec(3)))
	tells(t, j, recs(4)...)
	finds(t, d, rec(0))
}

func TestJournalsOfOneDisk(t *testing.T) { // R5: each has its own records, and both one file
	d, j := added(t, 2)
	k := finds(t, d, recs(2)...)
	fine(t, j.Add(rec(2)), j.Add(rec(3)))
	tells(t, k, recs(2)...)
	fine(t, k.Add(rec(9)))
	tells(t, k, rec(0), rec(1), rec(9))
	tells(t, j, recs(4)...)
	lies(t, d, rec(0), rec(1), rec(9), rec(3))
	fine(t, k.Back(1))
	tells(t, j, recs(4)...)
	is(t, "Add", j.Add(rec(4)), api.ErrArg)
	finds(t, d, rec(0))
}

func TestJournalsOfTwoDisks(t *testing.T) { // R5
	d, j := added(t, 2)
	e, k := added(t, 3)
	fine(t, j.Add(rec(7)), k.Back(1))
	lose(t, d)
	fine(t, k.Add(rec(8)))
	tells(t, j, rec(0), rec(1), rec(7))
	finds(t, e, rec(0), rec(8))
	fine(t, d.On(nil))
	finds(t, d, rec(0), rec(1), rec(7))
}

// P9.5.

// call is one of a row of calls: of Add, if it has a Kind, or else of Back, or, where that is below 0, of Open.
type call struct {
	rec  api.Rec
	back int
}

// someCalls are a row in which each of the calls follows each.
func someCalls() []call {
	open := call{back: -1}
	return []call{{rec: rec(10)}, {rec: rec(11)}, {back: 1}, {back: 0}, {rec: rec(12)}, open, open, {rec: rec(13)}, {rec: rec(14)}, {rec: rec(15)}, {back: 2}, open, {back: 2}, {rec: rec(16)}, {rec: rec(17)}, {back: 3}, {rec: rec(18)}}
}

// do makes a call: the journal behind it, and its records as they must be where it tells no error.
func (c call) do(d *disk.Disk, j *journal.Journal, sure []api.Rec) (*journal.Journal, []api.Rec, api.Errno) {
	switch {
	case c.rec.Kind != 0:
		return j, append(slices.Clone(sure), c.rec), j.Add(c.rec)
	case c.back >= 0:
		return j, sure[:c.back], j.Back(c.back)
	}
	k, e := journal.Open(d)
	return k, sure, e
}

// untilLoss is a disk on which calls were made up to the one at which the power went, the records ahead of that one, those that it was to leave, and which calls are left.
func untilLoss(t *testing.T, fuse int) (d *disk.Disk, ahead, behind []api.Rec, left []call) {
	t.Helper()
	d = newDisk(t, 100)
	j := opened(t, d)
	fine(t, d.Arm(fuse))
	for i, c := range someCalls() {
		k, next, e := c.do(d, j, ahead)
		if e == api.ErrDead {
			return d, ahead, next, someCalls()[i:]
		}
		fine(t, e)
		tells(t, k, next...)
		j, ahead = k, next
	}
	return d, ahead, ahead, nil
}

func TestLossesAtEveryOperation(t *testing.T) { // P9.5, its first sentence
	for fuse := 1; ; fuse++ {
		d, ahead, behind, left := untilLoss(t, fuse)
		if left == nil {
			if fuse < 30 {
				t.Errorf("only %d operations", fuse-1)
			}
			return
		}
		for keep := range 1 << len(d.Loose()) {
			d, _, _, _ := untilLoss(t, fuse)
			fine(t, d.On(setOf(keep)))
			j := opened(t, d)
			got := j.Recs()
			if !slices.Equal(got, ahead) && !slices.Equal(got, behind) {
				t.Fatalf("loss %d: %v; want %v, or %v", fuse, got, ahead, behind)
			}
			finds(t, d, got...)
			again(t, d)
			j = finds(t, d, got...)
			rest := left
			if slices.Equal(got, behind) && left[0].back >= 0 {
				rest = left[1:] // what was under way is done
			}
			for _, c := range rest {
				k, next, e := c.do(d, j, got)
				fine(t, e)
				tells(t, k, next...)
				j, got = k, next
			}
			finds(t, d, got...)
		}
	}
}

// lossOf are the bytes of a file behind a loss of power, as chapter 6 says it: of the sectors that were loose those of kept are as now.
func lossOf(lasted, now []byte, loose []api.Place, kept []int) []byte {
	b := bytes.Clone(lasted)
	for _, i := range kept {
		begin, end := loose[i].Page*sectorSize, min((loose[i].Page+1)*sectorSize, len(now))
		if end > len(b) {
			b = append(b, make([]byte, end-len(b))...)
		}
		copy(b[begin:end], now[begin:end])
	}
	return b
}

// isKept opens a file with loose sectors, which lay answers, with the power that goes at its operation fuse, and once more with each set of them kept.
func isKept(t *testing.T, fuse int, lasted []byte, lay func() *disk.Disk) {
	t.Helper()
	for keep := range 1 << len(lay().Loose()) {
		d := lay()
		fine(t, d.Arm(fuse))
		if j, e := journal.Open(d); e == api.OK {
			want := j.Recs()
			again(t, d, setOf(keep)...)
			finds(t, d, want...) // what was told is not lost
			continue
		}
		d.Arm(0)
		loose := d.Loose()
		var now []byte
		for _, f := range d.Files() {
			now = f.Bytes
		}
		kept := setOf(keep & (1<<len(loose) - 1))
		fine(t, d.On(kept))
		b := lossOf(lasted[:min(len(lasted), len(now))], now, loose, kept)
		if got, e := raw(d); !bytes.Equal(got, b) || e != api.OK {
			t.Fatalf("the file: %d bytes, %d; want %d", len(got), e, len(b))
		}
		want := recsOf(b)
		finds(t, d, want...)
		finds(t, d, want...)
		again(t, d)
		j := finds(t, d, want...)
		fine(t, j.Add(rec(30)))
		finds(t, d, append(want, rec(30))...)
	}
}

func TestLossesWhileAFileIsOpened(t *testing.T) { // P9.1, P9.5: with loose sectors, and a torn end
	lasted := fileOf(recs(3)...)
	for _, end := range [][]byte{
		nil, {7}, joined(sectorOf(4, rec(3)), sectorOf(5, rec(4)), sectorOf(6, rec(5))),
		joined(sectorOf(4, rec(3)), sectorOf(9, rec(4)), sectorOf(6, rec(5)), sectorOf(7, rec(6)), []byte{1, 2}),
		joined(sectorOf(4, rec(3)), make([]byte, 100)), make([]byte, 200),
	} {
		for fuse := 1; fuse <= 3; fuse++ {
			isKept(t, fuse, lasted, func() *disk.Disk {
				d := laid(t, lasted)
				fine(t, d.Write("journal", 64, sectorOf(2, rec(8))), d.Write("journal", len(lasted), end))
				return d
			})
		}
	}
}

func TestLossesWhileAFileIsMade(t *testing.T) { // P9.1, P9.5
	for fuse := 1; fuse <= 3; fuse++ {
		d := newDisk(t, 9)
		fine(t, d.Arm(fuse))
		if fuse < 3 {
			isNotOpened(t, d, api.ErrDead)
			fine(t, d.On([]int{0}))
		} else {
			opened(t, d)
		}
		if there := len(d.Names()) == 1; there != (fuse > 1) {
			t.Errorf("loss %d: %q", fuse, d.Names())
		}
		fine(t, d.Arm(0))
		finds(t, d)
	}
}

func TestLossesOneBehindTheOther(t *testing.T) { // P9.5: opening included
	for first := 1; first <= 2; first++ {
		for second := 1; second <= 2; second++ {
			for keep := range 4 {
				d, j := added(t, 3)
				fine(t, d.Write("journal", 192, make([]byte, 100)), d.Sync("journal"), d.Arm(first))
				isNotOpened(t, d, api.ErrDead)
				fine(t, d.On(setOf(keep)), d.Arm(1))
				isNotOpened(t, d, api.ErrDead)
				fine(t, d.On(setOf(keep)))
				j = finds(t, d, recs(3)...)
				fine(t, d.Arm(second))
				is(t, "Add", j.Add(rec(3)), api.ErrDead)
				fine(t, d.On(setOf(keep)), d.Arm(1))
				isNotOpened(t, d, api.ErrDead)
				fine(t, d.On(setOf(keep)))
				want := 3
				if second == 2 && keep&1 == 1 {
					want = 4
				}
				finds(t, d, recs(want)...)
			}
		}
	}
}

// burst is what turns bits of width ones that stand one behind the other: the first and the last, and those between that pattern says.
func burst(width int, pattern uint32) uint32 {
	return uint32(1) | uint32(1)<<(width-1) | pattern&uint32(1<<width-1)
}

// flip turns the bits of a burst in the journal's file, from bit at on.
func flip(t *testing.T, d *disk.Disk, at int, bits uint32) {
	t.Helper()
	var masks [5]byte
	for j := range 32 {
		if bits>>j&1 == 1 {
			masks[(at+j)/8-at/8] |= 1 << ((at + j) % 8)
		}
	}
	for i, mask := range masks {
		if mask != 0 {
			fine(t, d.Flip("journal", at/8+i, mask))
		}
	}
}

// isTurned says that behind a burst at a bit of a file of records those ahead of it must be left alone.
func isTurned(t *testing.T, d *disk.Disk, b []byte, at int, bits uint32) {
	t.Helper()
	fine(t, d.Cut("journal", 0), d.Write("journal", 0, b))
	flip(t, d, at, bits)
	want := recs(at / (8 * sectorSize))
	if j, e := journal.Open(d); e != api.OK || !slices.Equal(j.Recs(), want) {
		t.Fatalf("%b at %d: %v, %d", bits, at, j.Recs(), e)
	}
	if n, _ := d.Size("journal"); n != len(want)*sectorSize {
		t.Fatalf("%b at %d: the file has %d bytes", bits, at, n)
	}
}

func TestBurstsAtEveryPlace(t *testing.T) { // P9.5, its last sentence: over the ends of sectors too
	b := fileOf(recs(4)...)
	d := laid(t, nil)
	for width := 1; width <= 32; width++ {
		for at := 0; at+width <= 8*len(b); at++ {
			isTurned(t, d, b, at, burst(width, uint32(at)*0x9e3779b9))
		}
	}
}

func TestBurstsAtTheSectorsEnds(t *testing.T) { // P9.5, its last sentence
	b := fileOf(recs(4)...)
	d := laid(t, nil)
	for k := range 4 {
		begin := 8 * sectorSize * k
		for width := 1; width <= 32; width++ {
			for _, pattern := range []uint32{0, math.MaxUint32, 0x55555555, 0xaaaaaaaa, 0x9e3779b9} {
				for _, at := range []int{0, 8*sumAt - width, 8*sumAt - width/2, 8 * sumAt, 8*sectorSize - width} {
					isTurned(t, d, b, begin+at, burst(width, pattern))
				}
			}
		}
	}
}

func TestBurstsOutliveALossOfPower(t *testing.T) { // P9.5, its last sentence
	d, j := added(t, 3)
	flip(t, d, 8*70, 0x80000001)
	again(t, d)
	tells(t, j, recs(3)...)
	j = finds(t, d, rec(0))
	fine(t, j.Add(rec(4)))
	finds(t, d, rec(0), rec(4))
	flip(t, d, 3, 1)
	flip(t, d, 3, 1) // back as it was
	finds(t, d, rec(0), rec(4))
}

func TestNoCallPanics(t *testing.T) { // R1
	r := random(3)
	for size := range 400 {
		d := laid(t, append(fileOf(recs(size%3)...), r.text(size)...))
		j := opened(t, d)
		for _, n := range []int{math.MinInt, math.MinInt64 / 64, -1, 0, 1, 2, 3, 1 << 16, 1 << 31, 1 << 32, 1 << 57, 1 << 58, math.MaxInt} {
			j.Back(n)
			j.Add(api.Rec{Kind: uint32(n), A: uint32(n), B: uint32(n)})
		}
		fine(t, d.Remove("journal"))
		j.Add(rec(0))
		j.Back(0)
		j.Recs()
	}
}
