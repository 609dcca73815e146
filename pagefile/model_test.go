package pagefile_test

import (
	"bytes"
	"encoding/binary"
	"hash/crc32"
	"slices"
	"testing"

	"milepost/api"
	"milepost/disk"
	"milepost/pagefile"
)

// The limits as the chapters tell them, not as package api does.
const (
	pageSize   = 256
	sectorSize = 64
	most       = 240 // bytes in a page
	roomAt     = 12
	sumAt      = 252
	mostSize   = 16777216
	mostPages  = mostSize / pageSize
)

// sumOf is the sum of bytes, as the library has it.
func sumOf(b []byte) uint32 { return crc32.Checksum(b, crc32.MakeTable(crc32.Castagnoli)) }

// pageOf is page k of a file of that name, as chapter 7 says it.
func pageOf(name string, k int, b []byte) []byte {
	p := binary.LittleEndian.AppendUint32(nil, sumOf([]byte(name)))
	p = binary.LittleEndian.AppendUint32(p, uint32(k))
	p = binary.LittleEndian.AppendUint16(p, uint16(len(b)))
	p = append(p, 0, 0)
	p = append(p, b...)
	p = append(p, make([]byte, sumAt-len(p))...)
	return binary.LittleEndian.AppendUint32(p, sumOf(p))
}

// textOf are the bytes of page k of a file of that name, if it is intact.
func textOf(p []byte, name string, k int) ([]byte, bool) {
	size := int(binary.LittleEndian.Uint16(p[8:]))
	if size > most {
		return nil, false
	}
	b := p[roomAt : roomAt+size]
	return b, bytes.Equal(p, pageOf(name, k, b))
}

// raw are a disk's own bytes of a file.
func raw(d *disk.Disk, name string) ([]byte, api.Errno) { return d.Read(name, 0, mostSize) }

// model is what the chapter's words say of files of pages, by the calls of a disk alone.
type model struct{ d *disk.Disk }

func (m model) open(name string) api.Errno {
	n, e := m.d.Size(name)
	if e == api.OK && n%pageSize != 0 {
		return api.ErrRot
	}
	return e
}

func (m model) read(name string, k int) ([]byte, api.Errno) {
	if k < 0 {
		return nil, api.ErrArg
	}
	b, e := raw(m.d, name)
	if e != api.OK {
		return nil, e
	}
	if k >= len(b)/pageSize {
		return nil, api.ErrNone
	}
	text, ok := textOf(b[k*pageSize:(k+1)*pageSize], name, k)
	if !ok {
		return nil, api.ErrRot
	}
	return text, api.OK
}

func (m model) write(name string, k int, b []byte) api.Errno {
	if k < 0 {
		return api.ErrArg
	}
	if len(b) > most {
		return api.ErrMany
	}
	n, e := m.d.Size(name)
	if e != api.OK {
		return e
	}
	if k > n/pageSize {
		return api.ErrArg
	}
	return m.d.Write(name, k*pageSize, pageOf(name, k, b))
}

func (m model) bad(name string) ([]int, api.Errno) {
	if e := m.open(name); e != api.OK {
		return nil, e
	}
	b, _ := raw(m.d, name)
	var l []int
	for k := range len(b) / pageSize {
		if _, ok := textOf(b[k*pageSize:(k+1)*pageSize], name, k); !ok {
			l = append(l, k)
		}
	}
	return l, api.OK
}

// pair is a disk with files of pages, and one to which the same is done by the model. The files are those that were opened once.
type pair struct {
	d     *disk.Disk
	m     model
	files map[string]*pagefile.File
}

// newPair is two disks without files.
func newPair(t *testing.T, quota int) pair {
	t.Helper()
	return pair{newDisk(t, quota), model{newDisk(t, quota)}, map[string]*pagefile.File{}}
}

// both must have told the same error.
func both(t *testing.T, what string, got, want api.Errno) {
	t.Helper()
	if got != want {
		t.Fatalf("%s: %d; want %d", what, got, want)
	}
}

// random are numbers that are the same at each run.
type random uint64

// below is the next number, from 0 on and below n.
func (r *random) below(n int) int {
	*r = *r*6364136223846793005 + 1442695040888963407
	return int(uint64(*r) >> 33 % uint64(n))
}

// text are the next n bytes.
func (r *random) text(n int) []byte {
	b := make([]byte, n)
	for i := range b {
		b[i] = byte(r.below(256))
	}
	return b
}

// name is the next name, seldom one that is none.
func (r *random) name() string { return []string{"a", "b", "c", "a", "b", "a", "", "A"}[r.below(8)] }

// size is how many bytes the next page has, seldom too many.
func (r *random) size() int { return []int{0, 1, 30, 60, 120, 200, 239, 240, 241}[r.below(9)] }

// step does one thing, whichever comes next, to both disks, and they must tell the same.
func (p pair) step(t *testing.T, r *random) {
	t.Helper()
	name, k := r.name(), r.below(7)-1
	switch r.below(12) {
	case 0:
		f, e := pagefile.Create(p.d, name)
		both(t, "Create", e, p.m.d.Create(name))
		p.opened(t, f, e, name)
	case 1, 2:
		f, e := pagefile.Open(p.d, name)
		both(t, "Open", e, p.m.open(name))
		p.opened(t, f, e, name)
	case 3, 4, 5, 6, 7:
		if f := p.files[name]; f != nil {
			b := r.text(r.size())
			both(t, "Write", f.Write(k, b), p.m.write(name, k, b))
		}
	case 8:
		if f := p.files[name]; f != nil {
			both(t, "Sync", f.Sync(), p.m.d.Sync(name))
		}
	case 9:
		p.spoil(t, r, name)
	case 10:
		n := r.below(15)
		both(t, "Arm", p.d.Arm(n), p.m.d.Arm(n))
	case 11:
		keep := []int{r.below(8), r.below(8), r.below(8), r.below(8)}[:r.below(5)]
		both(t, "On", p.d.On(keep), p.m.d.On(keep))
	}
}

// opened keeps a file, if there is one.
func (p pair) opened(t *testing.T, f *pagefile.File, e api.Errno, name string) {
	t.Helper()
	if (f == nil) == (e == api.OK) || f != nil && f.Name() != name || f == nil && f.Name() != "" {
		t.Fatalf("the file of %q: %v, %d", name, f, e)
	}
	if f != nil {
		p.files[name] = f
	}
}

// spoil does something to both disks that is not done through their files of pages.
func (p pair) spoil(t *testing.T, r *random, name string) {
	t.Helper()
	at, other := r.below(1200), r.name()
	switch r.below(9) {
	case 0:
		both(t, "Remove", p.d.Remove(name), p.m.d.Remove(name))
	case 1:
		both(t, "Rename", p.d.Rename(name, other), p.m.d.Rename(name, other))
	case 2:
		both(t, "Cut", p.d.Cut(name, at), p.m.d.Cut(name, at))
	case 3:
		at -= at % pageSize
		both(t, "Cut", p.d.Cut(name, at), p.m.d.Cut(name, at))
	case 4, 5:
		both(t, "Flip", p.d.Flip(name, at, 1<<(at%8)), p.m.d.Flip(name, at, 1<<(at%8)))
	case 6:
		b := r.text(at % 100)
		both(t, "disk.Write", p.d.Write(name, at, b), p.m.d.Write(name, at, b))
	case 7: // a page of another place, or of another file
		b, _ := p.d.Read(other, at-at%pageSize, pageSize)
		to := r.below(5) * pageSize
		both(t, "disk.Write", p.d.Write(name, to, b), p.m.d.Write(name, to, b))
	case 8:
		n := 4 + r.below(60)
		both(t, "Quota", p.d.Quota(n), p.m.d.Quota(n))
	}
}

// isLike holds all that files of pages tell, and all that their disk tells, against the model.
func (p pair) isLike(t *testing.T) {
	t.Helper()
	if !sameFiles(p.d.Files(), p.m.d.Files()) || !slices.Equal(p.d.Loose(), p.m.d.Loose()) || p.d.Dead() != p.m.d.Dead() {
		t.Fatal("the disk holds something else")
	}
	for _, name := range []string{"a", "b", "c", "", "A"} {
		got, e := pagefile.Bad(p.d, name)
		want, wantErr := p.m.bad(name)
		if !slices.Equal(got, want) || e != wantErr {
			t.Fatalf("Bad of %q: %v, %d; want %v, %d", name, got, e, want, wantErr)
		}
	}
	for name, f := range p.files {
		size, wantErr := p.m.d.Size(name)
		if n, e := f.Pages(); n != size/pageSize || e != wantErr {
			t.Fatalf("Pages of %s: %d, %d; want %d, %d", name, n, e, size/pageSize, wantErr)
		}
		for k := -1; k <= size/pageSize+1; k++ {
			got, e := f.Read(k)
			want, wantErr := p.m.read(name, k)
			if !bytes.Equal(got, want) || e != wantErr {
				t.Fatalf("Read of %s, page %d: % x, %d; want % x, %d", name, k, got, e, want, wantErr)
			}
		}
	}
}

// sameFiles says whether files are the same, byte for byte.
func sameFiles(a, b []api.File) bool {
	return slices.EqualFunc(a, b, func(f, g api.File) bool { return f.Name == g.Name && bytes.Equal(f.Bytes, g.Bytes) })
}

func TestRowsOfCalls(t *testing.T) { // P8.1 to P8.5
	for seed := range 150 {
		r := random(seed)
		p := newPair(t, 60)
		for range 150 {
			p.step(t, &r)
			p.isLike(t)
		}
	}
}
