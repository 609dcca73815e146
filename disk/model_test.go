package disk_test

import (
	"bytes"
	"maps"
	"slices"
	"strings"
	"testing"

	"milepost/api"
	"milepost/disk"
)

// The limits as the chapter tells them, not as package api does.
const (
	sectorSize = 64
	mostName   = 24
	mostSize   = 16777216
	mostQuota  = 1048576
)

// kept is what the chapter's words say of one file.
type kept struct {
	now, lasts []byte
	loose      map[int]bool
}

// model is what the chapter's words say of a disk, byte by byte.
type model struct {
	files map[string]*kept
	quota int
	fuse  int
	dead  bool
}

func newModel(quota int) *model {
	return &model{files: map[string]*kept{}, quota: quota}
}

// names are the names of all files, rising.
func (m *model) names() []string { return slices.Sorted(maps.Keys(m.files)) }

// used are the sectors of all files.
func (m *model) used() int {
	sum := 0
	for _, f := range m.files {
		for at := 0; at < len(f.now); at += sectorSize {
			sum++
		}
	}
	return sum
}

// loose are all loose sectors: those written to that still have a byte.
func (m *model) loose() []api.Place {
	var l []api.Place
	for _, name := range m.names() {
		f := m.files[name]
		for at := 0; at < len(f.now); at += sectorSize {
			if f.loose[at/sectorSize] {
				l = append(l, api.Place{Name: name, Page: at / sectorSize})
			}
		}
	}
	return l
}

// fails says whether the power is off for an operation.
func (m *model) fails() bool {
	if !m.dead && m.fuse > 0 {
		m.fuse--
		m.dead = m.fuse == 0
	}
	return m.dead
}

// wrongName says whether a text is no name.
func wrongName(name string) bool {
	return name == "" || len(name) > mostName || strings.Trim(name, "abcdefghijklmnopqrstuvwxyz0123456789.-") != ""
}

func (m *model) create(name string) api.Errno {
	switch {
	case m.fails():
		return api.ErrDead
	case wrongName(name):
		return api.ErrArg
	case m.files[name] != nil:
		return api.ErrThere
	}
	m.files[name] = &kept{loose: map[int]bool{}}
	return api.OK
}

func (m *model) remove(name string) api.Errno {
	switch {
	case m.fails():
		return api.ErrDead
	case wrongName(name):
		return api.ErrArg
	case m.files[name] == nil:
		return api.ErrNone
	}
	delete(m.files, name)
	return api.OK
}

func (m *model) rename(from, to string) api.Errno {
	switch {
	case m.fails():
		return api.ErrDead
	case wrongName(from) || wrongName(to):
		return api.ErrArg
	case m.files[from] == nil:
		return api.ErrNone
	}
	if from != to {
		m.files[to] = m.files[from]
		delete(m.files, from)
	}
	return api.OK
}

func (m *model) write(name string, off int, b []byte) api.Errno {
	switch f := m.files[name]; {
	case m.fails():
		return api.ErrDead
	case wrongName(name) || off < 0:
		return api.ErrArg
	case f == nil:
		return api.ErrNone
	case off > len(f.now):
		return api.ErrArg
	case off+len(b) > mostSize:
		return api.ErrMany
	}
	f := m.files[name]
	was, had := f.now, m.used()
	f.now = slices.Clone(f.now)
	for i, c := range b {
		if off+i < len(f.now) {
			f.now[off+i] = c
		} else {
			f.now = append(f.now, c)
		}
	}
	if n := m.used(); n > m.quota && n > had {
		f.now = was
		return api.ErrFull
	}
	for i := range b {
		f.loose[(off+i)/sectorSize] = true
	}
	return api.OK
}

func (m *model) cut(name string, size int) api.Errno {
	switch f := m.files[name]; {
	case m.fails():
		return api.ErrDead
	case wrongName(name) || size < 0:
		return api.ErrArg
	case f == nil:
		return api.ErrNone
	case size > len(f.now):
		return api.ErrArg
	}
	f := m.files[name]
	f.now = slices.Clone(f.now[:size])
	if len(f.lasts) > size {
		f.lasts = slices.Clone(f.lasts[:size])
	}
	return api.OK
}

func (m *model) sync(name string) api.Errno {
	switch {
	case m.fails():
		return api.ErrDead
	case wrongName(name):
		return api.ErrArg
	case m.files[name] == nil:
		return api.ErrNone
	}
	f := m.files[name]
	f.lasts, f.loose = slices.Clone(f.now), map[int]bool{}
	return api.OK
}

func (m *model) arm(n int) api.Errno {
	switch {
	case n < 0:
		return api.ErrArg
	case m.dead:
		return api.ErrDead
	}
	m.fuse = n
	return api.OK
}

// left is what a loss of power leaves of a file, if those of its sectors stay.
func (f *kept) left(stays map[int]bool) []byte {
	size := len(f.lasts)
	for k := range stays {
		size = max(size, min(sectorSize*(k+1), len(f.now)))
	}
	b := make([]byte, size)
	for i := range b {
		switch {
		case stays[i/sectorSize]:
			b[i] = f.now[i]
		case i < len(f.lasts):
			b[i] = f.lasts[i]
		}
	}
	return b
}

func (m *model) on(keep []int) api.Errno {
	if !m.dead {
		return api.ErrState
	}
	stays := map[string]map[int]bool{}
	for i, p := range m.loose() {
		if slices.Contains(keep, i) {
			if stays[p.Name] == nil {
				stays[p.Name] = map[int]bool{}
			}
			stays[p.Name][p.Page] = true
		}
	}
	for name, f := range m.files {
		b := f.left(stays[name])
		m.files[name] = &kept{now: b, lasts: slices.Clone(b), loose: map[int]bool{}}
	}
	m.dead, m.fuse = false, 0
	return api.OK
}

func (m *model) flip(name string, at int, mask byte) api.Errno {
	switch f := m.files[name]; {
	case m.dead:
		return api.ErrDead
	case wrongName(name) || at < 0 || mask == 0:
		return api.ErrArg
	case f == nil:
		return api.ErrNone
	case at >= len(f.now):
		return api.ErrArg
	}
	f := m.files[name]
	f.now[at] ^= mask
	if at < len(f.lasts) {
		f.lasts[at] ^= mask
	}
	return api.OK
}

// isLike holds all that a disk tells against the model.
func (m *model) isLike(t *testing.T, d *disk.Disk) {
	t.Helper()
	if got, want := d.Names(), m.names(); !slices.Equal(got, want) {
		t.Fatalf("Names: %q; want %q", got, want)
	}
	if got, want := d.Used(), m.used(); got != want {
		t.Fatalf("Used: %d; want %d", got, want)
	}
	if got, want := d.Loose(), m.loose(); !slices.Equal(got, want) {
		t.Fatalf("Loose: %v; want %v", got, want)
	}
	if got := d.Dead(); got != m.dead {
		t.Fatalf("Dead: %v", got)
	}
	files := d.Files()
	if len(files) != len(m.files) {
		t.Fatalf("Files: %d of them; want %d", len(files), len(m.files))
	}
	for i, name := range m.names() {
		want := m.files[name].now
		if files[i].Name != name || !bytes.Equal(files[i].Bytes, want) {
			t.Fatalf("Files, %d: %q % x; want %q % x", i, files[i].Name, files[i].Bytes, name, want)
		}
		if m.dead {
			continue
		}
		if n, e := d.Size(name); n != len(want) || e != api.OK {
			t.Fatalf("Size of %s: %d, %d; want %d", name, n, e, len(want))
		}
		if b, e := d.Read(name, 0, mostSize); !bytes.Equal(b, want) || e != api.OK {
			t.Fatalf("Read of %s: % x, %d; want % x", name, b, e, want)
		}
	}
}

// pair is a disk and the model of it: what is done to the one is done to the other.
type pair struct {
	d *disk.Disk
	m *model
}

// newPair is a disk without files, and its model.
func newPair(t *testing.T, quota int) pair {
	t.Helper()
	return pair{newDisk(t, quota), newModel(quota)}
}

// both must have told the same error.
func both(t *testing.T, what string, got, want api.Errno) {
	t.Helper()
	if got != want {
		t.Fatalf("%s: %d; want %d", what, got, want)
	}
}

// random are numbers that are the same at each run.
type random uint64

// below is the next number, from 0 on and below n.
func (r *random) below(n int) int {
	*r = *r*6364136223846793005 + 1442695040888963407
	return int(uint64(*r) >> 33 % uint64(n))
}

// bytesOf are the next n bytes, none of them 0.
func (r *random) bytesOf(n int) []byte {
	b := make([]byte, n)
	for i := range b {
		b[i] = byte(1 + r.below(255))
	}
	return b
}

// name is the next name, seldom one that is none.
func (r *random) name() string {
	return []string{"a", "b", "c", "a", "b", "c", "a.1", "", "A"}[r.below(9)]
}

// step does one thing, whichever comes next, to the disk and to the model, which must tell the same error.
func (p pair) step(t *testing.T, r *random) {
	t.Helper()
	name, other := r.name(), r.name()
	at := r.below(300) - 2
	switch r.below(16) {
	case 0, 1:
		both(t, "Create", p.d.Create(name), p.m.create(name))
	case 2:
		both(t, "Remove", p.d.Remove(name), p.m.remove(name))
	case 3:
		both(t, "Rename", p.d.Rename(name, other), p.m.rename(name, other))
	case 4, 5, 6:
		b := r.bytesOf(r.below(150))
		if f := p.m.files[name]; f != nil { // mostly where it may be written
			at = min(at, len(f.now)+1)
		}
		both(t, "Write", p.d.Write(name, at, b), p.m.write(name, at, b))
	case 7:
		if f := p.m.files[name]; f != nil {
			at = min(at, len(f.now)+1)
		}
		both(t, "Cut", p.d.Cut(name, at), p.m.cut(name, at))
	case 8, 9:
		both(t, "Sync", p.d.Sync(name), p.m.sync(name))
	case 10:
		mask := byte(r.below(4) << r.below(7))
		both(t, "Flip", p.d.Flip(name, at, mask), p.m.flip(name, at, mask))
	case 11:
		n := r.below(12)
		both(t, "Arm", p.d.Arm(n), p.m.arm(n))
	case 12, 13, 14:
		var keep []int
		for range r.below(5) {
			keep = append(keep, r.below(14)-2)
		}
		both(t, "On", p.d.On(keep), p.m.on(keep))
	case 15:
		n := r.below(20)
		p.m.quota = n
		both(t, "Quota", p.d.Quota(n), api.OK)
	}
}
