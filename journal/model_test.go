package journal_test

import (
	"bytes"
	"encoding/binary"
	"hash/crc32"
	"slices"
	"testing"

	"milepost/api"
	"milepost/disk"
	"milepost/journal"
)

// The limits as the chapters tell them, not as package api does.
const (
	sectorSize = 64
	sumAt      = 60
	most       = 65536 // records
	mostSize   = 16777216
)

// sumOf is the sum of bytes, as the library has it.
func sumOf(b []byte) uint32 { return crc32.Checksum(b, crc32.MakeTable(crc32.Castagnoli)) }

// summed are 60 bytes with their sum behind them.
func summed(b []byte) []byte { return binary.LittleEndian.AppendUint32(bytes.Clone(b), sumOf(b)) }

// sectorOf is the sector of a record with that number, as the chapter says it.
func sectorOf(number uint32, r api.Rec) []byte {
	b := make([]byte, sumAt)
	binary.LittleEndian.PutUint32(b, number)
	binary.LittleEndian.PutUint32(b[4:], r.Kind)
	binary.LittleEndian.PutUint32(b[8:], r.A)
	binary.LittleEndian.PutUint32(b[12:], r.B)
	return summed(b)
}

// fileOf are the sectors of records, the first of them with number 1.
func fileOf(recs ...api.Rec) []byte {
	b := make([]byte, 0, len(recs)*sectorSize)
	for i, r := range recs {
		b = append(b, sectorOf(uint32(i+1), r)...)
	}
	return b
}

// recsOf are the records of a file's bytes, field by field as the chapter's words say it.
func recsOf(b []byte) []api.Rec {
	var recs []api.Rec
	for k := 0; k < most && (k+1)*sectorSize <= len(b); k++ {
		s := b[k*sectorSize : (k+1)*sectorSize]
		r := api.Rec{Kind: binary.LittleEndian.Uint32(s[4:]), A: binary.LittleEndian.Uint32(s[8:]), B: binary.LittleEndian.Uint32(s[12:])}
		if binary.LittleEndian.Uint32(s) != uint32(k+1) || r.Kind == 0 || !bytes.Equal(s[16:sumAt], make([]byte, sumAt-16)) || binary.LittleEndian.Uint32(s[sumAt:]) != sumOf(s[:sumAt]) {
			break
		}
		recs = append(recs, r)
	}
	return recs
}

// raw are a disk's own bytes of the journal's file.
func raw(d *disk.Disk) ([]byte, api.Errno) { return d.Read("journal", 0, mostSize) }

// model is what the chapter's words say of a journal, by the calls of a disk alone.
type model struct {
	d    *disk.Disk
	recs []api.Rec
}

// openModel is the journal of a disk.
func openModel(d *disk.Disk) (*model, api.Errno) {
	_, e := d.Size("journal")
	if e == api.ErrNone {
		e = d.Create("journal")
	}
	if e != api.OK {
		return nil, e
	}
	b, e := raw(d)
	if e != api.OK {
		return nil, e
	}
	m := &model{d, recsOf(b)}
	if len(b) != len(m.recs)*sectorSize {
		if e := d.Cut("journal", len(m.recs)*sectorSize); e != api.OK {
			return nil, e
		}
	}
	if e := d.Sync("journal"); e != api.OK {
		return nil, e
	}
	return m, api.OK
}

func (m *model) add(r api.Rec) api.Errno {
	if r.Kind == 0 {
		return api.ErrArg
	}
	if len(m.recs) == most {
		return api.ErrMany
	}
	if e := m.d.Write("journal", len(m.recs)*sectorSize, sectorOf(uint32(len(m.recs)+1), r)); e != api.OK {
		return e
	}
	if e := m.d.Sync("journal"); e != api.OK {
		return e
	}
	m.recs = append(slices.Clone(m.recs), r)
	return api.OK
}

func (m *model) back(n int) api.Errno {
	if n < 0 || n > len(m.recs) {
		return api.ErrArg
	}
	if e := m.d.Cut("journal", n*sectorSize); e != api.OK {
		return e
	}
	if e := m.d.Sync("journal"); e != api.OK {
		return e
	}
	m.recs = slices.Clone(m.recs[:n])
	return api.OK
}

// pair is a disk with journals, and one to which the same is done by the model. Several journals that were opened once stand side by side.
type pair struct {
	d, other *disk.Disk
	journals [3]*journal.Journal
	models   [3]*model
}

// newPair is two disks without files.
func newPair(t *testing.T, quota int) *pair {
	t.Helper()
	return &pair{d: newDisk(t, quota), other: newDisk(t, quota)}
}

// both must have told the same error.
func both(t *testing.T, what string, got, want api.Errno) {
	t.Helper()
	if got != want {
		t.Fatalf("%s: %d; want %d", what, got, want)
	}
}

// random are numbers that are the same at each run.
type random uint64

// below is the next number, from 0 on and below n.
func (r *random) below(n int) int {
	*r = *r*6364136223846793005 + 1442695040888963407
	return int(uint64(*r) >> 33 % uint64(n))
}

// text are the next n bytes.
func (r *random) text(n int) []byte {
	b := make([]byte, n)
	for i := range b {
		b[i] = byte(r.below(256))
	}
	return b
}

// rec is the next record, seldom one that is none.
func (r *random) rec() api.Rec {
	return api.Rec{Kind: uint32(r.below(6)), A: uint32(r.below(1 << 31)), B: uint32(r.below(3))}
}

// file are the sectors of the next records, seldom all of them right, and begun behind so many.
func (r *random) file(behind, n int) []byte {
	var b []byte
	for i := range n {
		number := behind + i + 1
		if r.below(20) == 0 {
			number += r.below(3) - 1
		}
		b = append(b, sectorOf(uint32(number), r.rec())...)
	}
	return b
}

// step does one thing, whichever comes next, to both disks, and they must tell the same.
func (p *pair) step(t *testing.T, r *random) {
	t.Helper()
	i := r.below(len(p.journals))
	j, m := p.journals[i], p.models[i]
	switch r.below(12) {
	case 0, 1:
		p.open(t, i)
	case 2, 3, 4, 5:
		if rec := r.rec(); j != nil {
			both(t, "Add", j.Add(rec), m.add(rec))
		}
	case 6:
		if n := r.below(9) - 1; j != nil {
			both(t, "Back", j.Back(n), m.back(n))
		}
	case 7, 8:
		p.spoil(t, r)
	case 9:
		n := r.below(10)
		both(t, "Arm", p.d.Arm(n), p.other.Arm(n))
	case 10, 11:
		keep := []int{r.below(5), r.below(5), r.below(5), r.below(5)}[:r.below(5)]
		both(t, "On", p.d.On(keep), p.other.On(keep))
	}
}

// open opens a journal on both disks, and keeps it, if there is one.
func (p *pair) open(t *testing.T, i int) {
	t.Helper()
	j, e := journal.Open(p.d)
	m, want := openModel(p.other)
	both(t, "Open", e, want)
	if (j == nil) == (e == api.OK) {
		t.Fatalf("Open: %v, %d", j, e)
	}
	if j != nil {
		p.journals[i], p.models[i] = j, m
	}
}

// spoil does something to both disks that is not done through their journals.
func (p *pair) spoil(t *testing.T, r *random) {
	t.Helper()
	at := r.below(500)
	switch r.below(10) {
	case 0:
		both(t, "Remove", p.d.Remove("journal"), p.other.Remove("journal"))
	case 1:
		both(t, "Rename", p.d.Rename("journal", "a"), p.other.Rename("journal", "a"))
	case 2:
		both(t, "Rename", p.d.Rename("a", "journal"), p.other.Rename("a", "journal"))
	case 3:
		both(t, "Cut", p.d.Cut("journal", at), p.other.Cut("journal", at))
	case 4:
		both(t, "Flip", p.d.Flip("journal", at, 1<<(at%8)), p.other.Flip("journal", at, 1<<(at%8)))
	case 5:
		b := r.text(at % 100)
		both(t, "Write", p.d.Write("journal", at, b), p.other.Write("journal", at, b))
	case 6, 7: // what might have been added, but was not synced
		behind := r.below(5)
		b := r.file(behind, 1+r.below(4))
		both(t, "Write", p.d.Write("journal", behind*sectorSize, b), p.other.Write("journal", behind*sectorSize, b))
	case 8:
		n := r.below(12)
		both(t, "Quota", p.d.Quota(n), p.other.Quota(n))
	case 9:
		both(t, "Create", p.d.Create("journal"), p.other.Create("journal"))
	}
}

// isLike holds all that journals tell, and all that their disk tells, against the model.
func (p *pair) isLike(t *testing.T) {
	t.Helper()
	if !sameFiles(p.d.Files(), p.other.Files()) || !slices.Equal(p.d.Loose(), p.other.Loose()) || p.d.Dead() != p.other.Dead() {
		t.Fatal("the disk holds something else")
	}
	for i, j := range p.journals {
		if j != nil && !slices.Equal(j.Recs(), p.models[i].recs) {
			t.Fatalf("Recs: %v; want %v", j.Recs(), p.models[i].recs)
		}
	}
}

// sameFiles says whether files are the same, byte for byte.
func sameFiles(a, b []api.File) bool {
	return slices.EqualFunc(a, b, func(f, g api.File) bool { return f.Name == g.Name && bytes.Equal(f.Bytes, g.Bytes) })
}

func TestRowsOfCalls(t *testing.T) { // P9.1 to P9.5, R5
	for seed := range 600 {
		r := random(seed)
		p := newPair(t, 8)
		for range 200 {
			p.step(t, &r)
			p.isLike(t)
		}
	}
}
