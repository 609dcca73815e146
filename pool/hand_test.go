package pool_test

import (
	"fmt"
	"slices"
	"strings"
	"testing"

	"milepost/api"
	"milepost/pool"
)

// doOne does what a text says with a page of the file "a": r0 reads page 0, w0 writes it, p0 pins and u0 unpins it. With a ! behind it must be refused, as all frames are pinned.
func doOne(t *testing.T, p *pool.Pool, what string) {
	t.Helper()
	k, want := int(what[1]-'0'), api.OK
	if strings.HasSuffix(what, "!") {
		want = api.ErrPins
	}
	var e api.Errno
	switch what[0] {
	case 'r':
		_, e = p.Read("a", k)
	case 'w':
		e = p.Write("a", k, textOf("a", k))
	case 'p':
		_, e = p.Pin("a", k)
	case 'u':
		e = p.Unpin("a", k)
	}
	if e != want {
		t.Fatalf("%s: %d; want %d", what, e, want)
	}
}

// pagesOf are the pages of a text of digits.
func pagesOf(text string) []int {
	var l []int
	for i := range len(text) {
		l = append(l, int(text[i]-'0'))
	}
	return l
}

// isRow asks a pool of so many frames, over a file of ten pages that last, row by row; each says what to do and, behind a blank, which pages frames hold then. As that can't be told without being used, each beginning of the rows has a pool of its own.
func isRow(t *testing.T, frames int, rows ...string) {
	t.Helper()
	for end := range rows {
		_, p := laid(t, frames, 10)
		for _, row := range rows[:end+1] {
			what, _, _ := strings.Cut(row, " ")
			doOne(t, p, what)
		}
		_, want, _ := strings.Cut(rows[end], " ")
		if got := heldBy(p); !slices.Equal(got, places("a", pagesOf(want)...)) {
			t.Fatalf("behind %q: frames hold %v", rows[:end+1], got)
		}
	}
}

// Words: to take a frame.

func TestTheHandGoesRound(t *testing.T) { // frame by frame, and behind the last one comes frame 0
	isRow(t, 1, "r0 0", "r1 1", "r2 2", "r2 2", "r0 0")
	isRow(t, 2, "r0 0", "r1 01", "r2 12", "r3 23", "r4 34", "r5 45", "r6 56")
	isRow(t, 3, "r0 0", "r1 01", "r2 012", "r3 123", "r4 234", "r5 345", "r6 456", "r7 567", "r8 678", "r9 789")
	isRow(t, 4, "r0 0", "r1 01", "r2 012", "r3 0123", "r4 1234", "r5 2345", "r6 3456", "r7 4567", "r8 5678", "r9 6789")
}

func TestUsedPagesArePassedOnce(t *testing.T) { // by Read, Write and Pin alike
	for _, use := range []string{"r", "w", "p"} {
		rows := []string{"r0 0", "r1 01", "r2 012", "r3 123", use + "1 123"}
		if use == "p" {
			rows = append(rows, "u1 123") // it is used still
		}
		// The hand stands at page 1, which was used: page 2 goes. Then page 3, which was read, is passed, and page 1, which was passed, goes.
		isRow(t, 3, append(rows, "r4 134", "r5 345", "r6 456")...)
	}
	isRow(t, 3, "r0 0", "r1 01", "r2 012", "r3 123", "r1 123", "r2 123", "r4 234")                     // all were used: once round, and then the first one
	isRow(t, 3, "r0 0", "r1 01", "r2 012", "r3 123", "r2 123", "r4 234", "r5 345", "r6 456")           // page 2 was used, but the hand is not there yet
	isRow(t, 3, "r0 0", "r1 01", "r2 012", "r3 123", "r2 123", "r1 123", "r4 234", "r3 234", "r5 345") // page 2 was passed, so that it goes
}

func TestAPageThatIsReadAgainInTimeStays(t *testing.T) { // however many others go by
	isRow(t, 3, "r0 0", "r1 01", "r2 012", "r3 123", "r1 123", "r4 134", "r1 134", "r5 145", "r1 145", "r6 156", "r1 156", "r7 167", "r1 167", "r8 178")
	isRow(t, 2, "r0 0", "r1 01", "r2 12", "r1 12", "r3 23") // but where all were used it is as if none was
}

func TestPinnedPagesArePassed(t *testing.T) { // at each place
	isRow(t, 3, "p0 0", "r1 01", "r2 012", "r3 023", "r4 034", "r5 045", "r6 056")
	isRow(t, 3, "r0 0", "p1 01", "r2 012", "r3 123", "r4 134", "r5 145", "r6 156")
	isRow(t, 3, "r0 0", "r1 01", "p2 012", "r3 123", "r4 234", "r5 245", "r6 256")
	isRow(t, 3, "p0 0", "p1 01", "r2 012", "r3 013", "r4 014", "r5 015")
	isRow(t, 3, "p0 0", "r1 01", "p2 012", "r3 023", "r4 024", "r5 025")
	isRow(t, 3, "r0 0", "p1 01", "p2 012", "r3 123", "r4 124", "r5 125")
}

func TestPinnedPagesThatWerePassedAreUsedStill(t *testing.T) { // the hand passes them, and says nothing of it
	// The hand passes page 0, goes to page 1 the second time round, and then to page 2.
	isRow(t, 3, "p0 0", "r1 01", "r2 012", "r3 023", "u0 023", "r4 034", "r5 345", "r3 345", "r6 356")
}

func TestTheHandBehindErrPins(t *testing.T) { // it stands where it stood, at each place, and what was used is so still
	for n := 1; n <= 5; n++ {
		for hand := range n {
			_, p := laid(t, n, 3*n+3)
			read(t, p, "a", upTo(n+hand)...)
			inFrames := append(from(n, n+hand), from(hand, n)...) // by the frames' numbers
			if hand == 0 {
				inFrames = upTo(n)
			}
			pin(t, p, "a", inFrames...)
			for range 3 {
				isRefused(t, p, "a", 3*n, api.ErrPins)
				is(t, "Write", p.Write("a", 3*n+1, nil), api.ErrPins)
			}
			unpin(t, p, "a", inFrames...)
			read(t, p, "a", 3*n)
			want := slices.Delete(slices.Clone(inFrames), hand, hand+1)
			slices.Sort(want)
			holds(t, p, places("a", append(want, 3*n)...)...)
		}
	}
}

func TestTheOneThatIsNotPinnedGoes(t *testing.T) { // wherever the hand stands, and used or not
	for n := 2; n <= 5; n++ {
		for hand := range n {
			for free := range n {
				_, p := laid(t, n, 3*n+3)
				read(t, p, "a", upTo(n+hand)...)
				inFrames := append(from(n, n+hand), from(hand, n)...)
				pin(t, p, "a", inFrames...)
				unpin(t, p, "a", inFrames[free])
				read(t, p, "a", 3*n)
				want := slices.Delete(slices.Clone(inFrames), free, free+1)
				slices.Sort(want)
				read(t, p, "a", want...)
				holds(t, p, places("a", append(want, 3*n)...)...)
			}
		}
	}
}

// fileEach is a pool of n frames, each of which holds page 0 of a file of its own, "f" and the frame's number; there is a file "a" of ten pages.
func fileEach(t *testing.T, n int) *pool.Pool {
	t.Helper()
	d, p := laid(t, n, 10)
	for i := range n {
		name := fmt.Sprint("f", i)
		lay(t, d, name, 1)
		read(t, p, name, 0)
	}
	return p
}

func TestTheLowestEmptyFrameIsTaken(t *testing.T) { // in whatever order they became empty
	for _, dropped := range [][]int{{0}, {3}, {1, 2}, {2, 1}, {3, 0}, {0, 3}, {2, 0, 3}, {3, 2, 1, 0}, {1, 3, 0, 2}} {
		for out := range 4 { // so many pages go, from frame 0 on, as the hand stands there and all were used
			p := fileEach(t, 4)
			for _, i := range dropped {
				fine(t, p.Drop(fmt.Sprint("f", i)))
			}
			isHeld(t, p, 4-len(dropped), 0, 0)
			inFrames := []api.Place{at("f0", 0), at("f1", 0), at("f2", 0), at("f3", 0)}
			for k, i := range slices.Sorted(slices.Values(dropped)) {
				read(t, p, "a", k)
				isHeld(t, p, 4-len(dropped)+k+1, 0, 0)
				inFrames[i] = at("a", k)
			}
			for i := range out + 1 {
				read(t, p, "a", 5+i)
				inFrames[i] = at("a", 5+i)
			}
			holds(t, p, inOrder(inFrames)...)
		}
	}
}

func TestEmptyFramesComeAheadOfTheHand(t *testing.T) { // wherever it stands, and it stands there still
	for n := 2; n <= 4; n++ {
		for hand := range n {
			for hole := range n {
				p := fileEach(t, n)
				inFrames := make([]api.Place, n)
				for i := range n {
					inFrames[i] = at(fmt.Sprint("f", i), 0)
				}
				for i := range hand { // each takes the frame at which the hand stands
					name := fmt.Sprint("g", i)
					lay(t, p.Disk(), name, 1)
					read(t, p, name, 0)
					inFrames[i] = at(name, 0)
				}
				fine(t, p.Drop(inFrames[hole].Name))
				read(t, p, "a", 0)
				inFrames[hole] = at("a", 0)
				isHeld(t, p, n, 0, 0)
				read(t, p, "a", 1)
				out := hand
				if hole == hand && 0 < hand && hand < n-1 {
					out++ // what came into the hole was used, the next one was not since it was passed
				}
				inFrames[out] = at("a", 1)
				holds(t, p, inOrder(inFrames)...)
			}
		}
	}
}

// inOrder are places by their names, then by their numbers.
func inOrder(l []api.Place) []api.Place {
	return slices.SortedFunc(slices.Values(l), func(a, b api.Place) int {
		if a.Name != b.Name {
			return strings.Compare(a.Name, b.Name)
		}
		return a.Page - b.Page
	})
}

func TestTheHandBehindAWriteThatFails(t *testing.T) { // it stands at that frame, and what it passed is not used any more
	d, p := laid(t, 3, 0)
	lay(t, d, "b", 3)
	write(t, p, "a", 0, 1, 2)
	fine(t, d.Quota(d.Used()))
	isUnchanged(t, p, "a write that fails", func() { isRefused(t, p, "b", 0, api.ErrFull) }) // all were passed; the hand stands at page 0
	read(t, p, "a", 0)
	isUnchanged(t, p, "a write that fails", func() { isRefused(t, p, "b", 0, api.ErrFull) }) // page 0 was passed; the hand stands at page 1
	fine(t, d.Quota(1000))
	read(t, p, "b", 0)
	isHeld(t, p, 3, 0, 1)
	lies(t, d, "a", textsOf("a", 2)...)
	read(t, p, "b", 1) // page 2 was not used since it was passed, so that it goes; had the hand stood at page 0, that would have gone
	isHeld(t, p, 3, 0, 0)
	lies(t, d, "a", textsOf("a", 3)...)
	holds(t, p, at("a", 0), at("b", 0), at("b", 1))
}

func TestAWriteThatFailsBehindLowerPages(t *testing.T) { // those that went ahead are not dirty, and the hand stands at the frame that was to be taken
	d, p := laid(t, 3, 0)
	lay(t, d, "b", 3)
	write(t, p, "a", 0, 1, 2)
	pin(t, p, "a", 0)
	fine(t, d.Quota(d.Used()+4))
	isRefused(t, p, "b", 0, api.ErrFull)
	lies(t, d, "a", textOf("a", 0))
	isHeld(t, p, 3, 1, 2)
	isRefused(t, p, "b", 0, api.ErrFull)
	isHeld(t, p, 3, 1, 2)
	isPages(t, p, "a", 3)
	unpin(t, p, "a", 0)
	fine(t, d.Quota(1000))
	read(t, p, "b", 0) // page 1 goes, not page 0, which is pinned no more
	isHeld(t, p, 3, 0, 1)
	lies(t, d, "a", textsOf("a", 2)...)
	holds(t, p, at("a", 0), at("a", 2), at("b", 0))
}

func TestWriteThatFindsNoFrameChangesNothing(t *testing.T) { // P10.4: its error is that of the frame that should go
	d, p := laid(t, 2, 0)
	lay(t, d, "b", 2)
	write(t, p, "a", 0, 1)
	fine(t, d.Quota(d.Used()))
	isUnchanged(t, p, "a write that fails", func() {
		is(t, "Write", p.Write("a", 2, []byte{1}), api.ErrFull)
		is(t, "Write", p.Write("b", 0, []byte{1}), api.ErrFull)
	})
	isPages(t, p, "a", 2)
	write(t, p, "a", 0, 1)
	fine(t, d.Quota(1000))
	read(t, p, "b", 0)
	read(t, p, "a", 0, 1)
}

// State by state.

// shape is what is known of a pool's frames, all of them full, but for which pages they hold.
func shape(m *model) string {
	b := []byte{byte('0' + m.hand)}
	for _, s := range m.slots {
		b = append(b, "ux"[boolOf(s.used)], "-p"[boolOf(s.pins > 0)], "-d"[boolOf(s.dirty)])
	}
	return string(b)
}

// boolOf is 1 of what is so.
func boolOf(is bool) int {
	if is {
		return 1
	}
	return 0
}

// statePages is how many pages a file has in the tests of states.
const statePages = 8

// begun is a pool of n frames, and the model of it, whose frames are full; then calls are made.
func begun(t *testing.T, n int, calls []call) pair {
	t.Helper()
	p := newPair(t, 1000, n)
	lay(t, p.d, "a", statePages)
	lay(t, p.other, "a", statePages)
	for k := range n {
		p.ask(t, call{what: "Read", name: "a", k: k})
	}
	for _, c := range calls {
		p.askOrFail(t, c)
	}
	return p
}

// askOrFail asks both; of Fail it is a Read at which the power goes, if something is written back for it.
func (p pair) askOrFail(t *testing.T, c call) {
	t.Helper()
	if c.what != "Fail" {
		p.ask(t, c)
		return
	}
	c.what = "Read"
	p.arm(t, 1)
	p.ask(t, c)
	if p.d.Dead() {
		p.on(t, upTo(99)...)
	}
	p.arm(t, 0)
}

// newPage is the lowest page that no frame holds.
func newPage(m *model) int {
	k := 0
	for m.at("a", k) >= 0 {
		k++
	}
	return k
}

// nextCalls are the calls that may lead to another state.
func nextCalls(m *model) []call {
	l := []call{{what: "Read", name: "a", k: newPage(m)}, {what: "Fail", name: "a", k: newPage(m)}, {what: "Flush", name: "a"}}
	for _, s := range m.slots {
		l = append(l, call{what: "Read", name: "a", k: s.page}, call{what: "Write", name: "a", k: s.page, text: []byte{byte(s.page)}})
		if s.pins == 0 {
			l = append(l, call{what: "Pin", name: "a", k: s.page})
		} else {
			l = append(l, call{what: "Unpin", name: "a", k: s.page})
		}
	}
	return l
}

// states are calls that lead to each state of n frames that can be come to.
func states(t *testing.T, n int) map[string][]call {
	t.Helper()
	known := map[string][]call{shape(begun(t, n, nil).m): nil}
	for work := [][]call{nil}; len(work) > 0; work = work[1:] {
		for _, c := range nextCalls(begun(t, n, work[0]).m) {
			calls := append(slices.Clone(work[0]), c)
			p := begun(t, n, calls)
			if _, there := known[shape(p.m)]; !there {
				known[shape(p.m)] = calls
				work = append(work, calls)
			}
		}
	}
	return known
}

// goes is which frame is to be taken, told otherwise than by going round: from the hand on the first one that is neither pinned nor used, else the first one that is not pinned, else -1.
func goes(m *model) int {
	n, second := len(m.slots), -1
	for i := range n {
		s := m.slots[(m.hand+i)%n]
		if s.pins == 0 && !s.used {
			return (m.hand + i) % n
		}
		if s.pins == 0 && second < 0 {
			second = (m.hand + i) % n
		}
	}
	return second
}

// isTaken says that in this state the frame must be taken that goes says, for a page that no frame holds.
func isTaken(t *testing.T, n int, calls []call, what string, k int) {
	t.Helper()
	p := begun(t, n, calls)
	out := goes(p.m)
	_, _, dirty := p.p.Held()
	var want []api.Place
	for i, s := range p.m.slots {
		switch {
		case i != out:
			want = append(want, at("a", s.page))
		case s.dirty:
			dirty--
		}
	}
	a := p.ask(t, call{what: what, name: "a", k: k, text: []byte{1}})
	switch {
	case out < 0:
		is(t, what, a.e, api.ErrPins)
	default:
		is(t, what, a.e, api.OK)
		want = append(want, at("a", k))
		dirty += boolOf(what == "Write")
	}
	if x, _, z := p.p.Held(); x != n || z != dirty {
		t.Fatalf("%v, %s: %d held, %d dirty; want %d, %d", calls, what, x, z, n, dirty)
	}
	p.isLike(t)
	holds(t, p.p, inOrder(want)...)
}

// goesOn says that behind a call in this state all that comes must be as in the model: where the hand stands, and what was used, is told by which pages go.
func goesOn(t *testing.T, n int, calls []call, what string, k int) {
	t.Helper()
	p := begun(t, n, calls)
	p.askOrFail(t, call{what: what, name: "a", k: k, text: []byte{1}})
	p.isLike(t)
	for i := range statePages {
		p.ask(t, call{what: "Read", name: "a", k: (k + 1 + i) % statePages})
		p.isLike(t)
	}
	p.holdsLike(t)
}

// withoutDirty are states as if nothing told which frames are dirty: each frame is not used, or used, or pinned, which is used too, as the hand leaves it so.
func withoutDirty(all map[string][]call) map[string]int {
	l := map[string]int{}
	for s := range all {
		l[strings.ReplaceAll(s, "d", "-")]++
	}
	return l
}

func TestEveryStateOfTheHand(t *testing.T) { // Words: at every place of the hand, with each set of pages used, pinned and dirty
	for n := 1; n <= 3; n++ {
		all := states(t, n)
		if got, want := len(withoutDirty(all)), n*[]int{1, 3, 9, 27}[n]; got != want {
			t.Errorf("%d frames: %d states; want %d", n, got, want)
		}
		for _, calls := range all {
			k := newPage(begun(t, n, calls).m)
			isTaken(t, n, calls, "Read", k)
			isTaken(t, n, calls, "Pin", k)
			isTaken(t, n, calls, "Write", statePages)
			for _, what := range []string{"Read", "Pin", "Write", "Fail"} {
				goesOn(t, n, calls, what, k)
			}
		}
	}
}
