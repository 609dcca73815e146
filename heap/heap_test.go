package heap_test

import (
	"cmp"
	"math"
	"slices"
	"testing"

	"milepost/api"
	"milepost/heap"
)

// The greatest key and number that there are.
const (
	topKey uint64 = math.MaxUint64
	topId  uint32 = math.MaxUint32
)

// keys and numbers rise: the least, small ones, those next to the places where a narrower or a signed kind would turn, the greatest.
var (
	keys    = []uint64{0, 1, 2, 255, 256, 1<<31 - 1, 1 << 31, 1<<32 - 1, 1 << 32, 1<<63 - 1, 1 << 63, 1<<63 + 1, topKey - 1, topKey}
	numbers = []uint32{0, 1, 2, 255, 256, 1<<16 - 1, 1 << 16, 1<<31 - 1, 1 << 31, topId - 1, topId}
)

// of is an item.
func of(key uint64, id uint32) api.Item { return api.Item{Key: key, Id: id} }

// compare is the order of the chapter's words: by key, and then by number.
func compare(a, b api.Item) int {
	return cmp.Or(cmp.Compare(a.Key, b.Key), cmp.Compare(a.Id, b.Id))
}

// inOrder are items as they must be popped.
func inOrder(l []api.Item) []api.Item {
	return slices.SortedFunc(slices.Values(l), compare)
}

// edges are items of all kinds of keys and numbers, none twice, rising.
func edges() []api.Item {
	var l []api.Item
	for _, k := range keys {
		for _, id := range numbers {
			l = append(l, of(k, id))
		}
	}
	return l
}

// mixed are n items in no order, some of them of one key, some like one another.
func mixed(n int) []api.Item {
	var l []api.Item
	x := uint64(n) + 1
	for range n {
		x = x*6364136223846793005 + 1442695040888963407
		l = append(l, of(x>>33%uint64(n/3+1), uint32(x>>50%5)))
	}
	return l
}

// push puts items into a heap, each of which must be taken.
func push(t *testing.T, h *heap.Heap, l ...api.Item) {
	t.Helper()
	for _, x := range l {
		before := h.Len()
		if e := h.Push(x); e != api.OK {
			t.Fatalf("Push of %v to %d items: %d", x, before, e)
		}
		if n := h.Len(); n != before+1 {
			t.Fatalf("Len behind Push of %v to %d items: %d", x, before, n)
		}
	}
}

// pop takes items out of a heap, which must be these, in this order.
func pop(t *testing.T, h *heap.Heap, want ...api.Item) {
	t.Helper()
	for i, w := range want {
		before := h.Len()
		if x, ok := h.Pop(); x != w || !ok {
			t.Fatalf("Pop number %d of %d items: %v, %v; want %v", i, before, x, ok, w)
		}
		if n := h.Len(); n != before-1 {
			t.Fatalf("Len behind Pop of %d items: %d", before, n)
		}
	}
}

// isEmpty asks a heap in which there must be nothing.
func isEmpty(t *testing.T, h *heap.Heap) {
	t.Helper()
	if n := h.Len(); n != 0 {
		t.Fatalf("Len of none: %d", n)
	}
	for range 3 {
		if x, ok := h.Pop(); x != (api.Item{}) || ok {
			t.Fatalf("Pop of none: %v, %v", x, ok)
		}
		if n := h.Len(); n != 0 {
			t.Fatalf("Len behind Pop of none: %d", n)
		}
	}
}

// through puts items into a new heap, and takes all out again.
func through(t *testing.T, l []api.Item) {
	t.Helper()
	h := heap.New()
	push(t, h, l...)
	pop(t, h, inOrder(l)...)
	isEmpty(t, h)
}

// full is a heap with Most items, and these.
func full(t *testing.T) (*heap.Heap, []api.Item) {
	t.Helper()
	h, l := heap.New(), mixed(heap.Most)
	push(t, h, l...)
	return h, l
}

// isFull asks a heap for more than there is room for, of all kinds.
func isFull(t *testing.T, h *heap.Heap) {
	t.Helper()
	for _, x := range []api.Item{{}, of(0, 1), of(1000, 2), of(topKey, 0), of(topKey, topId)} {
		if e := h.Push(x); e != api.ErrMany {
			t.Fatalf("Push of %v to Most items: %d", x, e)
		}
		if n := h.Len(); n != heap.Most {
			t.Fatalf("Len of Most items behind a Push of one more: %d", n)
		}
	}
}

func TestExamples(t *testing.T) { // P4.1, P4.2, P4.3
	h := heap.New()
	push(t, h, of(5, 1), of(3, 9), of(3, 2), of(5, 1))
	pop(t, h, of(3, 2), of(3, 9), of(5, 1), of(5, 1))
	isEmpty(t, h)
	isEmpty(t, heap.New())
	var none *heap.Heap
	if e := none.Push(of(5, 1)); e != api.ErrNil {
		t.Errorf("Push of no heap: %d", e)
	}
}

func TestMostIs(t *testing.T) { // Most
	if heap.Most != 65536 {
		t.Errorf("Most is %d", heap.Most)
	}
}

func TestNewHasNothing(t *testing.T) { // P4.1
	for range 3 {
		h := heap.New()
		if h == nil {
			t.Fatal("New: no heap")
		}
		isEmpty(t, h)
		push(t, h, of(1, 1)) // which the next one must not have
	}
}

func TestPushOne(t *testing.T) { // P4.1, P4.2
	for _, x := range edges() {
		through(t, []api.Item{x})
	}
}

func TestPushTheZeroItem(t *testing.T) { // P4.1, P4.2: an item like any other, told by true
	through(t, []api.Item{{}})
	through(t, []api.Item{{}, {}, {}})
	through(t, []api.Item{of(0, 1), {}, of(1, 0), {}})
}

func TestPushLikeOneAnother(t *testing.T) { // P4.1
	for _, x := range []api.Item{{}, of(5, 1), of(topKey, topId)} {
		for n := range 40 {
			through(t, slices.Repeat([]api.Item{x}, n))
		}
	}
	h := heap.New()
	push(t, h, of(5, 1), of(5, 1))
	pop(t, h, of(5, 1))
	push(t, h, of(5, 1), of(5, 1)) // like one that is there, and like one that is gone
	pop(t, h, of(5, 1), of(5, 1), of(5, 1))
	isEmpty(t, h)
}

func TestPopLeastKey(t *testing.T) { // P4.2
	for i, least := range keys {
		for _, more := range keys[i+1:] {
			// Whatever the numbers say.
			through(t, []api.Item{of(least, 7), of(more, 7)})
			through(t, []api.Item{of(more, 0), of(least, topId)})
			through(t, []api.Item{of(least, topId), of(more, 0)})
		}
	}
}

func TestPopLeastNumber(t *testing.T) { // P4.2
	for _, k := range keys {
		for i, least := range numbers {
			for _, more := range numbers[i+1:] {
				through(t, []api.Item{of(k, least), of(k, more)})
				through(t, []api.Item{of(k, more), of(k, least)})
			}
		}
	}
}

func TestPopOneKeySeveralNumbers(t *testing.T) { // P4.2
	for _, k := range []uint64{0, 3, 1 << 63, topKey} {
		h := heap.New()
		for i := range uint32(100) {
			push(t, h, of(k, i*37%100))
		}
		for i := range uint32(100) {
			pop(t, h, of(k, i))
		}
		isEmpty(t, h)
	}
}

func TestPopLeastAndGreatest(t *testing.T) { // P4.2
	through(t, []api.Item{of(topKey, topId), of(topKey, 0), of(0, topId), of(0, 0)})
	l := edges()
	through(t, l)
	slices.Reverse(l)
	through(t, l)
	for _, step := range []int{3, 13, 45, 101} { // so many places on, again and again
		var all []api.Item
		for i := range l {
			all = append(all, l[i*step%len(l)])
		}
		through(t, all)
	}
}

func TestPopOfNone(t *testing.T) { // P4.2
	h := heap.New()
	isEmpty(t, h)
	push(t, h, of(2, 2)) // what was asked of none is not owed
	pop(t, h, of(2, 2))
	isEmpty(t, h)
	push(t, h, of(9, 9), of(1, 1))
	pop(t, h, of(1, 1), of(9, 9))
	isEmpty(t, h)
}

func TestEmptyAgain(t *testing.T) { // P4.1, P4.2, P4.3
	h := heap.New()
	for n := range 60 {
		l := mixed(n)
		push(t, h, l...)
		pop(t, h, inOrder(l)...)
		isEmpty(t, h)
	}
	push(t, h, of(topKey, topId)) // it is not held against what was popped
	pop(t, h, of(topKey, topId))
	push(t, h, of(0, 0))
	pop(t, h, of(0, 0))
	isEmpty(t, h)
}

func TestLen(t *testing.T) { // P4.3
	h := heap.New()
	for n := range 300 {
		if got := h.Len(); got != n {
			t.Fatalf("Len of %d items: %d", n, got)
		}
		h.Push(of(uint64(n%7), uint32(n%3)))
	}
	for n := 300; n > 0; n-- {
		if got := h.Len(); got != n || h.Len() != got {
			t.Fatalf("Len of %d items: %d", n, got)
		}
		h.Pop()
	}
	isEmpty(t, h)
}

func TestMost(t *testing.T) { // P4.1, P4.3
	h, l := full(t)
	isFull(t, h)
	pop(t, h, inOrder(l)...) // what was refused is not among them, and nothing else has gone
	isEmpty(t, h)
}

func TestMostThenOneLess(t *testing.T) { // P4.1
	h, l := full(t)
	l = inOrder(l)
	for range 3 {
		isFull(t, h)
		pop(t, h, l[0])
		push(t, h, of(topKey, topId))
		l = append(l[1:], of(topKey, topId))
	}
	isFull(t, h)
	pop(t, h, l[0])
	push(t, h, of(0, 0))
	isFull(t, h)
	pop(t, h, of(0, 0))
	pop(t, h, l[1:]...)
	isEmpty(t, h)
}

func TestMostAtATimeOnly(t *testing.T) { // P4.1: not of all that were ever pushed
	h, l := full(t)
	pop(t, h, inOrder(l)...)
	isEmpty(t, h)
	push(t, h, l...)
	isFull(t, h)
	pop(t, h, inOrder(l)...)
	isEmpty(t, h)
	for i := range heap.Most + 10 {
		x := of(uint64(heap.Most-i%heap.Most), uint32(i))
		push(t, h, x)
		pop(t, h, x)
	}
	isEmpty(t, h)
}

func TestMostLikeOneAnother(t *testing.T) { // P4.1
	h := heap.New()
	l := slices.Repeat([]api.Item{of(topKey, 0)}, heap.Most)
	push(t, h, l...)
	isFull(t, h)
	pop(t, h, l...)
	isEmpty(t, h)
}

func TestNoHeap(t *testing.T) { // P4.1, P4.2, P4.3
	var none *heap.Heap
	for _, x := range []api.Item{{}, of(5, 1), of(topKey, topId)} {
		if e := none.Push(x); e != api.ErrNil {
			t.Errorf("Push of no heap: %d", e)
		}
		if n := none.Len(); n != 0 {
			t.Errorf("Len of no heap: %d", n)
		}
		if got, ok := none.Pop(); got != (api.Item{}) || ok {
			t.Errorf("Pop of no heap: %v, %v", got, ok)
		}
	}
}

func TestTwoHeaps(t *testing.T) { // P4.1, R5
	one, two := heap.New(), heap.New()
	push(t, one, of(5, 1), of(3, 9))
	isEmpty(t, two)
	push(t, two, of(4, 4))
	push(t, one, of(3, 2))
	push(t, two, of(3, 2), of(0, 0))
	pop(t, one, of(3, 2))
	pop(t, two, of(0, 0), of(3, 2))
	push(t, two, of(1, 1))
	pop(t, one, of(3, 9), of(5, 1))
	isEmpty(t, one)
	pop(t, two, of(1, 1), of(4, 4))
	isEmpty(t, two)
}

func TestTwoHeapsByTurns(t *testing.T) { // P4.1, P4.2, R5
	one, two := heap.New(), heap.New()
	l := mixed(500)
	var other []api.Item
	for _, x := range l {
		y := of(topKey-x.Key, x.Id)
		other = append(other, y)
		push(t, one, x)
		push(t, two, y)
	}
	l, other = inOrder(l), inOrder(other)
	for i := range l {
		pop(t, one, l[i])
		pop(t, two, other[i])
	}
	isEmpty(t, one)
	isEmpty(t, two)
}

func TestTwoHeapsOneOfThemFull(t *testing.T) { // P4.1
	one, l := full(t)
	two := heap.New()
	isEmpty(t, two)
	push(t, two, of(2, 2), of(1, 1))
	isFull(t, one)
	pop(t, two, of(1, 1))
	isFull(t, one) // there is room in the other one alone
	pop(t, two, of(2, 2))
	isEmpty(t, two)
	pop(t, one, inOrder(l)...)
	isEmpty(t, one)
}

// everyOrder calls with l in each order that there is.
func everyOrder(l []api.Item, call func(l []api.Item)) {
	var from func(i int)
	from = func(i int) {
		if i == len(l) {
			call(l)
			return
		}
		for j := i; j < len(l); j++ {
			l[i], l[j] = l[j], l[i]
			from(i + 1)
			l[i], l[j] = l[j], l[i]
		}
	}
	from(0)
}

func TestWhatIsPushedIsPoppedInOrder(t *testing.T) { // What follows
	for _, l := range [][]api.Item{
		{of(1, 0), of(2, 0), of(3, 0), of(4, 0), of(5, 0), of(6, 0), of(7, 0)},
		{of(3, 1), of(3, 2), of(3, 3), of(3, 4), of(3, 5), of(3, 6)},
		{of(0, 0), of(0, topId), of(1, 0), of(topKey, 0), of(topKey, topId), of(topKey, topId)},
		{of(3, 2), of(3, 2), of(3, 2), of(5, 1), of(5, 1), of(5, 2)},
	} {
		everyOrder(slices.Clone(l), func(l []api.Item) { through(t, l) })
	}
}

func TestAsManyAsThereMayBe(t *testing.T) { // What follows
	for n := range 130 { // a row that is full, and one that is not
		l := mixed(n)
		through(t, l)
		l = inOrder(l)
		through(t, l)
		slices.Reverse(l)
		through(t, l)
	}
}

// byTurns does n times as what says, of what is there: a Push, or a Pop, and holds a heap against a list that is looked through.
func byTurns(t *testing.T, n int, isPush func(i, there int) bool) {
	t.Helper()
	h := heap.New()
	var there []api.Item
	for i, x := range mixed(n) {
		if isPush(i, len(there)) {
			push(t, h, x)
			there = append(there, x)
			continue
		}
		if len(there) == 0 {
			isEmpty(t, h)
			continue
		}
		got, ok := h.Pop()
		at := slices.Index(there, got)
		if !ok || at < 0 {
			t.Fatalf("Pop number %d: %v, %v: that is not there", i, got, ok)
		}
		there = slices.Delete(there, at, at+1)
		for _, y := range there {
			if compare(got, y) > 0 {
				t.Fatalf("Pop number %d: %v, while %v is still there", i, got, y)
			}
		}
		if h.Len() != len(there) {
			t.Fatalf("Len: %d; want %d", h.Len(), len(there))
		}
	}
	pop(t, h, inOrder(there)...)
	isEmpty(t, h)
}

func TestWhatIsPoppedIsNeverGreater(t *testing.T) { // What follows
	byTurns(t, 2000, func(i, there int) bool { return i%3 > 0 })
	byTurns(t, 2000, func(i, there int) bool { return i%2 == 0 })
	byTurns(t, 2000, func(i, there int) bool { return i%5 < 2 })
	byTurns(t, 2000, func(i, there int) bool { return i/40%2 == 0 })
	byTurns(t, 2000, func(i, there int) bool { return there < 100 || i%7 == 0 })
}

func TestAnswersHangOnWhatIsThere(t *testing.T) { // R5
	l := mixed(200)
	one, two := heap.New(), heap.New()
	push(t, one, l...)
	for _, x := range slices.Backward(l) { // the same items, by another way
		push(t, two, of(0, 0), x, of(0, 0))
		pop(t, two, of(0, 0), of(0, 0))
	}
	for range l {
		x, is := one.Pop()
		y, too := two.Pop()
		if x != y || is != too {
			t.Fatalf("Pop of the same items: %v, %v, and %v, %v", x, is, y, too)
		}
	}
	isEmpty(t, one)
	isEmpty(t, two)
}
