package weight_test

import (
	"math"
	"math/big"
	"slices"
	"testing"

	"milepost/api"
	"milepost/weight"
)

// far is Far as a weight; greatest is what is greater than all others.
const (
	far      uint64 = weight.Far
	greatest uint64 = math.MaxUint64
)

// bigFar is 2^63, not told by the package.
var bigFar = new(big.Int).Lsh(big.NewInt(1), 63)

// weights are of all kinds: none, small ones, those next to each power of two, those next to Far and its parts, the greatest.
func weights() []uint64 {
	ws := []uint64{0, 1, 2, 3, 5, 7, 10, 100, far / 3, far/3 + 1, far/2 - 1, far / 2, far/2 + 1, far - 2, far - 1, far, far + 1, far + 2, greatest - 1, greatest}
	for i := range 64 {
		ws = append(ws, 1<<i-1, 1<<i, 1<<i+1)
	}
	return ws
}

// counts are numbers of times: none, small ones, those next to each power of two, the greatest number of vertices, the greatest of all.
func counts() []uint32 {
	ns := []uint32{0, 1, 2, 3, 5, 6, 7, 10, 1000, 641, 6700417, api.MaxN - 1, api.MaxN, math.MaxUint32 - 1, math.MaxUint32}
	for i := range 32 {
		ns = append(ns, 1<<i-1, 1<<i, 1<<i+1)
	}
	return ns
}

// bigOf is a number that does not wrap.
func bigOf(x uint64) *big.Int { return new(big.Int).SetUint64(x) }

// wantAdd is what P3.1 says of a sum, done without an end.
func wantAdd(a, b uint64) (uint64, bool) {
	sum := new(big.Int).Add(bigOf(a), bigOf(b))
	if sum.Cmp(bigFar) >= 0 {
		return 0, false
	}
	return sum.Uint64(), true
}

// wantFits is what P3.2 says of a product, done without an end.
func wantFits(n uint32, most uint64) bool {
	return new(big.Int).Mul(bigOf(uint64(n)), bigOf(most)).Cmp(bigFar) < 0
}

// checkAdd asks for a sum, both ways round.
func checkAdd(t *testing.T, a, b, want uint64, ok bool) {
	t.Helper()
	if got, is := weight.Add(a, b); got != want || is != ok {
		t.Errorf("Add of %d and %d: %d, %v; want %d, %v", a, b, got, is, want, ok)
	}
	if got, is := weight.Add(b, a); got != want || is != ok {
		t.Errorf("Add of %d and %d: %d, %v; want %d, %v", b, a, got, is, want, ok)
	}
}

// checkFits asks whether a product is below Far.
func checkFits(t *testing.T, n uint32, most uint64, want bool) {
	t.Helper()
	if got := weight.Fits(n, most); got != want {
		t.Errorf("Fits of %d times %d: %v", n, most, got)
	}
}

func TestFar(t *testing.T) { // Words
	if far != 1<<63 || bigOf(far).Cmp(bigFar) != 0 {
		t.Errorf("Far is %d", far)
	}
}

func TestAddExamples(t *testing.T) { // P3.1
	checkAdd(t, 1, 2, 3, true)
	checkAdd(t, 1<<63-1, 0, 1<<63-1, true)
	checkAdd(t, 1<<63-1, 1, 0, false)
	checkAdd(t, 1<<64-1, 1, 0, false)
}

func TestAddNoWeight(t *testing.T) { // P3.1
	checkAdd(t, 0, 0, 0, true)
	for _, a := range weights() {
		if a < far {
			checkAdd(t, a, 0, a, true)
		} else {
			checkAdd(t, a, 0, 0, false)
		}
	}
}

func TestAddNextToFar(t *testing.T) { // P3.1
	for _, a := range weights() {
		if a >= far {
			continue
		}
		checkAdd(t, a, far-1-a, far-1, true) // just below
		checkAdd(t, a, far-a, 0, false)      // at it
		checkAdd(t, a, far-a+1, 0, false)    // just above
		if a > 0 {
			checkAdd(t, a-1, far-1-a, far-2, true)
		}
	}
}

func TestAddThatWraps(t *testing.T) { // P3.1
	for _, a := range weights() {
		if a == 0 {
			continue
		}
		for _, low := range []uint64{0, 1, 2, far - 1, far, greatest} { // the sum modulo 2^64
			if b := low - a; low < a { // so a + b is 2^64 more
				checkAdd(t, a, b, 0, false)
			}
		}
	}
	checkAdd(t, far, far, 0, false) // 2^64: 0
	checkAdd(t, far, far+1, 0, false)
	checkAdd(t, far+1, greatest, 0, false)
	checkAdd(t, greatest, greatest, 0, false) // 2^65 - 2: the greatest but one
	checkAdd(t, greatest, 2, 0, false)
}

func TestAddAll(t *testing.T) { // P3.1
	for _, a := range weights() {
		for _, b := range weights() {
			want, ok := wantAdd(a, b)
			checkAdd(t, a, b, want, ok)
		}
	}
}

func TestFitsExamples(t *testing.T) { // P3.2
	checkFits(t, 0, 1<<64-1, true)
	checkFits(t, 1, 1<<63-1, true)
	checkFits(t, 1, 1<<63, false)
	checkFits(t, 1<<31-1, 1<<32, true)
	checkFits(t, 1<<31-1, 1<<33, false)
}

func TestFitsNoTimesAndNoWeight(t *testing.T) { // P3.2
	for _, most := range weights() {
		checkFits(t, 0, most, true)
	}
	for _, n := range counts() {
		checkFits(t, n, 0, true)
	}
}

func TestFitsOnce(t *testing.T) { // P3.2
	for _, most := range weights() {
		checkFits(t, 1, most, most < far)
	}
}

func TestFitsNextToFar(t *testing.T) { // P3.2
	for _, n := range counts() {
		if n == 0 {
			continue
		}
		top := (far - 1) / uint64(n) // the greatest weight whose product is below
		checkFits(t, n, top, true)
		checkFits(t, n, top+1, false)
		checkFits(t, n, top+2, false)
		if top > 0 {
			checkFits(t, n, top-1, true)
		}
	}
	for i := range 32 {
		checkFits(t, 1<<i, far>>i-1, true)
		checkFits(t, 1<<i, far>>i, false) // at Far itself
		checkFits(t, 1<<i, far>>i+1, false)
	}
	checkFits(t, 7, far/7, true) // 7 times that is 2^63 - 1, as 2^63 is 1 modulo 7
	checkFits(t, 7, far/7+1, false)
}

func TestFitsThatWraps(t *testing.T) { // P3.2
	checkFits(t, 2, far, false) // 2^64: 0
	checkFits(t, 2, far+1, false)
	checkFits(t, 4, 1<<62, false)
	checkFits(t, 1<<31, 1<<33, false)
	checkFits(t, 1<<31, 1<<33+1, false)
	checkFits(t, 3, greatest/3+1, false)          // 2^64 + 2: 2
	checkFits(t, 641, greatest/641+1, false)      // 2^64 + 640: 640
	checkFits(t, 1<<31, 1<<63, false)             // 2^94: 0
	checkFits(t, math.MaxUint32, 1<<32+1, false)  // 2^64 - 1
	checkFits(t, math.MaxUint32, 1<<32+2, false)  // 2^64 + 2^32 - 2: 2^32 - 2
	checkFits(t, math.MaxUint32, greatest, false) // the greatest of all
	checkFits(t, math.MaxUint32, greatest-1<<32, false)
	for _, n := range counts() {
		if n < 3 {
			continue
		}
		for _, turns := range []uint64{1, 2, uint64(n) / 2, uint64(n) - 1} { // just above so many times 2^64
			most := new(big.Int).Lsh(bigOf(turns), 64)
			most.Div(most, bigOf(uint64(n))).Add(most, big.NewInt(1))
			checkFits(t, n, most.Uint64(), false)
		}
	}
}

func TestFitsAll(t *testing.T) { // P3.2
	for _, n := range counts() {
		for _, most := range weights() {
			checkFits(t, n, most, wantFits(n, most))
		}
	}
}

// none, first and last are middles: no vertex, the least vertex, the greatest one that an input may have; above is greater than all others but none.
const (
	none  uint32 = api.None
	first uint32 = 0
	last  uint32 = api.MaxN - 1
	above uint32 = api.None - 1
)

// middles rise as Better has them.
var middles = []uint32{none, first, 1, 2, 9, 255, 256, 1<<16 - 1, 1 << 16, 1<<31 - 3, last, 1<<31 - 1, 1 << 31, above - 1, above}

// heavy are weights of edges, rising, those at Far and above it too.
var heavy = []uint64{0, 1, 2, 3, 255, 256, 1<<32 - 1, 1 << 32, 1<<32 + 1, far - 1, far, far + 1, greatest - 1, greatest}

// of is an edge whose ends say nothing.
func of(w uint64, mid uint32) api.Edge { return api.Edge{Tail: 4, Head: 5, Weight: w, Mid: mid} }

// checkBetter asks which of two edges is better, the first one or neither.
func checkBetter(t *testing.T, a, b api.Edge, want bool) {
	t.Helper()
	if got := weight.Better(a, b); got != want {
		t.Errorf("Better of %v and %v: %v", a, b, got)
	}
	if weight.Better(b, a) && want {
		t.Errorf("Better of %v and %v: both ways", a, b)
	}
}

func TestBetterExamples(t *testing.T) { // P3.3
	checkBetter(t, of(3, none), of(3, 0), true)
	checkBetter(t, of(3, 0), of(3, none), false)
	checkBetter(t, of(2, 9), of(3, none), true)
	checkBetter(t, of(3, none), of(2, 9), false)
	checkBetter(t, of(3, 9), of(3, 9), false)
}

func TestBetterByWeight(t *testing.T) { // P3.3
	for i, a := range heavy {
		for j, b := range heavy {
			if i == j {
				continue
			}
			for _, m := range middles { // whatever the middles say
				for _, k := range middles {
					checkBetter(t, of(a, m), of(b, k), i < j)
				}
			}
		}
	}
}

func TestBetterByMiddle(t *testing.T) { // P3.3
	for _, w := range heavy {
		for i, m := range middles {
			for j, k := range middles {
				checkBetter(t, of(w, m), of(w, k), i < j)
			}
		}
	}
}

func TestBetterNamedMiddles(t *testing.T) { // P3.3
	checkBetter(t, of(3, none), of(3, last), true)
	checkBetter(t, of(3, last), of(3, none), false)
	checkBetter(t, of(3, none), of(3, above), true)
	checkBetter(t, of(3, above), of(3, none), false)
	checkBetter(t, of(3, first), of(3, last), true)
	checkBetter(t, of(3, last), of(3, first), false)
	checkBetter(t, of(3, last), of(3, above), true)
	checkBetter(t, of(3, none), of(3, none), false)
	checkBetter(t, of(3, first), of(3, first), false)
	checkBetter(t, of(3, last), of(3, last), false)
}

// ends are the tails and heads of edges.
var ends = []uint32{0, 1, 9, last, above, none}

func TestBetterEndsAlone(t *testing.T) { // P3.3
	for _, tail := range ends {
		for _, head := range ends {
			for _, m := range middles {
				a := api.Edge{Tail: tail, Head: head, Weight: 3, Mid: m}
				b := api.Edge{Tail: 1, Head: 9, Weight: 3, Mid: m}
				checkBetter(t, a, b, false)
				checkBetter(t, b, a, false)
			}
		}
	}
}

func TestBetterWhateverTheEnds(t *testing.T) { // P3.3
	for _, tail := range ends {
		for _, head := range ends {
			a := api.Edge{Tail: tail, Head: head, Weight: 3, Mid: 0}
			checkBetter(t, a, api.Edge{Tail: 1, Head: 9, Weight: 4, Mid: 0}, true)
			checkBetter(t, a, api.Edge{Tail: 1, Head: 9, Weight: 3, Mid: 1}, true)
			checkBetter(t, a, api.Edge{Tail: 1, Head: 9, Weight: 2, Mid: 1}, false)
			checkBetter(t, a, api.Edge{Tail: 1, Head: 9, Weight: 3, Mid: none}, false)
		}
	}
}

// everyOrder calls with l in each order that there is.
func everyOrder(l []uint64, call func(l []uint64)) {
	var from func(i int)
	from = func(i int) {
		if i == len(l) {
			call(l)
			return
		}
		for j := i; j < len(l); j++ {
			l[i], l[j] = l[j], l[i]
			from(i + 1)
			l[i], l[j] = l[j], l[i]
		}
	}
	from(0)
}

// told is a sum, or that there is none.
type told struct {
	sum uint64
	ok  bool
}

// everyGrouping is what all ways to add l come to, two neighbours at a time; where there is no sum there is none of it and more.
func everyGrouping(l []uint64) []told {
	if len(l) == 1 {
		return []told{{l[0], true}}
	}
	var all []told
	for cut := 1; cut < len(l); cut++ {
		for _, x := range everyGrouping(l[:cut]) {
			for _, y := range everyGrouping(l[cut:]) {
				if !x.ok || !y.ok {
					all = append(all, told{})
					continue
				}
				sum, ok := weight.Add(x.sum, y.sum)
				all = append(all, told{sum, ok})
			}
		}
	}
	return all
}

// wantSum is the sum of all, done without an end.
func wantSum(l []uint64) told {
	sum := new(big.Int)
	for _, x := range l {
		sum.Add(sum, bigOf(x))
	}
	if sum.Cmp(bigFar) >= 0 {
		return told{}
	}
	return told{sum.Uint64(), true}
}

func TestAddInAnyOrder(t *testing.T) { // What follows
	for _, l := range [][]uint64{
		{1, 2, 3, 4},
		{0, 0, 0, 0},
		{0, far - 1, 0, 0},
		{far / 2, far / 4, far / 8, far/8 - 1}, // just below Far
		{far / 2, far / 4, far / 8, far / 8},   // at it
		{far - 1, 1, 0, 0},
		{far - 1, far - 1, 2, 0}, // 2^64
		{far - 1, far - 1, 3, 5},
		{far, far, 7, 1}, // 8 modulo 2^64
		{greatest, 1, 5, 0},
		{greatest, greatest, greatest, 3},
		{far / 4, far / 4, far / 4, far / 4, 0},
		{far / 4, far / 4, far / 4, far/4 - 5, 4},
		{far / 4, far / 4, far / 4, far/4 - 5, 5},
	} {
		want := wantSum(l)
		everyOrder(slices.Clone(l), func(l []uint64) {
			for _, got := range everyGrouping(l) {
				if got != want {
					t.Errorf("the sum of %d, in some grouping: %v; want %v", l, got, want)
				}
			}
		})
	}
}

func TestAddOfThree(t *testing.T) { // What follows
	few := []uint64{0, 1, 2, far/3 - 1, far / 3, far/3 + 1, far/2 - 1, far / 2, far/2 + 1, far - 2, far - 1, far, far + 1, greatest - 1, greatest}
	for _, a := range few {
		for _, b := range few {
			for _, c := range few {
				want := wantSum([]uint64{a, b, c})
				for _, got := range everyGrouping([]uint64{a, b, c}) {
					if got != want {
						t.Errorf("the sum of %d, %d and %d: %v; want %v", a, b, c, got, want)
					}
				}
			}
		}
	}
}

// addTimes adds a weight so many times, one by one, and tells how often there was a sum.
func addTimes(n int, w uint64) (sum uint64, times int) {
	for i := range n {
		next, ok := weight.Add(sum, w)
		if !ok {
			return sum, i
		}
		sum = next
	}
	return sum, n
}

func TestWhatFitsIsAdded(t *testing.T) { // What follows
	for _, n := range []uint32{0, 1, 2, 3, 4, 7, 8, 100, 1000, 1 << 12} {
		for _, most := range weights() {
			sum, times := addTimes(int(n), most)
			if weight.Fits(n, most) != (times == int(n)) {
				t.Errorf("%d times %d: Fits says %v, there are %d sums", n, most, weight.Fits(n, most), times)
			}
			if times == int(n) && sum != uint64(n)*most {
				t.Errorf("%d times %d: the sum is %d", n, most, sum)
			}
		}
	}
}

func TestGreatestThatFitsIsAdded(t *testing.T) { // What follows
	for _, n := range []uint32{1, 2, 3, 4, 7, 100, 1000, 1 << 12, 1<<16 + 1} {
		most := (far - 1) / uint64(n)
		if _, times := addTimes(int(n), most); !weight.Fits(n, most) || times != int(n) {
			t.Errorf("%d times %d: Fits says %v, there are %d sums", n, most, weight.Fits(n, most), times)
		}
		if _, times := addTimes(int(n), most+1); weight.Fits(n, most+1) || times == int(n) {
			t.Errorf("%d times %d: Fits says %v, there are %d sums", n, most+1, weight.Fits(n, most+1), times)
		}
		var sum uint64
		for i := range uint64(n) { // so many, each of what fits or less
			next, ok := weight.Add(sum, most-min(i, most))
			if !ok || next < sum {
				t.Fatalf("%d weights of at most %d: no sum of %d of them", n, most, i+1)
			}
			sum = next
		}
	}
}

// edges are of all kinds of weights, middles and ends.
func edges() []api.Edge {
	var l []api.Edge
	for _, w := range []uint64{0, 1, 3, far - 1, far, greatest} {
		for _, m := range []uint32{none, first, 1, 9, last, 1 << 31, above} {
			l = append(l, api.Edge{Tail: 1, Head: 2, Weight: w, Mid: m}, api.Edge{Tail: 2, Head: 1, Weight: w, Mid: m})
		}
	}
	return l
}

func TestBetterNeverBothWays(t *testing.T) { // What follows
	for _, a := range edges() {
		for _, b := range edges() {
			ab, ba := weight.Better(a, b), weight.Better(b, a)
			if ab && ba {
				t.Errorf("Better of %v and %v: both ways", a, b)
			}
			if same := a.Weight == b.Weight && a.Mid == b.Mid; same == (ab || ba) {
				t.Errorf("Better of %v and %v: %v, and %v the other way", a, b, ab, ba)
			}
		}
	}
}

func TestBetterThanWhatIsBetter(t *testing.T) { // What follows
	l := edges()
	for _, a := range l {
		for _, b := range l {
			if !weight.Better(a, b) {
				continue
			}
			for _, c := range l {
				if weight.Better(b, c) && !weight.Better(a, c) {
					t.Errorf("%v is better than %v, that than %v, but not the first than the last", a, b, c)
				}
			}
		}
	}
}

func TestNothingIsKept(t *testing.T) { // R5
	a, b := of(3, none), of(3, 0)
	for range 3 {
		checkAdd(t, far-1, 0, far-1, true)
		checkAdd(t, far-1, 1, 0, false)
		checkFits(t, 2, far/2-1, true)
		checkFits(t, 2, far/2, false)
		checkBetter(t, a, b, true)
		checkBetter(t, b, a, false)
	}
}
