package pick_test

import (
	"slices"
	"testing"

	"milepost/api"
)

// sides are the shapes' ways of telling who is near: the lesser one, the greater one, both.
var sides = []struct{ lesser, greater bool }{{true, false}, {false, true}, {true, true}}

// joined are candidates 0 to n - 1 of these keys, each two of which are neighbours where so it is said; one side or both tell it.
func joined(n int, key func(i int) uint64, next func(i, j int) bool, lesser, greater bool) []api.Cand {
	l := make([]api.Cand, n)
	for i := range n {
		l[i] = of(uint32(i), key(i))
	}
	for j := range n {
		for i := range j {
			if next(i, j) && lesser {
				l[i].Near = append(l[i].Near, uint32(j))
			}
			if next(i, j) && greater {
				l[j].Near = append(l[j].Near, uint32(i))
			}
		}
	}
	return l
}

// shape asks for candidates joined in each of the ways of telling.
func shape(t *testing.T, n int, key func(i int) uint64, next func(i, j int) bool, want ...uint32) {
	t.Helper()
	for _, side := range sides {
		each(t, joined(n, key, next, side.lesser, side.greater), want...)
	}
}

// The keys of shapes: all the same, rising, falling, by turns.
func same(int) uint64      { return 7 }
func rising(i int) uint64  { return uint64(i) * 3 }
func falling(i int) uint64 { return greatest - uint64(i) }
func turns(i int) uint64   { return uint64(1 - i%2) }

// every are the numbers of l that one in two, or three, or so many is, from the first on.
func every(n, first, step int) []uint32 {
	var l []uint32
	for i := first; i < n; i += step {
		l = append(l, uint32(i))
	}
	return l
}

func TestChains(t *testing.T) { // P16.1
	for _, n := range []int{1, 2, 3, 4, 5, 17, 100} {
		next := func(i, j int) bool { return j == i+1 }
		end := uint32(n - 1)
		shape(t, n, same, next, 0)
		shape(t, n, rising, next, 0)
		shape(t, n, falling, next, end)
		if n > 1 {
			shape(t, n, turns, next, every(n, 1, 2)...)
		}
		shape(t, n, func(i int) uint64 { return uint64(i % 2) }, next, every(n, 0, 2)...)
		shape(t, n, func(i int) uint64 { return uint64(i % 3) }, next, every(n, 0, 3)...)
		shape(t, n, func(i int) uint64 { return uint64(max(i, n-1-i)) }, next, uint32((n-1)/2)) // the middle, and the lesser one of two
	}
}

func TestRings(t *testing.T) { // P16.1
	for _, n := range []int{3, 4, 5, 6, 12, 99, 100} {
		next := func(i, j int) bool { return j == i+1 || i == 0 && j == n-1 }
		shape(t, n, same, next, 0)
		shape(t, n, rising, next, 0)
		shape(t, n, falling, next, uint32(n-1))
		shape(t, n, turns, next, every(n, 1, 2)...) // where n is odd, both ends have the greater key
		if n%3 == 0 {
			shape(t, n, func(i int) uint64 { return uint64((i + 2) % 3) }, next, every(n, 1, 3)...)
		}
	}
}

// aheadOf are those of some vertices that are ahead of the vertex m; m, if there is none.
func aheadOf(key uint64, m int, some []uint32, keys func(int) uint64) []uint32 {
	var l []uint32
	for _, v := range some {
		if k := keys(int(v)); k < key || k == key && int(v) < m {
			l = append(l, v)
		}
	}
	if l == nil {
		return []uint32{uint32(m)}
	}
	return l
}

func TestStars(t *testing.T) { // P16.1: the middle is a vertex m
	for _, n := range []int{2, 3, 10, 100} {
		for _, m := range []int{0, 1, n / 2, n - 1} {
			next := func(i, j int) bool { return i == m || j == m }
			others := slices.DeleteFunc(upTo(n), func(v uint32) bool { return v == uint32(m) })
			middle := func(key uint64) func(int) uint64 {
				return func(i int) uint64 {
					if i == m {
						return key
					}
					return 100 + uint64(i%5)
				}
			}
			shape(t, n, middle(99), next, uint32(m))
			shape(t, n, middle(102), next, aheadOf(102, m, others, middle(102))...)
			shape(t, n, middle(0), next, uint32(m))
			shape(t, n, middle(105), next, others...)
			shape(t, n, middle(greatest), next, others...)
			if m == 0 {
				shape(t, n, same, next, 0)
			} else {
				shape(t, n, same, next, upTo(m)...) // those of lesser vertices are ahead of the middle, the others behind it
			}
		}
	}
}

func TestStarOfWhichOneIsAheadOfTheMiddle(t *testing.T) { // P16.1: one is enough, wherever it stands, and the others are behind the middle nonetheless
	const n = 40
	next := func(i, j int) bool { return i == 0 }
	for one := 1; one < n; one++ {
		key := func(i int) uint64 {
			switch i {
			case 0:
				return 50
			case one:
				return 49
			}
			return 51
		}
		shape(t, n, key, next, uint32(one))
	}
}

func TestAllNearToOneAnother(t *testing.T) { // P16.1
	all := func(i, j int) bool { return true }
	for _, n := range []int{2, 3, 4, 9, 60} {
		shape(t, n, same, all, 0)
		shape(t, n, rising, all, 0)
		shape(t, n, falling, all, uint32(n-1))
		shape(t, n, func(i int) uint64 { return uint64((i + n/2) % n) }, all, uint32((n+1)/2)%uint32(n))
		shape(t, n, turns, all, 1)
	}
}

func TestTwoSides(t *testing.T) { // P16.1: all of one side near to all of the other
	for _, n := range []int{2, 3, 8, 41} {
		next := func(i, j int) bool { return i%2 != j%2 }
		shape(t, n, turns, next, every(n, 1, 2)...)
		shape(t, n, func(i int) uint64 { return uint64(i % 2) }, next, every(n, 0, 2)...)
		shape(t, n, func(i int) uint64 { return uint64(i / 2) }, next, 0)
	}
}

func TestManyTogether(t *testing.T) { // P16.1, R1: of very many an answer comes too
	const n = 100000
	hub := of(n, 5, upTo(n)...)
	l := list(hub)
	for i := range uint32(n) {
		l = append(l, of(i, 6, (i+1)%n, n, n)) // a ring, and a middle
	}
	gives(t, l, n)
	l[0].Key = 6
	gives(t, l, 0) // the middle is behind 0, and all others are behind one ahead of them
	for i := range l {
		l[i].Key = uint64(l[i].V % 2)
	}
	l[0].Key = 1
	gives(t, l, every(n, 0, 2)...)
}
