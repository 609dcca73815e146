package pick_test

import (
	"slices"
	"testing"

	"milepost/api"
	"milepost/pick"
)

// first are the candidates that count, as they stand in a list.
func first(l []api.Cand) []api.Cand {
	var counted []api.Cand
	for i, c := range l {
		if !slices.ContainsFunc(l[:i], func(earlier api.Cand) bool { return earlier.V == c.V }) {
			counted = append(counted, c)
		}
	}
	return counted
}

// neighbours says whether two candidates are.
func neighbours(a, b api.Cand) bool {
	return a.V != b.V && (slices.Contains(a.Near, b.V) || slices.Contains(b.Near, a.V))
}

// ahead says whether a candidate is ahead of another one.
func ahead(a, b api.Cand) bool {
	if a.Key == b.Key {
		return a.V < b.V
	}
	return a.Key < b.Key
}

// model is what P16.1 says, done as it stands there: each two are looked at.
func model(l []api.Cand) []uint32 {
	counted := first(l)
	var all []uint32
	for _, c := range counted {
		if !slices.ContainsFunc(counted, func(other api.Cand) bool { return neighbours(c, other) && !ahead(c, other) }) {
			all = append(all, c.V)
		}
	}
	slices.Sort(all)
	return all
}

// follows fails the test if an answer is not as the chapter says that it follows.
func follows(t *testing.T, l []api.Cand, got []uint32) {
	t.Helper()
	counted := first(l)
	in := func(c api.Cand) bool { return slices.Contains(got, c.V) }
	for i, v := range got {
		if i > 0 && got[i-1] >= v {
			t.Errorf("Pick of %v does not rise: %v", short(l), short(got))
		}
		if !slices.ContainsFunc(counted, func(c api.Cand) bool { return c.V == v }) {
			t.Errorf("Pick of %v: %d is no candidate", short(l), v)
		}
	}
	for _, c := range counted {
		if in(c) && slices.ContainsFunc(counted, func(o api.Cand) bool { return in(o) && neighbours(c, o) }) {
			t.Errorf("Pick of %v: a neighbour of %d is picked as well", short(l), c.V)
		}
		if !in(c) && !slices.ContainsFunc(counted, func(o api.Cand) bool { return neighbours(c, o) && ahead(o, c) }) {
			t.Errorf("Pick of %v: none is ahead of %d, and it is not picked", short(l), c.V)
		}
	}
	if len(counted) > 0 && !in(slices.MinFunc(counted, func(a, b api.Cand) int {
		if ahead(a, b) {
			return -1
		}
		return 1
	})) {
		t.Errorf("Pick of %v: the one ahead of all is not picked", short(l))
	}
}

// everyList calls with each list of so many candidates that are of these vertices, of keys below two, and near to any of these and to 9.
func everyList(length int, vertices []uint32, call func(l []api.Cand)) {
	near := append(slices.Clone(vertices), 9)
	kinds := len(vertices) * 2 << len(near)
	many := 1
	for range length {
		many *= kinds
	}
	for number := range many {
		l := make([]api.Cand, length)
		for i := range l {
			kind := number % kinds
			number /= kinds
			l[i] = of(vertices[kind%len(vertices)], uint64(kind/len(vertices)%2))
			for j, v := range near {
				if kind/len(vertices)/2>>j&1 == 1 {
					l[i].Near = append(l[i].Near, v)
				}
			}
		}
		call(l)
	}
}

func TestEachSmallList(t *testing.T) { // P16.1, What follows
	one := func(l []api.Cand) {
		got := pick.Pick(l)
		if want := model(l); !slices.Equal(got, want) {
			t.Fatalf("Pick of %v: %v, not %v", l, got, want)
		}
		follows(t, l, got)
	}
	for length := range 4 {
		everyList(length, []uint32{0}, one)
		everyList(length, []uint32{0, last}, one)
	}
	for length := range 3 {
		everyList(length, []uint32{2, 1, 1 << 31}, one)
	}
}

func TestEachGraphOfThree(t *testing.T) { // P16.1, What follows: each telling of three, each row of keys, each order
	vertices := []uint32{4, 1 << 31, last}
	orders := [][3]int{{0, 1, 2}, {0, 2, 1}, {1, 0, 2}, {1, 2, 0}, {2, 0, 1}, {2, 1, 0}}
	for number := range 1 << 9 * 27 {
		var by [3]api.Cand
		told, keys := number%(1<<9), number>>9
		for i, v := range vertices {
			by[i] = of(v, uint64(keys%3)<<32)
			keys /= 3
			for j, w := range vertices {
				if told>>(3*i+j)&1 == 1 {
					by[i].Near = append(by[i].Near, w)
				}
			}
		}
		want := model(by[:])
		follows(t, by[:], want)
		for _, o := range orders {
			l := list(by[o[0]], by[o[1]], by[o[2]])
			if got := pick.Pick(l); !slices.Equal(got, want) {
				t.Fatalf("Pick of %v: %v, not %v", l, got, want)
			}
		}
	}
}

// madeUp is a list of n candidates whose vertices are numbers below some bound, spread over all numbers, that tell of so many near ones at most, and have so many keys.
func madeUp(by *mixer, n, bound, near, kinds int) []api.Cand {
	spread := func(x int) uint32 { return uint32(x) * 2654435761 }
	l := make([]api.Cand, n)
	for i := range l {
		l[i] = of(spread(by.below(bound)), uint64(by.below(kinds))*(1<<32+1))
		for range by.below(near + 1) {
			l[i].Near = append(l[i].Near, spread(by.below(bound)))
		}
	}
	return l
}

func TestListsOfSeveralHundred(t *testing.T) { // P16.1, What follows
	by := mixer(16)
	for _, n := range []int{100, 300, 600} {
		for _, bound := range []int{n / 10, n, 3 * n, 100 * n} { // from each vertex many times, to each but once
			for _, near := range []int{0, 1, 3, 12} {
				for _, kinds := range []int{1, 2, 50, 1 << 30} {
					l := madeUp(&by, n, bound, near, kinds)
					gives(t, l, model(l)...)
					follows(t, l, pick.Pick(l))
				}
			}
		}
	}
}

func TestTheOrderHasNoSay(t *testing.T) { // What follows: as long as each vertex stands there once
	by := mixer(7)
	for round := range 40 {
		l := first(madeUp(&by, 300, 300+round*40, 1+round%6, 1+round*round))
		each(t, l, model(l)...)
	}
}

func TestWhoIsNoCandidateHasNoSay(t *testing.T) { // What follows
	by := mixer(8)
	for round := range 40 {
		l := madeUp(&by, 300, 600, 1+round%6, 1+round*round)
		want := pick.Pick(l)
		there := map[uint32]int{}
		for _, c := range l {
			there[c.V]++
		}
		without, with := deep(l), deep(l)
		for i := range l {
			without[i].Near = slices.DeleteFunc(without[i].Near, func(v uint32) bool { return there[v] == 0 })
			for v := range uint32(20) {
				if there[v] == 0 {
					with[i].Near = append(with[i].Near, v)
				}
			}
		}
		gives(t, without, want...)
		gives(t, with, want...)
	}
}
