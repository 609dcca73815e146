package pick_test

import (
	"slices"
	"testing"

	"milepost/api"
)

func TestExamples(t *testing.T) { // P16.1
	gives(t, list(of(1, 5, 2), of(2, 4), of(3, 9, 9)), 2, 3)
	gives(t, list(of(1, 5, 2), of(2, 5, 1)), 1)
	gives(t, list(of(1, 5, 1), of(1, 0)), 1)
	gives(t, nil)
}

func TestNone(t *testing.T) { // P16.1
	gives(t, nil)
	gives(t, []api.Cand{})
	gives(t, list(of(1, 1), of(2, 2))[:0])
}

func TestOneAlone(t *testing.T) { // P16.1
	for _, v := range []uint32{0, 1, 7, 1 << 31, last - 1, last} {
		for _, key := range []uint64{0, 1, 1 << 20, 1 << 32, 1 << 63, greatest} {
			gives(t, list(of(v, key)), v)
			gives(t, list(api.Cand{V: v, Key: key, Near: []uint32{}}), v)
			gives(t, list(of(v, key, v)), v)
			gives(t, list(of(v, key, v+1, v-1, v, 0, last)), v)
		}
	}
}

func TestNearToItself(t *testing.T) { // P16.1: it is no neighbour of itself, and no more or less of others
	each(t, list(of(1, 5, 1), of(2, 5, 2)), 1, 2)
	each(t, list(of(0, 0, 0), of(last, greatest, last)), 0, last)
	each(t, list(of(1, 5, 1, 2), of(2, 4, 2)), 2)
	each(t, list(of(1, 5, 2, 1, 1), of(2, 6, 2, 2)), 1)
	each(t, list(of(1, 5, 1), of(2, 6, 1, 2), of(3, 1, 3)), 1, 3)
}

func TestNearToNoCandidate(t *testing.T) { // P16.1
	each(t, list(of(1, 5, 9), of(2, 6, 9), of(3, 7, 0, 9, last)), 1, 2, 3) // two who are near to one third are no neighbours
	each(t, list(of(1, 5, 0), of(2, 5, 3)), 1, 2)                          // 0 is no candidate, and has no key
	each(t, list(of(1, 5, 9, 2, 8), of(2, 4, 7)), 2)
	each(t, list(of(4, 0, 1<<31+4, 260, 65540), of(3, 0, 1<<31+4)), 3, 4) // names that are alike in their lowest bits
	each(t, list(of(260, 0, 4), of(3, 1, 4)), 3, 260)
}

func TestNamedSeveralTimes(t *testing.T) { // P16.1
	each(t, list(of(1, 5, 2, 2, 2), of(2, 4)), 2)
	each(t, list(of(1, 5, 2, 2), of(2, 6, 1, 1, 1)), 1)
	each(t, list(of(1, 5, 2, 3, 2, 3, 1, 1), of(2, 6), of(3, 4)), 3)
	each(t, list(of(1, 5, 9, 9, 9), of(2, 6, 9, 9)), 1, 2)
	each(t, list(of(1, 5, slices.Repeat([]uint32{2, 3}, 100000)...), of(2, 6), of(3, 7)), 1)
}

func TestWhoTells(t *testing.T) { // P16.1: the one ahead, the one behind, or both
	for _, x := range []struct{ first, second []uint32 }{
		{[]uint32{2}, nil}, {nil, []uint32{1}}, {[]uint32{2}, []uint32{1}},
	} {
		each(t, list(of(1, 5, x.first...), of(2, 6, x.second...)), 1)
		each(t, list(of(1, 6, x.first...), of(2, 5, x.second...)), 2)
		each(t, list(of(1, 5, x.first...), of(2, 5, x.second...)), 1)
		each(t, list(of(1, 5, x.first...), of(2, 6, x.second...), of(3, 4)), 1, 3)
		each(t, list(of(1, 5, x.first...), of(2, 6, x.second...), of(3, 4, 1)), 3)
		each(t, list(of(1, 5, x.first...), of(2, 6, x.second...), of(3, 7, 2)), 1)
	}
	each(t, list(of(1, 5), of(2, 4)), 1, 2) // neither
}

func TestWhoTellsOfOneWhoIsNeighbourOfMany(t *testing.T) { // P16.1: of each neighbour another side tells
	each(t, list(of(5, 3, 1, 2), of(1, 4), of(2, 2), of(3, 5, 5), of(4, 6, 5)), 2)
	each(t, list(of(5, 3, 1, 2), of(1, 4), of(2, 5), of(3, 2, 5), of(4, 6, 5)), 3)
	each(t, list(of(5, 3, 1, 2), of(1, 4), of(2, 5), of(3, 5, 5), of(4, 2, 5)), 4)
	each(t, list(of(5, 3, 1, 2), of(1, 4), of(2, 5), of(3, 5, 5), of(4, 6, 5)), 5)
	each(t, list(of(5, 3, 1, 2), of(1, 2), of(2, 2), of(3, 2, 5), of(4, 2, 5)), 1, 2, 3, 4)
}

func TestNearOfNearIsNoNeighbour(t *testing.T) { // P16.1
	each(t, list(of(1, 1, 2), of(2, 9, 3), of(3, 2)), 1, 3)
	each(t, list(of(1, 2), of(2, 9, 1, 3), of(3, 1)), 1, 3)
	each(t, list(of(1, 1, 2), of(2, 9), of(3, 1, 2)), 1, 3)
}

func TestOfOneKey(t *testing.T) { // P16.1: their vertices part them
	for _, key := range []uint64{0, 1, 5, 1 << 20, 1 << 32, 1 << 63, greatest} {
		each(t, list(of(1, key, 2), of(2, key)), 1)
		each(t, list(of(9, key, 7), of(7, key), of(8, key, 9)), 7, 8)
		each(t, list(of(1, key, 2), of(2, key, 3), of(3, key, 4), of(4, key)), 1)
		each(t, list(of(4, key, 3), of(3, key, 1), of(1, key, 2), of(2, key)), 1)
		each(t, list(of(9, key), of(2, key), of(5, key)), 2, 5, 9)
		each(t, list(of(0, key, last), of(last, key)), 0)
	}
}

// keys and vertices rise, and differ in few of their bits.
var (
	keys     = []uint64{0, 1, 2, 255, 256, 1<<31 - 1, 1 << 31, 1<<32 - 1, 1 << 32, 1<<32 + 1, 2 << 32, 2<<32 + 1, 1 << 53, 1<<53 + 1, 1<<63 - 1, 1 << 63, 1<<63 + 1, 1<<63 + 1<<32, greatest - 1<<32, greatest - 1, greatest}
	vertices = []uint32{0, 1, 2, 255, 256, 65535, 65536, 1<<31 - 1, 1 << 31, 1<<31 + 1, last - 1, last}
)

func TestKeysAtTheirEnds(t *testing.T) { // P16.1: a lesser key is ahead, whatever the vertices
	for i, greater := range keys {
		for _, lesser := range keys[:i] {
			each(t, list(of(9, lesser, 1), of(1, greater)), 9)
			each(t, list(of(9, greater, 1), of(1, lesser)), 1)
			each(t, list(of(0, greater, last), of(last, lesser)), last)
			each(t, list(of(last, lesser), of(last-1, greater, last), of(0, greater)), 0, last)
		}
	}
}

func TestKeysThatDifferInTheirHigherHalf(t *testing.T) { // P16.1
	for _, low := range []uint64{0, 1, 1 << 31, 1<<32 - 1} {
		for _, high := range []uint64{0, 1, 1<<31 - 1, 1 << 31, 1<<32 - 2} {
			one, other := high<<32|low, (high+1)<<32|low
			each(t, list(of(9, one, 1), of(1, other)), 9)
			each(t, list(of(1, one, 9), of(9, other)), 1)
		}
	}
	each(t, list(of(9, 1<<32-1, 1), of(1, 1<<32)), 9) // the lower half the other way round
	each(t, list(of(9, 3<<32|9, 1), of(1, 4<<32|5)), 9)
}

func TestVerticesAtTheirEnds(t *testing.T) { // P16.1
	for i, greater := range vertices {
		for _, lesser := range vertices[:i] {
			each(t, list(of(greater, 5, lesser), of(lesser, 5)), lesser)
			each(t, list(of(greater, 5), of(lesser, 5, greater)), lesser)
			each(t, list(of(greater, 4), of(lesser, 5, greater)), greater)
			each(t, list(of(greater, 4), of(lesser, 5)), lesser, greater)
		}
	}
}

func TestTheAnswerRises(t *testing.T) { // P16.1
	var apart, twins []api.Cand
	for i, v := range vertices {
		apart = append(apart, of(v, uint64(len(vertices)-i)))
		twins = append(twins, of(v, 5, 3), of(v^4, 6, v))
	}
	each(t, apart, vertices...)
	each(t, append(twins, of(3, 9)), vertices...)
	var many []api.Cand
	for v := range uint32(1000) {
		many = append(many, of(v*4000037, uint64(v%7)))
	}
	want := make([]uint32, 0, len(many))
	for _, c := range many {
		want = append(want, c.V)
	}
	slices.Sort(want)
	each(t, many, want...)
}

func TestTheFirstOfAVertexCounts(t *testing.T) { // P16.1
	// a later one that would be ahead
	gives(t, list(of(1, 5, 2), of(2, 4), of(1, 0, 2)), 2)
	gives(t, list(of(1, 5, 2), of(1, 0, 2), of(2, 4)), 2)
	gives(t, list(of(1, 5, 2), of(1, 0), of(1, 1, 2), of(2, 4, 1), of(2, 6)), 2)
	// a later one that would be behind
	gives(t, list(of(1, 3, 2), of(2, 4), of(1, 9, 2)), 1)
	gives(t, list(of(2, 4), of(1, 3, 2), of(1, greatest), of(2, 0)), 1)
	// a later one that tells who is near, where the first one does not
	gives(t, list(of(1, 5), of(2, 4), of(1, 5, 2)), 1, 2)
	gives(t, list(of(1, 5), of(1, 5, 2), of(2, 4)), 1, 2)
	gives(t, list(of(1, 0), of(2, 4), of(1, 0, 2), of(2, 3, 1)), 1, 2)
	gives(t, list(of(2, 1), of(3, 2), of(2, 1, 3), of(3, 2, 2), of(2, 0, 3, 3)), 2, 3)
	// the first one tells, and a later one does not, or tells of others
	gives(t, list(of(1, 5, 2), of(1, 5), of(2, 4)), 2)
	gives(t, list(of(1, 5, 2), of(2, 4), of(3, 4), of(1, 5, 3)), 2, 3)
	gives(t, list(of(1, 5, 2), of(2, 6), of(3, 4), of(1, 5, 3)), 1, 3)
	// the other one tells
	gives(t, list(of(1, 5), of(2, 4, 1), of(1, 0)), 2)
	gives(t, list(of(1, 5), of(1, 0), of(2, 6, 1), of(2, 7)), 1)
	// nothing but one vertex, and it is told but once
	gives(t, list(of(7, 3), of(7, 3), of(7, 3)), 7)
	gives(t, list(of(7, 3, 7), of(7, 2, 7), of(7, 4, 8)), 7)
	gives(t, list(of(0, greatest, 0), of(0, 0)), 0)
	gives(t, list(of(last, 0), of(0, 0), of(last, 0), of(0, 0)), 0, last)
}

func TestWhichOneIsFirstHasASay(t *testing.T) { // P16.1: where a vertex stands several times the order counts
	gives(t, list(of(1, 5, 2), of(1, 3, 2), of(2, 4)), 2)
	gives(t, list(of(1, 3, 2), of(1, 5, 2), of(2, 4)), 1)
	gives(t, list(of(1, 5), of(1, 5, 2), of(2, 4)), 1, 2)
	gives(t, list(of(1, 5, 2), of(1, 5), of(2, 4)), 2)
}

func TestOneVertexVeryOften(t *testing.T) { // P16.1
	l := list(of(1, 5, 2), of(2, 6))
	for i := range uint32(5000) {
		l = append(l, of(1+i%2, uint64(i%11), 3, 4, 1+i%3), of(3+i%2, uint64(i), 3+(i+1)%2))
	}
	gives(t, l, 1, 3)
}

func TestBehindOneThatIsNotPicked(t *testing.T) { // P16.1: it is not picked either
	each(t, list(of(3, 1), of(2, 2, 3), of(1, 3, 2)), 3)
	each(t, list(of(1, 1, 2), of(2, 2, 3), of(3, 3, 4), of(4, 4)), 1)
	each(t, list(of(1, 1, 2), of(2, 2, 3), of(3, 3)), 1)
	each(t, list(of(1, 5, 2), of(2, 4, 3), of(3, 3, 4), of(4, 9, 5), of(5, 8)), 3, 5)
}

func TestBehindSomeAheadOfOthers(t *testing.T) { // P16.1: ahead of all neighbours, not of one
	each(t, list(of(1, 5, 2, 3, 4), of(2, 6), of(3, 7), of(4, 4)), 4)
	each(t, list(of(1, 5, 2, 3, 4), of(2, 4), of(3, 7), of(4, 8)), 2) // 3 and 4 are behind 1, though 1 is not picked
	each(t, list(of(1, 5, 4, 3, 2), of(2, 6), of(3, 7), of(4, 8)), 1)
	each(t, list(of(1, 5, 2), of(2, 6, 3), of(3, 4, 1)), 3)
}
