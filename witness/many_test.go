package witness_test

import (
	"slices"
	"testing"

	"milepost/api"
)

// counts are numbers of vertices around what a heap holds, and some times as many.
var counts = []uint32{mostItems - 1, mostItems, mostItems + 1, mostItems + 17, 2 * mostItems, 200000}

// star is a world of n edges out of 0: to n first, and to 1 last, each as far as its number says.
func star(n uint32) *world {
	w := net()
	for i := n; i > 0; i-- {
		w.add(edge(0, i, uint64(i)))
	}
	return w
}

func TestVeryManyTheNearestLast(t *testing.T) { // P14.1
	for _, n := range counts {
		w := star(n)
		w.yes(t, 0, 1, 1, 0)
		w.yes(t, 0, 15, 15, upTo(15)...)
		w.no(t, 0, 15, 14, upTo(15)...)
		w.no(t, 0, 16, greatest, upTo(16)...)
		w.no(t, 0, n, greatest, upTo(16)...)
		w.rotten(api.ErrRot, 15).fails(t, 0, 16, greatest, api.ErrRot, upTo(16)...)
		w.rotten(api.ErrRot, 16, 17, n).no(t, 0, 16, greatest, upTo(16)...)
	}
}

func TestVeryManyInOtherOrders(t *testing.T) { // P14.1
	w := star(3 * mostItems)
	l := w.edges[0]
	var by mixer
	for _, order := range []func(){
		func() { slices.Reverse(l) }, // the nearest ones first
		func() { // and in the middle
			l = slices.Concat(l[len(l)/2:], l[:len(l)/2])
		},
		func() { // in no order
			for i := range l {
				j := by.below(uint64(len(l)))
				l[i], l[j] = l[j], l[i]
			}
		},
	} {
		order()
		w.edges[0] = l
		w.yes(t, 0, 15, 15, upTo(15)...)
		w.no(t, 0, 15, 14, upTo(15)...)
		w.no(t, 0, 16, greatest, upTo(16)...)
	}
}

func TestVeryManyAtOneDistance(t *testing.T) { // P14.1: the lesser number first
	for _, weight := range []uint64{0, 7, far - 1} {
		w := net()
		for i := uint32(mostItems + 100); i > 0; i-- {
			w.add(edge(0, i, weight))
		}
		w.yes(t, 0, 15, weight, upTo(15)...)
		w.no(t, 0, 16, greatest, upTo(16)...)
		w.no(t, 0, mostItems+100, greatest, upTo(16)...)
		w.without(1, 2, 3).yes(t, 0, 18, weight, slices.Concat(upTo(1), upTo(18)[4:])...)
	}
}

func TestVeryManyOfOnePair(t *testing.T) { // P14.1: each nearer than the one ahead
	w := net(0, 3, mostItems*3, 0, 4, mostItems*3+1)
	for i := uint64(mostItems * 2); i > 1; i-- {
		w.add(edge(0, 1, i))
	}
	w.add(edge(1, 2, 1))
	w.exactly(t, 0, 1, 2)
	w.exactly(t, 0, 2, 3)
	w.exactly(t, 0, 3, mostItems*3) // those that came first still wait
	w.exactly(t, 0, 4, mostItems*3+1)
	w.no(t, 0, 9, greatest, 0, 1, 2, 3, 4)
}

func TestVeryManyLikeOneAnother(t *testing.T) { // P14.1: those that came first still wait
	w := net(0, 3, 9, 0, 4, 10)
	w.add(slices.Repeat([]api.Edge{edge(0, 1, 5)}, mostItems*2)...)
	w.add(edge(1, 2, 1), edge(1, 4, 5))
	w.exactly(t, 0, 3, 9)
	w.exactly(t, 0, 4, 10)
	w.no(t, 0, 9, greatest, 0, 1, 2, 3, 4)
}

func TestVeryManyOfFewPairs(t *testing.T) { // P14.1: by turns
	w := net()
	for i := uint64(10000); i > 0; i-- {
		for head := uint32(15); head > 0; head-- {
			w.add(edge(0, head, 100*i+uint64(head)))
		}
	}
	for _, to := range []uint32{1, 2, 14, 15} {
		w.yes(t, 0, to, 100+uint64(to), upTo(int(to))...)
		w.no(t, 0, to, 99+uint64(to), upTo(int(to))...)
	}
	w.no(t, 0, 16, greatest, upTo(16)...)
}

func TestVeryManyComeToAgain(t *testing.T) { // P14.1: one that was behind very many, at a lesser distance
	for _, n := range counts {
		w := star(n)
		w.add(edge(1, n, 1), edge(n, n-1, 1), edge(2, n-2, 5), edge(3, n, 0), edge(1, 15, uint64(n)))
		w.yes(t, 0, n, 2, 0, 1, 2) // at 2, behind the vertex 2, which is of the lesser number
		w.no(t, 0, n, 1, 0, 1)
		w.yes(t, 0, n-1, 3, 0, 1, 2, n, 3)
		w.yes(t, 0, n-2, 7, 0, 1, 2, n, 3, n-1, 4, 5, 6, 7)
		w.no(t, 0, n-3, greatest, slices.Concat([]uint32{0, 1, 2, n, 3, n - 1, 4, 5, 6, 7, n - 2}, upTo(13)[8:])...)
	}
}

func TestVeryManyAtEachVertex(t *testing.T) { // P14.1: of a row, the next one of which comes last
	w := net()
	for v := range uint32(16) {
		for i := range uint32(10000) {
			w.add(edge(v, 1000+v*10000+i, 2000000-uint64(v*10000+i))) // each nearer than the one ahead
		}
		w.add(edge(v, v+1, 3))
	}
	for _, to := range []uint32{1, 7, 14, 15} {
		w.yes(t, 0, to, 3*uint64(to), upTo(int(to))...)
		w.no(t, 0, to, 3*uint64(to)-1, upTo(int(to))...)
	}
	w.no(t, 0, 16, greatest, upTo(16)...)
	w.no(t, 0, 1000, greatest, upTo(16)...)
	// Where the row ends early, the nearest of all that were come to is next.
	w.without(15).yes(t, 0, 1000+14*10000+9999, greatest, upTo(15)...)
	w.without(15).exactly(t, 0, 1000+14*10000+9999, 2000000-149999+14*3)
	w.without(15).never(t, 0, 1000)
}

func TestVeryManyAvoided(t *testing.T) { // P14.1: the nearest ones
	for _, n := range []uint32{mostItems + 100, 2 * mostItems} {
		w := star(n).without(upTo(101)[1:]...)
		asked := slices.Concat(upTo(1), upTo(116)[101:])
		w.yes(t, 0, 115, 115, asked[:15]...)
		w.no(t, 0, 115, 114, asked[:15]...)
		w.no(t, 0, 116, greatest, asked...)
		w.no(t, 0, 1, greatest, asked...)
	}
}
