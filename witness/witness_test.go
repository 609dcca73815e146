package witness_test

import (
	"slices"
	"testing"

	"milepost/api"
	"milepost/witness"
)

// example is the world of the chapter's examples.
func example() *world { return net(0, 1, 2, 1, 2, 2, 0, 2, 5) }

func TestExamples(t *testing.T) { // P14.1
	w := example()
	w.yes(t, 0, 2, 4, 0, 1)
	w.no(t, 0, 2, 3, 0, 1)
	w.without(1).yes(t, 0, 2, 5, 0)
	w.without(1).no(t, 0, 2, 4, 0)
	w.yes(t, 0, 0, 0)
	w.no(t, 2, 0, 100, 2)
	w.rotten(api.ErrRot, 1).fails(t, 0, 2, 4, api.ErrRot, 0, 1)
	w.rotten(api.ErrRot, 1).no(t, 0, 2, 1, 0)
}

func TestNilFunctions(t *testing.T) { // P14.1, Errors
	w := example().rotten(api.ErrRot, 0)
	for _, to := range []uint32{0, 1, 2, last} { // ahead of all else: of a yes, a no, and an error too
		for _, most := range []uint64{0, 4, greatest} {
			if found, e := witness.Find(nil, w.avoid, 0, to, most); found || e != api.ErrNil {
				t.Errorf("Find of 0 to %d, %d, without out: %v, %d", to, most, found, e)
			}
			if found, e := witness.Find(w.out, nil, 0, to, most); found || e != api.ErrNil {
				t.Errorf("Find of 0 to %d, %d, without avoid: %v, %d", to, most, found, e)
			}
			if found, e := witness.Find(nil, nil, 0, to, most); found || e != api.ErrNil {
				t.Errorf("Find of 0 to %d, %d, without both: %v, %d", to, most, found, e)
			}
		}
	}
	if w.asked != nil {
		t.Errorf("out was asked of %v", w.asked)
	}
}

func TestFromIsTo(t *testing.T) { // P14.1
	for _, v := range []uint32{0, 1, 2, 7, 1 << 31, last} {
		for _, most := range []uint64{0, 1, far - 1, far, greatest} {
			w := example()
			w.yes(t, v, v, most) // out is not asked
			w.without(v).yes(t, v, v, most)
			w.without(0, 1, 2, 7).yes(t, v, v, most)
			w.rotten(api.ErrRot, v).yes(t, v, v, most)
			net().yes(t, v, v, most)
		}
	}
}

func TestFromAvoided(t *testing.T) { // P14.1: it is come to all the same
	w := example().without(0)
	w.yes(t, 0, 2, 4, 0, 1)
	w.no(t, 0, 2, 3, 0, 1)
	w.no(t, 0, 7, 100, 0, 1, 2)
	example().without(0, 1).yes(t, 0, 2, 5, 0)
	example().without(0, 2).no(t, 0, 2, 100, 0, 1)
	net(5, 5, 0, 5, 6, 1, 6, 5, 0, 6, 7, 1).without(5).yes(t, 5, 7, 2, 5, 6)
}

func TestNoEdges(t *testing.T) { // P14.1
	empty := net()
	empty.edges[3], empty.edges[4] = nil, []api.Edge{}
	for _, from := range []uint32{0, 3, 4, last} {
		for _, to := range []uint32{1, 5, last - 1} {
			for _, most := range []uint64{0, 1, far, greatest} {
				empty.no(t, from, to, most, from)
			}
		}
	}
	net(1, 2, 0).no(t, 0, 2, greatest, 0)    // none of from
	net(0, 1, 0).no(t, 0, 2, greatest, 0, 1) // none of the one behind it
	net(1, 0, 0).no(t, 0, 1, greatest, 0)    // the other way round
	net(0, 1, 0, 2, 3, 0).never(t, 0, 3)     // none between
	net(0, 1, 1, 1, 2, 1, 2, 0, 1).never(t, 0, 9)
}

func TestMostExactly(t *testing.T) { // P14.1
	for _, weight := range []uint64{1, 2, 3, 1000, 1 << 32, far / 16} {
		for n := range uint32(16) {
			row(15, weight).exactly(t, 0, n, uint64(n)*weight)
		}
	}
	net(0, 1, far-1).exactly(t, 0, 1, far-1)
	net(0, 1, far-2, 1, 2, 1).exactly(t, 0, 2, far-1)
	w := net(0, 1, 3, 0, 2, 4, 1, 3, 6, 2, 3, 4) // two ways, of 9 and of 8
	w.exactly(t, 0, 3, 8)
	w.without(1).exactly(t, 0, 3, 8)
	w.without(2).exactly(t, 0, 3, 9)
	w.yes(t, 0, 3, 8, 0, 1, 2)
	w.no(t, 0, 3, 7, 0, 1, 2)
	w.no(t, 0, 3, 4, 0, 1, 2) // a vertex at most is settled
	w.no(t, 0, 3, 3, 0, 1)    // one above it is not
	w.no(t, 0, 3, 2, 0)
	w.no(t, 0, 3, 0, 0) // from is at 0 whatever most is
}

func TestWeightsOfZero(t *testing.T) { // P14.1
	row(15, 0).yes(t, 0, 15, 0, upTo(15)...)
	row(16, 0).no(t, 0, 16, 0, upTo(16)...)
	w := net(0, 1, 0, 1, 2, 0, 2, 0, 0, 2, 3, 1, 0, 3, 1)
	w.yes(t, 0, 2, 0, 0, 1)
	w.no(t, 0, 3, 0, 0, 1, 2)
	w.yes(t, 0, 3, 1, 0, 1, 2)
	w.exactly(t, 1, 0, 0)
	w.exactly(t, 2, 3, 1)
	net(0, 1, 0).rotten(api.ErrRot, 1).yes(t, 0, 1, 0, 0)
}

func TestLoops(t *testing.T) { // P14.1
	w := net(0, 0, 0, 0, 0, 5, 0, 1, 2, 1, 1, 0, 1, 1, greatest, 1, 2, 3, 2, 2, 1)
	w.yes(t, 0, 2, 5, 0, 1)
	w.no(t, 0, 2, 4, 0, 1)
	w.no(t, 0, 9, greatest, 0, 1, 2)
	w.yes(t, 0, 0, 0)
	net(3, 3, 0).never(t, 3, 4)
	round := net(0, 1, 1, 1, 2, 1, 2, 0, 1, 2, 1, 0, 1, 0, 0) // back to what is settled
	round.no(t, 0, 9, greatest, 0, 1, 2)
	round.no(t, 1, 9, greatest, 1, 0, 2)
	round.exactly(t, 2, 1, 0)
}

func TestSeveralEdgesOfOnePair(t *testing.T) { // P14.1
	for _, weights := range [][]uint64{{3, 5, 7}, {3, 7, 5}, {5, 3, 7}, {5, 7, 3}, {7, 3, 5}, {7, 5, 3}, {3, 3, 3}, {greatest, 3, far}, {3, 3, 4}} {
		w := net()
		for _, x := range weights {
			w.add(edge(0, 1, x), edge(1, 2, x))
		}
		w.exactly(t, 0, 1, 3)
		w.exactly(t, 0, 2, 6)
		w.no(t, 0, 9, greatest, 0, 1, 2)
		w.without(1).never(t, 0, 2)
	}
}

func TestSumsThatCannotBeAdded(t *testing.T) { // P14.1
	for _, x := range [][2]uint64{{far - 1, 1}, {1, far - 1}, {far / 2, far / 2}, {far - 1, far - 1}, {1, greatest}, {0, far}, {0, greatest}, {2, greatest - 1}} {
		w := net(0, 1, x[0], 1, 2, x[1])
		w.never(t, 0, 2)
		w.no(t, 0, 2, greatest, 0, 1)
		w.exactly(t, 0, 1, x[0])
		w.add(edge(0, 2, far-1)) // another way is not lost by it
		w.exactly(t, 0, 2, far-1)
	}
	for _, weight := range []uint64{far, far + 1, greatest - 1, greatest} {
		w := net(0, 1, weight, 0, 2, 1)
		w.never(t, 0, 1)
		w.no(t, 0, 1, greatest, 0, 2)
		net(0, 0, weight).never(t, 0, 1)
	}
	w := net(0, 1, far-1, 1, 2, 0, 2, 3, 0, 3, 4, 1) // what weighs nothing can be added to all that there is
	w.exactly(t, 0, 3, far-1)
	w.no(t, 0, 4, greatest, 0, 1, 2, 3)
	net(0, 1, 5, 1, 2, greatest-4).never(t, 0, 2) // 0 and 1, if it wrapped
	net(0, 1, 5, 1, 2, greatest-3).never(t, 0, 2)
}

func TestMostIsGreatest(t *testing.T) { // P14.1
	example().yes(t, 0, 2, greatest, 0, 1)
	example().no(t, 2, 0, greatest, 2)
	row(16, 1).yes(t, 0, 15, greatest, upTo(15)...)
	row(16, 1).no(t, 0, 16, greatest, upTo(16)...)
	net(0, 1, far-1).yes(t, 0, 1, greatest, 0)
}

func TestVerticesAtTheEnds(t *testing.T) { // P14.1
	ends := []uint32{0, 1, api.MaxN - 1, api.MaxN, api.MaxN + 1, last - 1, last}
	for _, a := range ends {
		for _, b := range ends {
			for _, c := range ends {
				if a == b || a == c || b == c {
					continue
				}
				w := of([]api.Edge{edge(a, b, 1), edge(b, c, 2), edge(a, c, 4)})
				w.yes(t, a, c, 3, a, b)
				w.no(t, a, c, 2, a, b)
				w.no(t, b, a, 9, b, c)
				w.without(b).yes(t, a, c, 4, a)
				w.without(c).no(t, a, c, 9, a, b)
				w.rotten(api.ErrRot, b).fails(t, a, c, 3, api.ErrRot, a, b)
			}
		}
	}
}

func TestTies(t *testing.T) { // P14.1: the lesser number is settled first
	w := net(5, 9, 2, 5, 3, 2, 5, uint64(last), 2, 5, 0, 2, 5, 1<<31, 2, 5, 7, 1, 5, 1, 3)
	w.no(t, 5, 2, 9, 5, 7, 0, 3, 9, 1<<31, last, 1)
	w.no(t, 5, 2, 2, 5, 7, 0, 3, 9, 1<<31, last)
	w.yes(t, 5, 9, 2, 5, 7, 0, 3)
	w.yes(t, 5, last, 2, 5, 7, 0, 3, 9, 1<<31)
	w.yes(t, 5, 0, 2, 5, 7)
	zero := net(4, 6, 0, 6, 2, 0, 4, 8, 0, 2, 7, 0, 4, 5, 0)
	zero.no(t, 4, 9, 0, 4, 5, 6, 2, 7, 8) // each as it is come to, not in the order of the edges
	late := net(0, 3, 1, 0, 5, 2, 3, 4, 1, 3, 6, 1)
	late.no(t, 0, 9, 2, 0, 3, 4, 5, 6) // come to by different ways, at one distance
}

func TestTiesAtTheEnd(t *testing.T) { // P14.1: who is the last to be settled hangs on the number
	star := net()
	for i := range uint32(16) {
		star.add(edge(100, 16-i, 7))
	}
	asked := slices.Concat([]uint32{100}, upTo(17)[1:])
	for to := uint32(1); to <= 15; to++ {
		star.yes(t, 100, to, 7, asked[:to]...)
	}
	star.no(t, 100, 16, 7, asked[:16]...)
	star.no(t, 100, 99, 7, asked[:16]...)
}

func TestComeToAtALesserDistance(t *testing.T) { // P14.1
	w := net(0, 1, 9, 0, 2, 1, 2, 1, 3, 1, 3, 1) // 1 at 9, then at 4
	w.exactly(t, 0, 1, 4)
	w.exactly(t, 0, 3, 5)
	w.no(t, 0, 9, 100, 0, 2, 1, 3)
	w.yes(t, 0, 3, 5, 0, 2, 1)
	again := net(0, 9, 50, 0, 1, 1, 1, 9, 40, 1, 2, 1, 2, 9, 30, 2, 3, 1, 3, 9, 20, 3, 4, 1, 4, 9, 10, 9, 8, 1) // again and again
	again.exactly(t, 0, 9, 14)
	again.exactly(t, 0, 8, 15)
	again.no(t, 0, 7, 100, 0, 1, 2, 3, 4, 9, 8)
	just := net(0, 1, 5, 0, 2, 1, 2, 1, 3) // by one
	just.exactly(t, 0, 1, 4)
	just.no(t, 0, 9, 100, 0, 2, 1)
	past := net(0, 1, 9, 0, 3, 5, 0, 2, 1, 2, 1, 3) // and ahead of another one
	past.no(t, 0, 9, 100, 0, 2, 1, 3)
}

func TestComeToAtAnEqualOrGreaterDistance(t *testing.T) { // P14.1
	equal := net(0, 1, 4, 0, 2, 1, 2, 1, 3, 1, 3, 1)
	equal.exactly(t, 0, 1, 4)
	equal.exactly(t, 0, 3, 5)
	equal.no(t, 0, 9, 100, 0, 2, 1, 3)
	for _, more := range []uint64{4, 5, 100, far - 2} {
		w := net(0, 1, 4, 0, 2, 1, 2, 1, more, 1, 3, 1)
		w.exactly(t, 0, 1, 4)
		w.exactly(t, 0, 3, 5)
		w.no(t, 0, 9, 100, 0, 2, 1, 3)
	}
	settled := net(0, 1, 1, 0, 2, 2, 2, 1, 1, 2, 0, 1, 1, 3, 5, 2, 3, 9) // where it is settled already
	settled.exactly(t, 0, 3, 6)
	settled.no(t, 0, 9, 100, 0, 1, 2, 3)
}

func TestAvoided(t *testing.T) { // P14.1
	w := row(4, 1)
	w.without(4).no(t, 0, 4, 100, 0, 1, 2, 3) // as the last
	w.without(2).no(t, 0, 4, 100, 0, 1)       // in the middle
	w.without(1).no(t, 0, 4, 100, 0)
	w.without(0).yes(t, 0, 4, 4, 0, 1, 2, 3)
	w.without(5, 9, last).yes(t, 0, 4, 4, 0, 1, 2, 3)
	w.without(1, 2, 3, 4).no(t, 0, 4, 100, 0)
	around := net(0, 1, 1, 1, 4, 1, 0, 2, 2, 2, 4, 2, 0, 3, 3, 3, 4, 3) // by 1, by 2, by 3
	around.exactly(t, 0, 4, 2)
	around.without(1).exactly(t, 0, 4, 4)
	around.without(1, 2).exactly(t, 0, 4, 6)
	around.without(2, 3).exactly(t, 0, 4, 2)
	around.without(1, 2, 3).never(t, 0, 4)
	around.without(4).never(t, 0, 4)
	around.without(1).no(t, 0, 4, 3, 0, 2, 3) // who is avoided is not settled
	around.without(1, 2).yes(t, 0, 4, 6, 0, 3)
}

func TestAvoidedAreNotCounted(t *testing.T) { // P14.1: of those that are settled
	star := net()
	var shunned []uint32
	for i := uint32(1); i <= 40; i++ {
		star.add(edge(0, i, uint64(i)))
		if i%2 == 0 {
			shunned = append(shunned, i)
		}
	}
	w := star.without(shunned...)
	w.yes(t, 0, 29, 100, 0, 1, 3, 5, 7, 9, 11, 13, 15, 17, 19, 21, 23, 25, 27)
	w.no(t, 0, 31, 100, 0, 1, 3, 5, 7, 9, 11, 13, 15, 17, 19, 21, 23, 25, 27, 29)
	w.no(t, 0, 2, 100, 0, 1, 3, 5, 7, 9, 11, 13, 15, 17, 19, 21, 23, 25, 27, 29)
}

func TestSettle(t *testing.T) { // P14.1
	if api.Settle != settle {
		t.Fatalf("Settle is %d", api.Settle)
	}
	for _, weight := range []uint64{0, 1, 1000} {
		w := row(40, weight)
		for to := range uint32(16) { // to is the last one that is taken of 16
			w.yes(t, 0, to, greatest, upTo(int(to))...)
		}
		for to := uint32(16); to <= 41; to++ { // the one behind them, and those behind that one
			w.no(t, 0, to, greatest, upTo(16)...)
		}
		w.no(t, 0, last, greatest, upTo(16)...)
	}
	row(15, 1).no(t, 0, 99, 100, upTo(16)...) // none is left behind them
	row(14, 1).no(t, 0, 99, 100, upTo(15)...)
	w := row(40, 1) // from another one on
	w.yes(t, 20, 35, 100, upTo(35)[20:]...)
	w.no(t, 20, 36, 100, upTo(36)[20:]...)
}

func TestSettleOfAStar(t *testing.T) { // P14.1
	star := net()
	for i := uint32(30); i > 0; i-- {
		star.add(edge(0, i, uint64(i)))
	}
	for to := uint32(1); to <= 15; to++ {
		star.exactly(t, 0, to, uint64(to))
	}
	for to := uint32(16); to <= 30; to++ {
		star.never(t, 0, to)
		star.no(t, 0, to, greatest, upTo(16)...)
	}
	star.without(3).exactly(t, 0, 16, 16)
	star.without(3).never(t, 0, 17)
	star.add(edge(1, 16, 0)) // ahead of those that stood ahead of it
	star.exactly(t, 0, 16, 1)
	star.never(t, 0, 15)
}

func TestErrorsOfFrom(t *testing.T) { // P14.1, Errors
	for _, e := range []api.Errno{1, 2, 3, 4, 5, 6, 7, 8, 9, 10, 11, 12, 13, 14, 15, 1 << 40, -1} { // whatever it is
		w := example().rotten(e, 0)
		w.fails(t, 0, 2, 4, e, 0)
		w.fails(t, 0, 2, 0, e, 0)
		w.fails(t, 0, 9, greatest, e, 0)
		w.without(0, 1, 2).fails(t, 0, 2, 4, e, 0)
		net().rotten(e, 3).fails(t, 3, 4, 0, e, 3)
	}
}

func TestErrorsOnTheWay(t *testing.T) { // P14.1, Errors
	for bad := uint32(1); bad <= 15; bad++ { // up to the last one that may be settled
		w := row(16, 2).rotten(api.ErrRot, bad)
		w.yes(t, 0, bad, 100, upTo(int(bad))...) // up to it nothing is wrong
		w.fails(t, 0, bad+1, 100, api.ErrRot, upTo(int(bad)+1)...)
		w.fails(t, 0, 99, 100, api.ErrRot, upTo(int(bad)+1)...)
		w.fails(t, 0, bad+1, uint64(bad)*2, api.ErrRot, upTo(int(bad)+1)...)
		w.no(t, 0, bad+1, uint64(bad)*2-1, upTo(int(bad))...)
	}
	both := net(0, 1, 2, 0, 2, 1, 1, 3, 1, 2, 3, 1).rotten(api.ErrDead, 1, 2) // of several the one that is taken first
	both.fails(t, 0, 3, 100, api.ErrRot, 0, 2)
	both.without(2).fails(t, 0, 3, 100, api.ErrDead, 0, 1)
	tie := net(0, 2, 1, 0, 1, 1).rotten(api.ErrDead, 1, 2)
	tie.fails(t, 0, 3, 100, api.ErrDead, 0, 1)
	aside := net(0, 1, 1, 0, 2, 5).rotten(api.ErrRot, 1) // though no way leads by it
	aside.fails(t, 0, 2, 5, api.ErrRot, 0, 1)
}

func TestErrorsThatDoNotCount(t *testing.T) { // P14.1: of vertices that are never taken
	w := net(0, 1, 1, 1, 2, 1, 2, 3, 1, 0, 4, 9, 7, 8, 1)
	w.rotten(api.ErrRot, 3, 4, 7, 8).yes(t, 0, 2, 2, 0, 1)   // behind to
	w.rotten(api.ErrRot, 2, 3, 4, 7).yes(t, 0, 2, 100, 0, 1) // to itself
	w.rotten(api.ErrRot, 4, 7, 8).no(t, 0, 5, 8, 0, 1, 2, 3) // above most
	w.rotten(api.ErrRot, 7, 8, 5).no(t, 0, 5, 100, 0, 1, 2, 3, 4)
	w.without(1).rotten(api.ErrRot, 1, 2, 3).no(t, 0, 5, 100, 0, 4)
	row(40, 1).rotten(api.ErrRot, 16, 17, 18).no(t, 0, 16, 100, upTo(16)...) // behind Settle settled ones
	row(40, 1).rotten(api.ErrRot, 16, 17, 18).no(t, 0, 99, 100, upTo(16)...)
	net(0, 1, greatest).rotten(api.ErrRot, 1).no(t, 0, 2, greatest, 0)
}

func TestErrorBesideEdges(t *testing.T) { // P14.1: the edges do not count
	w := net(0, 1, 1, 1, 2, 1).rotten(api.ErrRot, 0)
	w.fails(t, 0, 1, 100, api.ErrRot, 0)
	w.fails(t, 0, 2, 100, api.ErrRot, 0)
}

func TestWhichRuleAnswersFirst(t *testing.T) { // P14.1
	w := net(0, 1, 5)
	w.no(t, 0, 1, 4, 0) // a distance above most: ahead of to
	w.rotten(api.ErrRot, 1).no(t, 0, 1, 4, 0)
	w.rotten(api.ErrRot, 1).no(t, 0, 2, 4, 0)  // and of an error
	w.rotten(api.ErrRot, 1).yes(t, 0, 1, 5, 0) // to: ahead of an error
	w.rotten(api.ErrRot, 1).fails(t, 0, 2, 5, api.ErrRot, 0, 1)
	w.rotten(api.ErrRot, 0).yes(t, 0, 0, 0)
	w.rotten(api.ErrRot, 0).fails(t, 0, 1, 4, api.ErrRot, 0) // taken ahead of what is above most
	full := row(40, 1)
	full.no(t, 0, 16, 16, upTo(16)...) // Settle settled: ahead of to
	full.rotten(api.ErrRot, 16).no(t, 0, 16, 16, upTo(16)...)
	full.rotten(api.ErrRot, 16).no(t, 0, 17, 99, upTo(16)...) // and of an error
	full.rotten(api.ErrRot, 15).yes(t, 0, 15, 15, upTo(15)...)
	full.rotten(api.ErrRot, 15).fails(t, 0, 16, 99, api.ErrRot, upTo(16)...)
	full.rotten(api.ErrRot, 15).no(t, 0, 16, 14, upTo(15)...)
	full.no(t, 0, 16, 15, upTo(16)...) // both at once
}

func TestAskedOf(t *testing.T) { // P14.1: of those that are settled, once each, in their order
	w := net(0, 1, 4, 0, 2, 2, 0, 3, 7, 2, 1, 1, 2, 4, 9, 1, 3, 1, 1, 2, 1, 3, 0, 1, 3, 4, 1, 4, 4, 1)
	w.no(t, 0, 9, 100, 0, 2, 1, 3, 4)
	w.no(t, 0, 9, 5, 0, 2, 1, 3, 4)
	w.no(t, 0, 9, 4, 0, 2, 1, 3)
	w.no(t, 0, 9, 3, 0, 2, 1)
	w.no(t, 0, 9, 1, 0)
	w.no(t, 4, 9, 100, 4)
	w.yes(t, 0, 4, 5, 0, 2, 1, 3)
	w.yes(t, 0, 4, 100, 0, 2, 1, 3)
	all := net() // each with each
	for a := range uint32(16) {
		for b := range uint32(16) {
			all.add(edge(a, b, uint64(a*7+b*5)%11))
		}
	}
	for from := range uint32(16) {
		_, e, asked := all.find(from, 99, greatest)
		if slices.Sort(asked); e != api.OK || !slices.Equal(asked, upTo(16)) {
			t.Errorf("Find of %d to 99: %d, asked %v", from, e, asked)
		}
	}
}

func TestHeadAndWeightAlone(t *testing.T) { // Words: tail and middle do not count
	w := net()
	w.edges[0] = []api.Edge{{Tail: 9, Head: 1, Weight: 2, Mid: 4}, {Tail: last, Head: 2, Weight: 5}}
	w.edges[1] = []api.Edge{{Tail: 2, Head: 2, Weight: 2, Mid: 2}, {Tail: 1, Head: 2, Weight: 3, Mid: api.None}}
	w.edges[9] = []api.Edge{{Tail: 0, Head: 2, Weight: 0}}
	w.exactly(t, 0, 2, 4)
	w.without(1).exactly(t, 0, 2, 5)
	w.without(4, 9).exactly(t, 0, 2, 4)
	w.no(t, 0, 3, 100, 0, 1, 2)
}

func TestWhatOutAnswersIsNotChanged(t *testing.T) { // R3
	w := net()
	for v := range uint32(20) {
		var l []api.Edge
		for i := range uint32(40) { // in no order, some of one pair
			l = append(l, api.Edge{Tail: i, Head: i * 7 % 23, Weight: uint64(i * 13 % 17), Mid: v})
		}
		w.edges[v] = l[:30] // with room behind the end
	}
	was := map[uint32][]api.Edge{}
	for v, l := range w.edges {
		was[v] = slices.Clone(l[:cap(l)])
	}
	for from := range uint32(20) {
		for _, most := range []uint64{0, 3, 100} {
			w.find(from, 99, most)
			w.find(from, 22, most)
			w.rotten(api.ErrRot, 3).find(from, 99, most)
		}
	}
	for v, l := range w.edges {
		if !slices.Equal(l[:cap(l)], was[v]) {
			t.Errorf("the edges of %d: %v; were %v", v, l[:cap(l)], was[v])
		}
	}
}

func TestNothingIsKept(t *testing.T) { // R3, R5
	w := net(0, 1, 2, 1, 2, 2)
	w.exactly(t, 0, 2, 4)
	w.edges[1][0].Weight = 7 // another world
	w.exactly(t, 0, 2, 9)
	w.edges[0][0].Head = 3
	w.never(t, 0, 2)
	example().exactly(t, 0, 2, 4)
}
