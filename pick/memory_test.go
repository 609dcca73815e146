package pick_test

import (
	"slices"
	"testing"

	"milepost/api"
	"milepost/pick"
)

// spoil writes into all that an answer has, the room behind its end too.
func spoil(l []uint32) {
	l = l[:cap(l)]
	for i := range l {
		l[i] = 0xdeadbeef
	}
}

func TestTheAnswerIsNewMemory(t *testing.T) { // R3
	by := mixer(3)
	for _, l := range [][]api.Cand{
		list(of(1, 5, 1), of(2, 5, 1, 2), of(3, 5, 1, 3)),
		list(of(1, 5, 1)),
		list(of(3, 5, 1, 2, 3), of(2, 6, 7), of(1, 7, 8)),
		list(of(0, 0), of(1, 1), of(2, 2)),
		list(of(9, 0, 1), of(9, 1, 9)),
		madeUp(&by, 300, 300, 3, 9),
	} {
		was := deep(l)
		one, other := pick.Pick(l), pick.Pick(l)
		want := slices.Clone(one)
		spoil(one)
		stays(t, l, was)
		if !slices.Equal(other, want) {
			t.Errorf("Pick of %v: an answer was turned by what was written into another one: %v, not %v", short(l), short(other), short(want))
		}
		gives(t, l, want...)
	}
}

func TestTheRoomBehindAnEnd(t *testing.T) { // R3: it is not looked at, and stays
	whole := list(of(1, 5), of(2, 6), of(3, 0, 1, 2), of(1, 0, 2), of(4, 1))
	gives(t, whole[:2], 1, 2)
	gives(t, whole[:3], 3)
	gives(t, whole[:0])
	gives(t, whole[1:2], 2)
	names := []uint32{9, 2, 1, 3}
	gives(t, list(of(1, 5, names[:1]...), of(2, 6)), 1, 2)
	gives(t, list(of(1, 5, names[:2]...), of(2, 6)), 1)
	gives(t, list(of(1, 5, names[:0]...), of(2, 6, names[:1]...), of(3, 0)), 1, 2, 3)
}

func TestNearThatShareMemory(t *testing.T) { // R3
	names := []uint32{1, 2, 3, 4}
	each(t, list(of(1, 4, names...), of(2, 3, names...), of(3, 2, names...), of(4, 1, names...)), 4)
	each(t, list(of(1, 4, names[1:2]...), of(2, 3, names[1:3]...), of(3, 5, names[2:3]...), of(4, 1, names[3:]...)), 2, 4)
	if !slices.Equal(names, []uint32{1, 2, 3, 4}) {
		t.Errorf("the names were turned: %v", names)
	}
}

func TestNothingIsKept(t *testing.T) { // R3, R5: an answer hangs on its own list alone
	l := list(of(1, 5, 2), of(2, 4))
	gives(t, l, 2)
	l[0].Key = 3
	gives(t, l, 1)
	l[0].Near[0] = 9
	gives(t, l, 1, 2)
	l[1] = of(1, 0, 2)
	gives(t, l, 1)
	gives(t, list(of(2, 9)), 2)
	gives(t, nil)
}
