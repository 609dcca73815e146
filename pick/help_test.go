package pick_test

import (
	"math"
	"slices"
	"testing"

	"milepost/api"
	"milepost/pick"
)

const (
	last     uint32 = math.MaxUint32
	greatest uint64 = math.MaxUint64
)

// of is a candidate.
func of(v uint32, key uint64, near ...uint32) api.Cand {
	return api.Cand{V: v, Key: key, Near: near}
}

// list is a list of candidates.
func list(l ...api.Cand) []api.Cand { return l }

// deep is a copy of a list, of all that its candidates hold, and of the room behind each end.
func deep(l []api.Cand) []api.Cand {
	whole := slices.Clone(l[:cap(l)])
	for i, c := range whole {
		whole[i].Near = slices.Clone(c.Near[:cap(c.Near)])[:len(c.Near)]
	}
	return whole[:len(l)]
}

// stays fails the test if a list, what its candidates hold, or the room behind an end, is not as it was.
func stays(t *testing.T, l, was []api.Cand) {
	t.Helper()
	same := func(a, b api.Cand) bool {
		return a.V == b.V && a.Key == b.Key && len(a.Near) == len(b.Near) && slices.Equal(a.Near[:cap(a.Near)], b.Near[:cap(a.Near)])
	}
	if len(l) != len(was) || !slices.EqualFunc(l[:cap(l)], was[:cap(l)], same) {
		t.Errorf("the list was turned: %v, not %v", short(l[:cap(l)]), short(was[:cap(l)]))
	}
}

// short is a list as it may be told: its beginning alone, if it is long.
func short[T any](l []T) []T { return l[:min(len(l), 20)] }

// gives asks twice, and fails the test if the answer is another one, or the list is turned.
func gives(t *testing.T, l []api.Cand, want ...uint32) {
	t.Helper()
	was := deep(l)
	for range 2 {
		if got := pick.Pick(l); !slices.Equal(got, want) {
			t.Fatalf("Pick of %v: %v, not %v", short(l), short(got), short(want))
		}
	}
	stays(t, l, was)
}

// each asks for a list, in which each vertex stands once, in several orders, and with the names in each Near turned too.
func each(t *testing.T, l []api.Cand, want ...uint32) {
	t.Helper()
	gives(t, l, want...)
	l = deep(l)
	slices.Reverse(l)
	gives(t, l, want...)
	gives(t, slices.Concat(l[len(l)/2:], l[:len(l)/2]), want...)
	for _, c := range l {
		slices.Reverse(c.Near)
	}
	gives(t, l, want...)
	by := mixer(len(l))
	for range 3 {
		by.mix(l)
		gives(t, l, want...)
	}
	slices.SortFunc(l, func(a, b api.Cand) int { return int(int64(a.V) - int64(b.V)) })
	gives(t, l, want...)
}

// mixer tells numbers in no order, always the same ones.
type mixer uint64

// below is the next number, from 0 to n - 1.
func (m *mixer) below(n int) int {
	*m = *m*6364136223846793005 + 1442695040888963407
	return int(uint64(*m) >> 33 % uint64(n))
}

// mix brings a list into no order.
func (m *mixer) mix(l []api.Cand) {
	for i := range l {
		j := m.below(i + 1)
		l[i], l[j] = l[j], l[i]
	}
}

// upTo are the numbers from 0 to n - 1.
func upTo(n int) []uint32 {
	var l []uint32
	for i := range n {
		l = append(l, uint32(i))
	}
	return l
}
