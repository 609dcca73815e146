package witness_test

import (
	"math"
	"slices"
	"testing"

	"milepost/api"
	"milepost/witness"
)

// The limits as the chapters tell them, not as the packages do.
const (
	settle           = 16
	mostItems        = 65536
	far       uint64 = 1 << 63
	greatest  uint64 = math.MaxUint64
	last      uint32 = math.MaxUint32
)

// world is edges by their tails, with the vertices whose edges are not to be had, and those that are avoided. It notes of which vertices out was asked.
type world struct {
	edges   map[uint32][]api.Edge
	bad     map[uint32]api.Errno
	shunned []uint32
	asked   []uint32
}

// edge is one of a tail, a head and a weight, without a middle.
func edge(tail, head uint32, weight uint64) api.Edge {
	return api.Edge{Tail: tail, Head: head, Weight: weight, Mid: api.None}
}

// net is a world of edges of three numbers each: tail, head, weight.
func net(l ...uint64) *world {
	w := &world{edges: map[uint32][]api.Edge{}, bad: map[uint32]api.Errno{}}
	for row := range slices.Chunk(l, 3) {
		w.add(edge(uint32(row[0]), uint32(row[1]), row[2]))
	}
	return w
}

// of is a world of these edges.
func of(l []api.Edge) *world {
	w := net()
	w.add(l...)
	return w
}

// add puts more edges into a world, behind the others.
func (w *world) add(l ...api.Edge) {
	for _, x := range l {
		w.edges[x.Tail] = append(w.edges[x.Tail], x)
	}
}

// without is the same world, where these are avoided too.
func (w *world) without(l ...uint32) *world {
	return &world{edges: w.edges, bad: w.bad, shunned: slices.Concat(w.shunned, l)}
}

// rotten is the same world, where the edges of these are not to be had: the first one's error is e, the next one's e + 1, and so on.
func (w *world) rotten(e api.Errno, l ...uint32) *world {
	bad := map[uint32]api.Errno{}
	for v, was := range w.bad {
		bad[v] = was
	}
	for i, v := range l {
		bad[v] = e + api.Errno(i)
	}
	return &world{edges: w.edges, bad: bad, shunned: w.shunned}
}

// out are the edges from a vertex; beside an error too, where they must not count.
func (w *world) out(v uint32) ([]api.Edge, api.Errno) {
	w.asked = append(w.asked, v)
	return w.edges[v], w.bad[v]
}

// avoid says whether no way goes into a vertex.
func (w *world) avoid(v uint32) bool { return slices.Contains(w.shunned, v) }

// find asks a world, and tells too of which vertices out was asked.
func (w *world) find(from, to uint32, most uint64) (bool, api.Errno, []uint32) {
	w.asked = nil
	found, e := witness.Find(w.out, w.avoid, from, to, most)
	return found, e, w.asked
}

// shorten is a list as it may be told: its ends alone, if it is long.
func shorten(l []uint32) []uint32 {
	if len(l) > 40 {
		return slices.Concat(l[:20], l[len(l)-20:])
	}
	return l
}

// ask asks a world twice, which must answer this both times, with out asked of just these vertices.
func (w *world) ask(t *testing.T, from, to uint32, most uint64, want bool, wantErr api.Errno, wantAsked ...uint32) {
	t.Helper()
	for range 2 {
		found, e, asked := w.find(from, to, most)
		if found != want || e != wantErr || !slices.Equal(asked, wantAsked) {
			t.Errorf("Find of %d to %d, %d, avoiding %v: %v, %d, asked %v; want %v, %d, asked %v", from, to, most, shorten(w.shunned), found, e, shorten(asked), want, wantErr, shorten(wantAsked))
		}
	}
}

// yes asks for a way that must be found.
func (w *world) yes(t *testing.T, from, to uint32, most uint64, asked ...uint32) {
	t.Helper()
	w.ask(t, from, to, most, true, api.OK, asked...)
}

// no asks for a way that must not be found.
func (w *world) no(t *testing.T, from, to uint32, most uint64, asked ...uint32) {
	t.Helper()
	w.ask(t, from, to, most, false, api.OK, asked...)
}

// fails asks for a way, where an error must be answered.
func (w *world) fails(t *testing.T, from, to uint32, most uint64, e api.Errno, asked ...uint32) {
	t.Helper()
	w.ask(t, from, to, most, false, e, asked...)
}

// exactly asks for a way of just that weight: by it, by more, and by less.
func (w *world) exactly(t *testing.T, from, to uint32, weight uint64) {
	t.Helper()
	mosts := []uint64{weight, weight + 1, far - 1, far, greatest}
	if weight > 0 {
		mosts = append(mosts, weight-1, weight/2, 0)
	}
	for _, most := range mosts {
		if found, e, _ := w.find(from, to, most); found != (most >= weight) || e != api.OK {
			t.Errorf("Find of %d to %d, %d, avoiding %v: %v, %d; the way weighs %d", from, to, most, w.shunned, found, e, weight)
		}
	}
}

// never asks for a way that there is not, whatever it may weigh.
func (w *world) never(t *testing.T, from, to uint32) {
	t.Helper()
	for _, most := range []uint64{0, 1, 100, far - 1, far, greatest} {
		if found, e, _ := w.find(from, to, most); found || e != api.OK {
			t.Errorf("Find of %d to %d, %d, avoiding %v: %v, %d", from, to, most, w.shunned, found, e)
		}
	}
}

// upTo are the numbers from 0 to n - 1.
func upTo(n int) []uint32 {
	var l []uint32
	for i := range n {
		l = append(l, uint32(i))
	}
	return l
}

// row is a world of a row of n edges of that weight: 0 to 1, 1 to 2, and so on.
func row(n int, weight uint64) *world {
	w := net()
	for i := range uint32(n) {
		w.add(edge(i, i+1, weight))
	}
	return w
}

// mixer tells numbers in no order, always the same ones.
type mixer uint64

// below is the next number, from 0 to n - 1.
func (m *mixer) below(n uint64) uint64 {
	*m = *m*6364136223846793005 + 1442695040888963407
	return uint64(*m) >> 33 % n
}
