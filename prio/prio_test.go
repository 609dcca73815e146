package prio_test

import (
	"math"
	"math/big"
	"testing"

	"milepost/api"
	"milepost/prio"
)

const (
	start    = 1048576    // 2^20: the key of noughts alone
	most     = 1073741824 // 2^30: what cuts
	greatest = 4294967295 // the greatest uint32
)

// call is what one call is handed.
type call struct {
	ins, outs, shortcuts int
	v                    api.Vert
}

func (c call) key() uint64 { return prio.Key(c.ins, c.outs, c.shortcuts, c.v) }

// gives fails the test if the key of the call is another one.
func (c call) gives(t *testing.T, want uint64) {
	t.Helper()
	if got := c.key(); got != want {
		t.Errorf("Key of %+v: %d, not %d", c, got, want)
	}
}

// gone and level are vertices of which one number alone is not 0.
func gone(n uint32) api.Vert  { return api.Vert{Gone: n} }
func level(n uint32) api.Vert { return api.Vert{Level: n} }

// cutNumber is Cut of the chapter's words, of numbers without an end.
func cutNumber(n int) *big.Int {
	switch {
	case n < 0:
		return big.NewInt(0)
	case n > most:
		return big.NewInt(most)
	}
	return big.NewInt(int64(n))
}

// model is the chapter's sum, of numbers without an end.
func (c call) model() uint64 {
	key := big.NewInt(start)
	key.Add(key, cutNumber(c.shortcuts))
	key.Add(key, cutNumber(c.shortcuts))
	key.Add(key, new(big.Int).SetUint64(uint64(c.v.Gone)))
	key.Add(key, new(big.Int).SetUint64(uint64(c.v.Level)))
	key.Sub(key, cutNumber(c.ins))
	key.Sub(key, cutNumber(c.outs))
	if key.Sign() < 0 {
		return 0
	}
	return key.Uint64()
}

func TestExamples(t *testing.T) { // P15.1
	call{}.gives(t, 1048576)
	call{3, 2, 4, api.Vert{Gone: 1, Level: 5}}.gives(t, 1048585)
	call{ins: -1, shortcuts: -9}.gives(t, 1048576)
	call{ins: 1 << 30}.gives(t, 0)
	call{shortcuts: 1 << 40}.gives(t, 2148532224)
}

func TestInsAlone(t *testing.T) { // P15.1: up to 2^20 they go down by 1 each, from there on the key is 0
	for _, x := range []struct {
		ins  int
		want uint64
	}{
		{0, 1048576}, {1, 1048575}, {2, 1048574}, {1000, 1047576}, {1048575, 1}, {1048576, 0}, {1048577, 0},
		{most - 1, 0}, {most, 0}, {most + 1, 0}, {math.MaxInt - 1, 0}, {math.MaxInt, 0},
		{-1, 1048576}, {-2, 1048576}, {-1048576, 1048576}, {-most, 1048576}, {-most - 1, 1048576}, {math.MinInt + 1, 1048576}, {math.MinInt, 1048576},
		{1 << 31, 0}, {1 << 32, 0}, {1 << 62, 0}, {-1 << 31, 1048576}, {-1 << 32, 1048576}, {-1 << 62, 1048576},
	} {
		call{ins: x.ins}.gives(t, x.want)
		call{outs: x.ins}.gives(t, x.want) // the outs just so
	}
}

func TestWhereInsAndOutsAreCut(t *testing.T) { // P15.1: with a key so great that nothing is hidden by the 0
	const high = 1048576 + 2*greatest
	full := api.Vert{Gone: greatest, Level: greatest}
	for _, x := range []struct {
		n    int
		down uint64
	}{
		{0, 0}, {1, 1}, {most - 1, 1073741823}, {most, 1073741824}, {most + 1, 1073741824}, {2 * most, 1073741824},
		{1 << 32, 1073741824}, {1<<32 + 1, 1073741824}, {1 << 40, 1073741824}, {math.MaxInt, 1073741824},
		{-1, 0}, {-most, 0}, {-1 << 32, 0}, {1 - 1<<32, 0}, {math.MinInt, 0}, {math.MinInt + 1, 0},
	} {
		call{ins: x.n, v: full}.gives(t, high-x.down)
		call{outs: x.n, v: full}.gives(t, high-x.down)
		call{ins: x.n, outs: x.n, v: full}.gives(t, high-2*x.down) // each is cut by itself, not their sum
		call{ins: x.n, outs: most, v: full}.gives(t, high-most-x.down)
		call{ins: 5, outs: x.n, v: full}.gives(t, high-5-x.down)
	}
}

func TestShortcutsAlone(t *testing.T) { // P15.1: each goes up by 2, cut ahead of that
	for _, x := range []struct {
		shortcuts int
		want      uint64
	}{
		{0, 1048576}, {1, 1048578}, {2, 1048580}, {1000, 1050576},
		{most/2 - 1, 1074790398}, {most / 2, 1074790400}, {most/2 + 1, 1074790402},
		{most - 1, 2148532222}, {most, 2148532224}, {most + 1, 2148532224},
		{2 * most, 2148532224}, {1 << 32, 2148532224}, {1<<32 + 3, 2148532224}, {1 << 62, 2148532224},
		{math.MaxInt - 1, 2148532224}, {math.MaxInt, 2148532224},
		{-1, 1048576}, {-2, 1048576}, {-most, 1048576}, {-most - 1, 1048576}, {-1 << 32, 1048576}, {math.MinInt + 1, 1048576}, {math.MinInt, 1048576},
	} {
		call{shortcuts: x.shortcuts}.gives(t, x.want)
	}
}

func TestGoneAndLevelAlone(t *testing.T) { // P15.1: neither is cut
	for _, x := range []struct {
		n    uint32
		want uint64
	}{
		{0, 1048576}, {1, 1048577}, {2, 1048578}, {most - 1, 1074790399}, {most, 1074790400}, {most + 1, 1074790401},
		{1<<31 - 1, 2148532223}, {1 << 31, 2148532224}, {1<<31 + 1, 2148532225}, {greatest - 1, 4296015870}, {greatest, 4296015871},
	} {
		call{v: gone(x.n)}.gives(t, x.want)
		call{v: level(x.n)}.gives(t, x.want)
	}
}

func TestGoneAndLevelTogether(t *testing.T) { // P15.1: their sum does not wrap, and is not cut
	for _, x := range []struct {
		gone, level uint32
		want        uint64
	}{
		{1, 1, 1048578}, {1, 2, 1048579}, {2, 1, 1048579}, {most, most, 2148532224}, {most, 1, 1074790401},
		{0, greatest, 4296015871}, {greatest, 0, 4296015871}, {1, greatest, 4296015872}, {greatest, 1, 4296015872}, {greatest, greatest, 8590983166},
	} {
		call{v: api.Vert{Gone: x.gone, Level: x.level}}.gives(t, x.want)
	}
}

func TestSumsNearNought(t *testing.T) { // P15.1: 0 and 1 exactly, and below 0
	for _, x := range []struct {
		c    call
		want uint64
	}{
		// what goes down is 2^20 by itself, or one more, or one less
		{call{ins: 1048576}, 0}, {call{outs: 1048576}, 0}, {call{ins: 524288, outs: 524288}, 0},
		{call{ins: 1048575}, 1}, {call{outs: 1048575}, 1}, {call{ins: 524287, outs: 524288}, 1}, {call{ins: 524288, outs: 524287}, 1},
		{call{ins: 1048577}, 0}, {call{outs: 1048577}, 0}, {call{ins: 524289, outs: 524288}, 0},
		// what goes up stands against it
		{call{ins: 1048578, shortcuts: 1}, 0}, {call{outs: 1048578, shortcuts: 1}, 0}, {call{ins: 1048577, shortcuts: 1}, 1}, {call{outs: 1048579, shortcuts: 1}, 0},
		{call{ins: 1048577, v: gone(1)}, 0}, {call{ins: 1048577, v: gone(2)}, 1}, {call{ins: 1048578, v: gone(1)}, 0},
		{call{outs: 1048577, v: level(1)}, 0}, {call{outs: 1048577, v: level(2)}, 1}, {call{outs: 1048578, v: level(1)}, 0},
		{call{1048576, 8, 2, api.Vert{Gone: 3, Level: 1}}, 0}, {call{1048576, 7, 2, api.Vert{Gone: 3, Level: 1}}, 1}, {call{1048576, 9, 2, api.Vert{Gone: 3, Level: 1}}, 0},
		// at the cut
		{call{ins: most, shortcuts: most / 2}, 1048576}, {call{ins: most, outs: 1048576, shortcuts: most / 2}, 0}, {call{ins: most, outs: 1048575, shortcuts: most / 2}, 1},
		{call{ins: most, outs: 1048577, shortcuts: most / 2}, 0}, {call{ins: most, outs: most, shortcuts: most}, 1048576},
		{call{ins: most, outs: most, shortcuts: most - 524288}, 0}, {call{ins: most, outs: most, shortcuts: most - 524288, v: gone(1)}, 1}, {call{ins: most, outs: most, shortcuts: most - 524289}, 0},
		{call{ins: most, v: gone(most - 1048576)}, 0}, {call{ins: most, v: gone(most - 1048575)}, 1}, {call{ins: most, v: level(most - 1048577)}, 0},
		{call{ins: most, outs: most, v: api.Vert{Gone: most, Level: most - 1048576}}, 0}, {call{ins: most, outs: most, v: api.Vert{Gone: most, Level: most - 1048575}}, 1},
		// far below
		{call{ins: most, outs: most}, 0}, {call{ins: math.MaxInt, outs: math.MaxInt}, 0}, {call{ins: math.MaxInt, outs: math.MaxInt, shortcuts: math.MinInt}, 0},
		{call{ins: most, outs: most, v: gone(most)}, 0}, {call{ins: most, outs: most, v: gone(1)}, 0},
		// below 0 by one side's numbers that are cut, not those themselves
		{call{ins: math.MinInt, outs: 1048576}, 0}, {call{ins: math.MinInt, outs: 1048575}, 1}, {call{ins: -5, outs: 1048576, shortcuts: -5}, 0}, {call{ins: 1048576, outs: -7}, 0},
	} {
		x.c.gives(t, x.want)
	}
}

func TestRankDoesNotCount(t *testing.T) { // P15.1
	for _, c := range edges() {
		want := c.key()
		for _, rank := range []uint32{1, 7, most, 1 << 31, greatest - 1, greatest} {
			c.v.Rank = rank
			c.gives(t, want)
		}
	}
}

func TestAllAtTheirEnds(t *testing.T) { // P15.1
	full := api.Vert{Rank: greatest, Gone: greatest, Level: greatest}
	call{math.MaxInt, math.MaxInt, math.MaxInt, full}.gives(t, 8590983166)
	call{math.MinInt, math.MinInt, math.MinInt, full}.gives(t, 8590983166)
	call{math.MinInt, math.MinInt, math.MinInt, api.Vert{}}.gives(t, 1048576)
	call{math.MaxInt, math.MaxInt, math.MaxInt, api.Vert{}}.gives(t, 1048576)
	call{0, 0, math.MaxInt, full}.gives(t, 10738466814) // no key is greater
	call{math.MinInt, math.MinInt, math.MaxInt, full}.gives(t, 10738466814)
	call{math.MaxInt, math.MaxInt, 0, full}.gives(t, 6443499518)
	call{math.MaxInt, math.MaxInt, math.MinInt, api.Vert{Rank: greatest}}.gives(t, 0)
}

// edges are calls of every number at each of its edges, with all others at some of theirs.
func edges() []call {
	var all []call
	downs := []int{math.MinInt, -1, 0, 1, 524288, 1048576, most - 1, most, most + 1, math.MaxInt}
	ups := []int{math.MinInt, -1, 0, 1, 524287, most / 2, most - 1, most, most + 1, math.MaxInt}
	kept := []uint32{0, 1, 1048576, most, most + 1, greatest}
	for _, ins := range downs {
		for _, outs := range downs {
			for _, shortcuts := range ups {
				for _, g := range kept {
					for _, l := range kept {
						all = append(all, call{ins, outs, shortcuts, api.Vert{Gone: g, Level: l}})
					}
				}
			}
		}
	}
	return all
}

func TestEdgesAgainstTheModel(t *testing.T) { // P15.1, R1, R5, and that no key is above 2^40
	for _, c := range edges() {
		c.gives(t, c.model())
		c.gives(t, c.key()) // asked once more
		if c.key() > 1<<40 {
			t.Errorf("Key of %+v is above 2^40: %d", c, c.key())
		}
	}
}

// more are the calls with one more of one number, and what that makes of a key where nothing is cut and no key is 0.
func (c call) more() (next [5]call, step [5]int64) {
	for i := range next {
		next[i] = c
	}
	next[0].shortcuts++
	next[1].v.Gone++
	next[2].v.Level++
	next[3].ins++
	next[4].outs++
	return next, [5]int64{2, 1, 1, -1, -1}
}

func TestOneMore(t *testing.T) { // P15.1, What follows
	for _, c := range []call{
		{}, {ins: 1048574}, {outs: 1048574}, {1, 2, 3, api.Vert{Rank: 9, Gone: 4, Level: 5}}, {9, 8, 7, api.Vert{Gone: 6, Level: 5}},
		{most - 1, 0, most - 1, api.Vert{}}, {0, most - 1, most - 1, api.Vert{Gone: 1}}, {most - 1, most - 1, most - 1, api.Vert{Level: 2}},
		{most - 1, most - 1, 0, api.Vert{Gone: greatest - 1, Level: 0}}, {most - 1, most - 1, 0, api.Vert{Gone: 0, Level: greatest - 1}}, {0, 0, most - 1, api.Vert{Gone: greatest - 1, Level: greatest - 1}},
	} {
		next, step := c.more()
		for i, n := range next {
			if got := int64(n.key()) - int64(c.key()); got != step[i] {
				t.Errorf("one more of number %d of %+v: %d, not %d", i, c, got, step[i])
			}
		}
	}
}

func TestOneMoreNeverTurns(t *testing.T) { // P15.1, What follows: cut or not, at 0 or not
	for _, c := range edges() {
		next, step := c.more()
		for i, n := range next {
			if n.ins == math.MinInt && c.ins == math.MaxInt || n.outs == math.MinInt && c.outs == math.MaxInt || n.shortcuts == math.MinInt && c.shortcuts == math.MaxInt || n.v.Gone < c.v.Gone || n.v.Level < c.v.Level {
				continue // it wrapped: that is not one more
			}
			got := int64(n.key()) - int64(c.key())
			if step[i] > 0 && (got < 0 || got > step[i]) || step[i] < 0 && (got > 0 || got < step[i]) {
				t.Errorf("one more of number %d of %+v: %d", i, c, got)
			}
		}
	}
}
