package graph_test

import (
	"math"
	"reflect"
	"slices"
	"testing"

	"wavewright/api"
	"wavewright/graph"
)

const most = api.MaxStacks * api.MaxItems

func made(t *testing.T, needs [][]int) *graph.Graph {
	t.Helper()
	g, err := graph.New(needs)
	if g == nil || err != nil {
		t.Fatalf("New(%v) = %v, %v, want a graph", needs, g, err)
	}
	return g
}

// chain: each needs the one ahead.
func chain(things int) [][]int {
	needs := make([][]int, things)
	for i := 1; i < things; i++ {
		needs[i] = []int{i - 1}
	}
	return needs
}

// full: each needs all ahead.
func full(things int) [][]int {
	needs := make([][]int, things)
	for i := range things {
		needs[i] = upTo(i)
	}
	return needs
}

func upTo(n int) []int {
	l := make([]int, n)
	for i := range l {
		l[i] = i
	}
	return l
}

// singles: each number as a list of its own.
func singles(n int) [][]int {
	var l [][]int
	for i := range n {
		l = append(l, []int{i})
	}
	return l
}

// D1
func TestWavesAndOrder(t *testing.T) {
	cases := []struct{ needs, waves [][]int }{
		{nil, nil}, {[][]int{}, nil},
		{[][]int{nil}, [][]int{{0}}}, {[][]int{nil, {}, nil}, [][]int{{0, 1, 2}}},
		{[][]int{nil, {0}}, [][]int{{0}, {1}}}, {[][]int{{1}, nil}, [][]int{{1}, {0}}}, {[][]int{{1}, {2}, nil}, [][]int{{2}, {1}, {0}}},
		{[][]int{{3}, nil, {1}, nil}, [][]int{{1, 3}, {0, 2}}},
		{[][]int{{1, 2}, {3}, {3}, nil}, [][]int{{3}, {1, 2}, {0}}},
		// one waits for the last of those that it needs
		{[][]int{{3, 1}, nil, {1}, {2}}, [][]int{{1}, {2}, {3}, {0}}}, {[][]int{nil, {0}, {0, 1}, {0, 1, 2}, {0}}, [][]int{{0}, {1, 4}, {2}, {3}}},
		// one may be named often
		{[][]int{{1, 1, 1}, nil}, [][]int{{1}, {0}}}, {[][]int{{2, 1, 2, 1}, {2, 2}, nil}, [][]int{{2}, {1}, {0}}},
		{[][]int{slices.Repeat([]int{1}, 100000), nil}, [][]int{{1}, {0}}},
		{make([][]int, most), [][]int{upTo(most)}}, {chain(most), singles(most)}, {full(most), singles(most)},
	}
	for _, c := range cases {
		g := made(t, c.needs)
		if got, err := g.Waves(); !slices.EqualFunc(got, c.waves, slices.Equal) || err != nil {
			t.Errorf("Waves of %.80v = %v, %v, want %v", c.needs, got, err, c.waves)
		}
		if got, err := g.Order(); !slices.Equal(got, slices.Concat(c.waves...)) || err != nil {
			t.Errorf("Order of %.80v = %v, %v, want %v", c.needs, got, err, slices.Concat(c.waves...))
		}
	}
}

// D1, Z1
func TestNewWrong(t *testing.T) {
	tooMany := func(needs ...[]int) [][]int { return append(needs, make([][]int, most+1-len(needs))...) }
	cases := []struct {
		needs [][]int
		want  error
	}{
		{tooMany(), api.ErrMany}, {tooMany([]int{-1}), api.ErrMany}, {tooMany([]int{most + 1}), api.ErrMany}, {make([][]int, 100000), api.ErrMany},
		{[][]int{{1}}, api.ErrBound}, {[][]int{{0, 1}}, api.ErrBound}, {[][]int{{-1}}, api.ErrBound}, {[][]int{nil, {0, -1, 0}}, api.ErrBound}, {[][]int{nil, {2}, nil, {4}}, api.ErrBound},
		{[][]int{{math.MaxInt}}, api.ErrBound}, {[][]int{{math.MinInt}}, api.ErrBound}, {[][]int{{0, 1, 2}, {0, 1}}, api.ErrBound},
		{append(make([][]int, most-1), []int{most}), api.ErrBound},
	}
	for _, c := range cases {
		if g, err := graph.New(c.needs); g != nil || err != c.want {
			t.Errorf("New(%.80v) = %v, %v, want none, %v", c.needs, g, err, c.want)
		}
	}
}

// circles: graphs in which some need themselves.
func circles() [][][]int {
	round := chain(most)
	round[0] = []int{most - 1}
	return [][][]int{
		{{0}}, {{1}, {0}}, {nil, {1}}, {{1}, {2}, {0}}, {nil, {0, 2}, {1}}, {nil, {3}, {1}, {2}, {3}}, {{0}, nil, nil}, round,
	}
}

// D1, Z1: with an error there is no wave, also none of those that come ahead.
func TestCycle(t *testing.T) {
	for _, needs := range circles() {
		g := made(t, needs)
		if got, err := g.Waves(); len(got) > 0 || err != api.ErrCycle {
			t.Errorf("Waves of %v = %v, %v, want none, %v", needs, got, err, api.ErrCycle)
		}
		if got, err := g.Order(); len(got) > 0 || err != api.ErrCycle {
			t.Errorf("Order of %v = %v, %v, want none, %v", needs, got, err, api.ErrCycle)
		}
	}
}

// D2
func TestUnderAndOver(t *testing.T) {
	needs := [][]int{{3}, nil, {1, 0}, {1, 1}, nil, {4}, {5, 2}, {7}, {9}, {8}}
	cases := []struct{ l, under, over []int }{
		{nil, nil, nil}, {[]int{}, nil, nil},
		{[]int{1}, []int{1}, []int{0, 1, 2, 3, 6}}, {[]int{3}, []int{1, 3}, []int{0, 2, 3, 6}}, {[]int{0}, []int{0, 1, 3}, []int{0, 2, 6}}, {[]int{2}, []int{0, 1, 2, 3}, []int{2, 6}},
		{[]int{4}, []int{4}, []int{4, 5, 6}}, {[]int{6}, []int{0, 1, 2, 3, 4, 5, 6}, []int{6}},
		{[]int{5, 3}, []int{1, 3, 4, 5}, []int{0, 2, 3, 5, 6}}, {[]int{4, 1, 4, 1}, []int{1, 4}, []int{0, 1, 2, 3, 4, 5, 6}},
		// also among those that need themselves
		{[]int{7}, []int{7}, []int{7}}, {[]int{8}, []int{8, 9}, []int{8, 9}}, {[]int{9}, []int{8, 9}, []int{8, 9}}, {[]int{9, 7, 8}, []int{7, 8, 9}, []int{7, 8, 9}},
		{slices.Repeat([]int{5}, 100000), []int{4, 5}, []int{5, 6}},
	}
	g := made(t, needs)
	for _, c := range cases {
		if got, err := g.Under(c.l); !slices.Equal(got, c.under) || err != nil {
			t.Errorf("Under(%.80v) = %v, %v, want %v", c.l, got, err, c.under)
		}
		if got, err := g.Over(c.l); !slices.Equal(got, c.over) || err != nil {
			t.Errorf("Over(%.80v) = %v, %v, want %v", c.l, got, err, c.over)
		}
	}
	for _, needs := range [][][]int{chain(most), full(most)} {
		g := made(t, needs)
		if got, err := g.Under([]int{most - 1}); !slices.Equal(got, upTo(most)) || err != nil {
			t.Errorf("Under of the last one = %v, %v, want all", got, err)
		}
		if got, err := g.Over([]int{0}); !slices.Equal(got, upTo(most)) || err != nil {
			t.Errorf("Over of the first one = %v, %v, want all", got, err)
		}
	}
}

// D2, Z1
func TestUnderAndOverWrong(t *testing.T) {
	g, none := made(t, [][]int{nil, {0}, {1}}), made(t, nil)
	for _, l := range [][]int{{3}, {-1}, {0, 1, 2, 3}, {2, -1, 2}, {math.MaxInt}, {math.MinInt}} {
		for _, ask := range []func([]int) ([]int, error){g.Under, g.Over, none.Under, none.Over} {
			if got, err := ask(l); len(got) > 0 || err != api.ErrBound {
				t.Errorf("of %v: %v, %v, want none, %v", l, got, err, api.ErrBound)
			}
		}
	}
	if got, err := none.Under([]int{0}); len(got) > 0 || err != api.ErrBound {
		t.Errorf("Under(0) of nothing = %v, %v, want %v", got, err, api.ErrBound)
	}
	for _, ask := range []func([]int) ([]int, error){none.Under, none.Over} {
		if got, err := ask(nil); len(got) > 0 || err != nil {
			t.Errorf("of none of nothing: %v, %v", got, err)
		}
	}
}

// dice: numbers that look drawn, the same each time.
type dice uint64

func (d *dice) below(n int) int {
	*d = *d*6364136223846793005 + 1442695040888963407
	return int(uint64(*d>>33) % uint64(n))
}

// drawn: needs of up to ten things, at times such that need themselves.
func (d *dice) drawn() [][]int {
	needs := make([][]int, d.below(11))
	for i := range needs {
		for range d.below(4) {
			to := i
			if to == 0 || d.below(20) == 0 {
				to = len(needs)
			}
			if i > 0 || d.below(9) == 0 {
				needs[i] = append(needs[i], d.below(to))
			}
		}
	}
	return needs
}

// ways: of each pair, does the first one need the second one, over however many?
func ways(needs [][]int) [][]bool {
	w := make([][]bool, len(needs))
	for i := range needs {
		w[i] = make([]bool, len(needs))
		for _, n := range needs[i] {
			w[i][n] = true
		}
	}
	for k := range w {
		for i := range w {
			for j := range w {
				w[i][j] = w[i][j] || w[i][k] && w[k][j]
			}
		}
	}
	return w
}

// waveOf: how many must be ahead, one behind the other? (Of one that needs itself not to be asked.)
func waveOf(needs [][]int, i int) int {
	wave := 0
	for _, n := range needs[i] {
		wave = max(wave, 1+waveOf(needs, n))
	}
	return wave
}

// wavesOf: as the words of D1 have them; none, if one needs itself.
func wavesOf(needs [][]int, w [][]bool) [][]int {
	var waves [][]int
	for i := range needs {
		if w[i][i] {
			return nil
		}
	}
	for i := range needs {
		for wave := waveOf(needs, i); wave >= len(waves); {
			waves = append(waves, nil)
		}
	}
	for i := range needs {
		wave := waveOf(needs, i)
		waves[wave] = append(waves[wave], i)
	}
	return waves
}

// D1, D2: many graphs, each held against what needs what as told pair by pair.
func TestDrawn(t *testing.T) {
	d, round := dice(1), 0
	for range 3000 {
		needs := d.drawn()
		w, g := ways(needs), made(t, needs)
		want := wavesOf(needs, w)
		got, err := g.Waves()
		if len(want) == 0 && len(needs) > 0 {
			round++
			if err != api.ErrCycle {
				t.Fatalf("Waves of %v = %v, %v, want %v", needs, got, err, api.ErrCycle)
			}
		} else if !slices.EqualFunc(got, want, slices.Equal) || err != nil {
			t.Fatalf("Waves of %v = %v, %v, want %v", needs, got, err, want)
		}
		var l, under, over []int
		for i := range needs {
			if d.below(4) == 0 {
				l = append(l, i)
			}
		}
		for i := range needs {
			if slices.Contains(l, i) || slices.ContainsFunc(l, func(k int) bool { return w[k][i] }) {
				under = append(under, i)
			}
			if slices.Contains(l, i) || slices.ContainsFunc(l, func(k int) bool { return w[i][k] }) {
				over = append(over, i)
			}
		}
		slices.Reverse(l)
		if got, err := g.Under(l); !slices.Equal(got, under) || err != nil {
			t.Fatalf("Under(%v) of %v = %v, %v, want %v", l, needs, got, err, under)
		}
		if got, err := g.Over(l); !slices.Equal(got, over) || err != nil {
			t.Fatalf("Over(%v) of %v = %v, %v, want %v", l, needs, got, err, over)
		}
	}
	if round < 100 || round > 2900 {
		t.Errorf("%d of them need themselves", round)
	}
}

// Z2: what is handed in is neither written into nor kept.
func TestHandedInStays(t *testing.T) {
	behind := []int{1, 2, 9, 9}
	needs := [][]int{behind[:2], {2}, nil}
	g := made(t, needs)
	l := []int{1, 0, 1}
	g.Under(l)
	g.Over(l)
	g.Order()
	if !reflect.DeepEqual(needs, [][]int{{1, 2}, {2}, nil}) || !slices.Equal(behind, []int{1, 2, 9, 9}) || !slices.Equal(l, []int{1, 0, 1}) {
		t.Errorf("what was handed in is %v, %v, %v", needs, behind, l)
	}
	needs[0][0], needs[1], needs[2] = 0, nil, []int{0}
	if got, err := g.Order(); !slices.Equal(got, []int{2, 1, 0}) || err != nil {
		t.Errorf("Order = %v, %v behind a change of what was handed in", got, err)
	}
}

// Z2: what comes out is the caller's.
func TestAnswersAreTheCallers(t *testing.T) {
	g := made(t, [][]int{nil, nil, {1}, {0}, {3}})
	want := [][]int{{0, 1}, {2, 3}, {4}}
	for range 2 {
		waves, _ := g.Waves()
		order, _ := g.Order()
		under, _ := g.Under([]int{4})
		over, _ := g.Over([]int{0})
		if !reflect.DeepEqual(waves, want) || !slices.Equal(order, []int{0, 1, 2, 3, 4}) || !slices.Equal(under, []int{0, 3, 4}) || !slices.Equal(over, []int{0, 3, 4}) {
			t.Fatalf("%v, %v, %v, %v", waves, order, under, over)
		}
		waves[0] = append(waves[0], 7)
		if waves[1][0] != 2 {
			t.Errorf("two waves share memory: %v", waves)
		}
		for _, l := range append(waves, order, under, over) {
			for i := range l {
				l[i] = 9
			}
		}
	}
}

// Z3: errors are bare numbers of package api.
func TestErrorsAreBare(t *testing.T) {
	g := made(t, [][]int{{0}})
	_, many := graph.New(make([][]int, most+1))
	_, bound := graph.New([][]int{{1}})
	_, waves := g.Waves()
	_, order := g.Order()
	_, under := g.Under([]int{1})
	_, over := g.Over([]int{1})
	for i, err := range []error{many, bound, waves, order, under, over} {
		if _, is := err.(api.Errno); !is {
			t.Errorf("error %d: %T is no api.Errno", i, err)
		}
	}
}
