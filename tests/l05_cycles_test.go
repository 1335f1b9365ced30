package tests

import (
	"math"
	"math/rand"
	"slices"
	"testing"

	"loop.example/g00852/impl"
)

// noFlows are numbers beyond -MaxFlow..MaxFlow; sums and products of some of them are within it again.
var noFlows = []int64{
	-impl.MaxFlow - 1, impl.MaxFlow + 1, -2 * impl.MaxFlow, 2 * impl.MaxFlow, 1 << 32, -1 << 32,
	math.MinInt64, math.MaxInt64, math.MinInt64 + 1,
}

// chordsByDefinition returns the pipes that no search from a least node enters by.
func chordsByDefinition(n impl.Network) []int64 {
	forest, chords := forestByDefinition(n), []int64{}
	for i := range int64(len(n.Pipes)) {
		if !slices.Contains(forest, i) {
			chords = append(chords, i)
		}
	}
	return chords
}

// surplusOf returns how much more flows into each node than out of it.
func surplusOf(n impl.Network, flows []int64) []int64 {
	surplus := make([]int64, len(n.Nodes))
	for i, p := range n.Pipes {
		surplus[p.From] -= flows[i]
		surplus[p.To] += flows[i]
	}
	return surplus
}

// circulationByDefinition takes the forest apart, leaf by leaf: the only pipe of a leaf that is left
// has to carry what the others bring. Its elements may be any numbers.
func circulationByDefinition(n impl.Network, amounts []int64) []int64 {
	flows := make([]int64, len(n.Pipes))
	for i, chord := range chordsByDefinition(n) {
		flows[chord] = amounts[i]
	}
	left := forestByDefinition(n)
	for len(left) > 0 {
		ends := make([]int, len(n.Nodes))
		for _, i := range left {
			ends[n.Pipes[i].From]++
			ends[n.Pipes[i].To]++
		}
		place := slices.IndexFunc(left, func(i int64) bool { return ends[n.Pipes[i].From] == 1 || ends[n.Pipes[i].To] == 1 })
		i, surplus := left[place], surplusOf(n, flows)
		if p := n.Pipes[i]; ends[p.From] == 1 {
			flows[i] = surplus[p.From]
		} else {
			flows[i] = -surplus[p.To]
		}
		left = slices.Delete(left, place, place+1)
	}
	return flows
}

// basisByDefinition returns the circulations that are 1 on one chord and 0 on the others.
func basisByDefinition(n impl.Network) [][]int64 {
	basis := [][]int64{}
	for i, amounts := 0, make([]int64, len(chordsByDefinition(n))); i < len(amounts); i++ {
		amounts[i] = 1
		basis = append(basis, circulationByDefinition(n, amounts))
		amounts[i] = 0
	}
	return basis
}

func areInRange(values []int64) bool {
	return !slices.ContainsFunc(values, func(q int64) bool { return q < -30000 || q > 30000 })
}

// wantFlows checks a result that is the wanted list where all its elements are allowed, and
// otherwise the code ErrRange.
func wantFlows(t *testing.T, call string, got []int64, code int64, want []int64) {
	t.Helper()
	if areInRange(want) {
		wantList(t, call, got, code, want, impl.ErrNone)
	} else {
		wantList(t, call, got, code, nil, impl.ErrRange)
	}
}

func wantBasis(t *testing.T, call string, got [][]int64, code int64, want [][]int64, wantCode int64) {
	t.Helper()
	if !slices.EqualFunc(got, want, slices.Equal[[]int64]) || code != wantCode {
		t.Errorf("%s returned %v and the code %d, not %v and %d", call, got, code, want, wantCode)
	}
}

func wantCirculation(t *testing.T, n impl.Network, flows []int64, want bool) {
	t.Helper()
	if got := impl.IsCirculation(n, flows); got != want {
		t.Errorf("IsCirculation(%v, %v) returned %v", n, flows, got)
	}
}

// someFlows has numbers of all sizes, and many at the limits.
func someFlows(r *rand.Rand, size int) []int64 {
	list := []int64{}
	for range size {
		list = append(list, []int64{0, 1, -1, impl.MaxFlow, -impl.MaxFlow, r.Int63n(2*impl.MaxFlow+1) - impl.MaxFlow}[r.Intn(6)])
	}
	return list
}

// smallFlows are so small that as many of them as there can be chords do not add up to MaxFlow.
func smallFlows(r *rand.Rand, size int) []int64 {
	list := []int64{}
	for range size {
		list = append(list, r.Int63n(1501)-750)
	}
	return list
}

// closedWalk goes through pipes at random, and back to its first node by shorter and shorter ways.
func closedWalk(r *rand.Rand, n impl.Network) []int64 {
	flows := make([]int64, len(n.Pipes))
	first := int64(r.Intn(len(n.Nodes)))
	home := tableOfDistances(n)[first]
	for steps, node := 0, first; steps < 30 || node != first; steps++ {
		type step struct{ pipe, node, sign int64 }
		next := []step{}
		for i, p := range n.Pipes {
			if p.From == node && (steps < 30 || home[p.To] < home[node]) {
				next = append(next, step{int64(i), p.To, 1})
			}
			if p.To == node && (steps < 30 || home[p.From] < home[node]) {
				next = append(next, step{int64(i), p.From, -1})
			}
		}
		if len(next) == 0 {
			break
		}
		s := next[r.Intn(len(next))]
		flows[s.pipe] += s.sign
		node = s.node
	}
	return flows
}

// twoRings has two components, each with one ring whose pipes lead in both directions, and a node
// alone.
func twoRings() impl.Network {
	return networkOf(7, pipe(4, 2), pipe(5, 1), pipe(0, 4), pipe(2, 0), pipe(1, 3), pipe(5, 3), pipe(3, 1))
}

func TestCyclesOfSomeNetworks(t *testing.T) {
	cases := []struct {
		name   string
		n      impl.Network
		chords []int64
		basis  [][]int64
	}{
		{"one node", networkOf(1), nil, nil},
		{"nodes without pipes", networkOf(3), nil, nil},
		{"one pipe", networkOf(2, pipe(1, 0)), nil, nil},
		{"a tree", networkOf(4, pipe(0, 1), pipe(2, 1), pipe(3, 0)), nil, nil},
		{"two trees", networkOf(6, pipe(4, 2), pipe(5, 1), pipe(0, 4), pipe(1, 3)), nil, nil},
		{"parallel pipes in one direction", networkOf(2, pipe(0, 1), pipe(0, 1)), []int64{1}, [][]int64{{-1, 1}}},
		{"parallel pipes in both directions", networkOf(2, pipe(0, 1), pipe(1, 0)), []int64{1}, [][]int64{{1, 1}}},
		{"three parallel pipes", networkOf(2, pipe(1, 0), pipe(0, 1), pipe(1, 0)), []int64{1, 2}, [][]int64{{1, 1, 0}, {-1, 0, 1}}},
		{"a ring in one direction", networkOf(3, pipe(0, 1), pipe(1, 2), pipe(2, 0)), []int64{1}, [][]int64{{1, 1, 1}}},
		{"a ring with a chord against the pipes", networkOf(3, pipe(0, 1), pipe(2, 1), pipe(2, 0)), []int64{1}, [][]int64{{-1, 1, -1}}},
		{"a ring with all directions", networkOf(4, pipe(1, 0), pipe(1, 2), pipe(3, 2), pipe(3, 0)), []int64{2}, [][]int64{{1, -1, 1, -1}}},
		// The ways back from n3 and n4 have pipe 0 in common, and do not go through it.
		{
			"a ring behind a bridge", networkOf(5, pipe(0, 1), pipe(1, 3), pipe(1, 4), pipe(3, 4), pipe(0, 2)),
			[]int64{3}, [][]int64{{0, 1, -1, 1, 0}},
		},
		// The way back from n3 to n1 goes only up, and that from n1 to n3 only down.
		{
			"chords along a branch", networkOf(4, pipe(0, 1), pipe(1, 3), pipe(3, 1), pipe(1, 3), pipe(0, 2)),
			[]int64{2, 3}, [][]int64{{0, 1, 1, 0, 0}, {0, -1, 0, 1, 0}},
		},
		{"mixed", mixedNetwork(), []int64{2, 4, 5, 6}, [][]int64{
			{1, 0, 1, 0, 0, 0, 0}, {-1, 0, 0, 0, 1, 0, 0}, {1, 0, 0, 0, 0, 1, 0}, {0, -1, 0, 1, 0, 0, 1},
		}},
		{"two rings", twoRings(), []int64{0, 5, 6}, [][]int64{
			{1, 0, 1, 1, 0, 0, 0}, {0, -1, 0, 0, -1, 1, 0}, {0, 0, 0, 0, 1, 0, 1},
		}},
		{
			"chords in front of the forest", networkOf(4, pipe(3, 2), pipe(2, 1), pipe(1, 3), pipe(0, 3), pipe(0, 2), pipe(1, 0)),
			[]int64{0, 1, 2}, [][]int64{{1, 0, 0, 1, -1, 0}, {0, 1, 0, 0, 1, 1}, {0, 0, 1, -1, 0, -1}},
		},
	}
	for _, c := range cases {
		got, code := impl.ChordsOf(c.n)
		wantList(t, "ChordsOf of "+c.name, got, code, c.chords, impl.ErrNone)
		basis, code := impl.CycleBasis(c.n)
		wantBasis(t, "CycleBasis of "+c.name, basis, code, c.basis, impl.ErrNone)
		for i, chord := range c.chords {
			got, code := impl.CycleOf(c.n, chord)
			wantList(t, "CycleOf of "+c.name, got, code, c.basis[i], impl.ErrNone)
		}
		if len(c.chords)+len(forestByDefinition(c.n)) != len(c.n.Pipes) {
			t.Errorf("the test of %s has the wrong number of chords", c.name)
		}
	}
}

// TestCyclesByDefinition compares with circulations that are found without going along any cycle.
func TestCyclesByDefinition(t *testing.T) {
	for _, n := range networksToSearch() {
		chords, basis := chordsByDefinition(n), basisByDefinition(n)
		got, code := impl.ChordsOf(n)
		wantList(t, "ChordsOf", got, code, chords, impl.ErrNone)
		cycles, code := impl.CycleBasis(n)
		wantBasis(t, "CycleBasis", cycles, code, basis, impl.ErrNone)
		for i, chord := range chords {
			got, code := impl.CycleOf(n, chord)
			wantList(t, "CycleOf", got, code, basis[i], impl.ErrNone)
			wantCirculation(t, n, got, true)
		}
		for _, i := range forestByDefinition(n) {
			got, code := impl.CycleOf(n, i)
			wantList(t, "CycleOf", got, code, nil, impl.ErrNotFound)
		}
	}
}

// leavingBy returns the pipe by which flows of 1 or -1 leave a node, or -1.
func leavingBy(n impl.Network, flows []int64, node int64) int {
	for i, p := range n.Pipes {
		if flows[i] == 1 && p.From == node || flows[i] == -1 && p.To == node {
			return i
		}
	}
	return -1
}

// TestCyclesGoAlongTheirChord follows each cycle from the chord's To back to its From.
func TestCyclesGoAlongTheirChord(t *testing.T) {
	for _, n := range networksToSearch() {
		for _, chord := range chordsByDefinition(n) {
			cycle, code := impl.CycleOf(n, chord)
			if code != impl.ErrNone || len(cycle) != len(n.Pipes) || cycle[chord] != 1 {
				t.Fatalf("CycleOf(%v, %d) returned %v and the code %d", n, chord, cycle, code)
			}
			left := slices.Clone(cycle)
			left[chord] = 0
			for node := n.Pipes[chord].To; node != n.Pipes[chord].From; {
				i := leavingBy(n, left, node)
				if i < 0 {
					t.Fatalf("the cycle %v of the chord %d of %v does not go on from the node %d", cycle, chord, n, node)
				}
				node = n.Pipes[i].From + n.Pipes[i].To - node
				left[i] = 0
			}
			if slices.ContainsFunc(left, func(q int64) bool { return q != 0 }) {
				t.Fatalf("the cycle %v of the chord %d of %v also has %v", cycle, chord, n, left)
			}
		}
	}
}

func TestNumbersOfNoChord(t *testing.T) {
	for _, n := range []impl.Network{networkOf(1), networkOf(2, pipe(1, 0)), mixedNetwork(), twoRings(), largestNetwork()} {
		pipes := int64(len(n.Pipes))
		flows := make([]int64, pipes)
		for _, chord := range slices.Concat(noIndices, []int64{pipes, pipes + 1}, forestByDefinition(n)) {
			got, code := impl.CycleOf(n, chord)
			wantList(t, "CycleOf", got, code, nil, impl.ErrNotFound)
			for _, amount := range []int64{0, 1, impl.MaxFlow, impl.MaxFlow + 1, math.MinInt64} {
				got, code = impl.AddCycle(n, flows, chord, amount)
				wantList(t, "AddCycle", got, code, nil, impl.ErrNotFound)
			}
		}
	}
}

// TestCirculationsAreRecovered checks promise 6 with circulations that are walked, not calculated.
func TestCirculationsAreRecovered(t *testing.T) {
	r := rand.New(rand.NewSource(6))
	for _, n := range networksToSearch() {
		flows := make([]int64, len(n.Pipes))
		for range 4 {
			times := 1 + r.Int63n(20)
			for i, q := range closedWalk(r, n) {
				flows[i] += times * q
			}
			wantCirculation(t, n, flows, true)
			amounts, code := impl.ChordFlows(n, flows)
			if code != impl.ErrNone {
				t.Fatalf("ChordFlows(%v, %v) returned the code %d", n, flows, code)
			}
			got, code := impl.FromChords(n, amounts)
			wantList(t, "FromChords", got, code, flows, impl.ErrNone)
		}
	}
}

// TestAmountsAreRecovered goes the other way round, and compares with the definition.
func TestAmountsAreRecovered(t *testing.T) {
	r := rand.New(rand.NewSource(7))
	inRange := 0
	for _, n := range networksToSearch() {
		size := len(chordsByDefinition(n))
		for _, amounts := range [][]int64{make([]int64, size), smallFlows(r, size), someFlows(r, size), someFlows(r, size)} {
			want := circulationByDefinition(n, amounts)
			flows, code := impl.FromChords(n, amounts)
			wantFlows(t, "FromChords", flows, code, want)
			if code != impl.ErrNone {
				wantCirculation(t, n, want, false)
				continue
			}
			if size > 0 {
				inRange++
			}
			wantCirculation(t, n, flows, true)
			got, code := impl.ChordFlows(n, flows)
			wantList(t, "ChordFlows", got, code, amounts, impl.ErrNone)
		}
	}
	if inRange < 500 {
		t.Errorf("only %d circulations have been recovered", inRange)
	}
}

func TestChordFlowsByDefinition(t *testing.T) {
	r := rand.New(rand.NewSource(8))
	for _, n := range networksToSearch() {
		flows, want := someFlows(r, len(n.Pipes)), []int64{}
		for _, chord := range chordsByDefinition(n) {
			want = append(want, flows[chord])
		}
		got, code := impl.ChordFlows(n, flows)
		wantList(t, "ChordFlows", got, code, want, impl.ErrNone)
	}
}

func TestCirculations(t *testing.T) {
	triangle := networkOf(3, pipe(0, 1), pipe(1, 2), pipe(0, 2))
	parallel := networkOf(2, pipe(0, 1), pipe(1, 0))
	cases := []struct {
		n     impl.Network
		flows []int64
		want  bool
	}{
		{networkOf(1), nil, true}, {networkOf(1), []int64{}, true}, {networkOf(1), []int64{0}, false},
		{networkOf(2, pipe(0, 1)), []int64{0}, true}, {networkOf(2, pipe(0, 1)), []int64{1}, false},
		{networkOf(2, pipe(0, 1)), []int64{-1}, false}, {networkOf(2, pipe(0, 1)), nil, false},
		{networkOf(2, pipe(0, 1)), []int64{0, 0}, false},
		{triangle, []int64{0, 0, 0}, true}, {triangle, []int64{2, 2, -2}, true}, {triangle, []int64{-5, -5, 5}, true},
		{triangle, []int64{2, 2, 2}, false}, {triangle, []int64{2, 2, -1}, false}, {triangle, []int64{1, 2, -2}, false},
		{triangle, []int64{2, 1, -2}, false}, {triangle, []int64{2, 2}, false}, {triangle, []int64{2, 2, -2, 0}, false},
		{triangle, []int64{impl.MaxFlow, impl.MaxFlow, -impl.MaxFlow}, true},
		{triangle, []int64{-impl.MaxFlow, -impl.MaxFlow, impl.MaxFlow}, true},
		{triangle, []int64{impl.MaxFlow + 1, impl.MaxFlow + 1, -impl.MaxFlow - 1}, false},
		{triangle, []int64{-impl.MaxFlow - 1, -impl.MaxFlow - 1, impl.MaxFlow + 1}, false},
		{parallel, []int64{3, 3}, true}, {parallel, []int64{-3, -3}, true}, {parallel, []int64{3, -3}, false},
		{parallel, []int64{3, 4}, false}, {parallel, []int64{impl.MaxFlow, impl.MaxFlow}, true},
		{parallel, []int64{math.MinInt64, math.MinInt64}, false}, {parallel, []int64{math.MaxInt64, math.MaxInt64}, false},
		// Flows that are balanced in one component alone, and between two of them.
		{twoRings(), []int64{7, 0, 7, 7, 0, 0, 0}, true}, {twoRings(), []int64{7, 1, 7, 7, 0, 0, 0}, false},
		{twoRings(), []int64{7, 2, 7, 7, -5, -2, -7}, true}, {twoRings(), []int64{7, 2, 7, 6, -5, -2, -7}, false},
		{twoRings(), []int64{1, 0, 1, 0, 0, 0, 0}, false},
	}
	for _, c := range cases {
		wantCirculation(t, c.n, c.flows, c.want)
	}
}

func TestCirculationsByDefinition(t *testing.T) {
	r := rand.New(rand.NewSource(9))
	for _, n := range networksToSearch() {
		flows := circulationByDefinition(n, smallFlows(r, len(chordsByDefinition(n))))
		wantCirculation(t, n, flows, true)
		for i := range flows {
			for _, change := range []int64{-1, 1, 100} {
				other := slices.Clone(flows)
				other[i] += change
				wantCirculation(t, n, other, false)
			}
		}
		other := someFlows(r, len(n.Pipes))
		isBalanced := !slices.ContainsFunc(surplusOf(n, other), func(x int64) bool { return x != 0 })
		wantCirculation(t, n, other, isBalanced)
	}
}

func TestAddCycleByDefinition(t *testing.T) {
	r := rand.New(rand.NewSource(10))
	counts := map[bool]int{}
	for _, n := range networksToSearch() {
		basis := basisByDefinition(n)
		for i, chord := range chordsByDefinition(n) {
			for _, flows := range [][]int64{smallFlows(r, len(n.Pipes)), someFlows(r, len(n.Pipes))} {
				for _, amount := range append(someFlows(r, 4), r.Int63n(2001)-1000) {
					want := slices.Clone(flows)
					for k := range want {
						want[k] += amount * basis[i][k]
					}
					got, code := impl.AddCycle(n, flows, chord, amount)
					wantFlows(t, "AddCycle", got, code, want)
					counts[areInRange(want)]++
				}
			}
		}
	}
	if counts[true] < 1000 || counts[false] < 1000 {
		t.Errorf("only %v cycles have been added", counts)
	}
}

func TestAddCycleAtTheLimits(t *testing.T) {
	const most = impl.MaxFlow
	triangle := networkOf(3, pipe(0, 1), pipe(1, 2), pipe(0, 2)) // with the cycle 1, 1, -1 of the chord 1
	cases := []struct {
		flows  []int64
		amount int64
		want   []int64
	}{
		{[]int64{0, 0, 30}, 12, []int64{12, 12, 18}}, {[]int64{5, 6, 7}, 0, []int64{5, 6, 7}}, {[]int64{5, 6, 7}, -6, []int64{-1, 0, 13}},
		{[]int64{0, 0, 0}, most, []int64{most, most, -most}}, {[]int64{0, 0, 0}, -most, []int64{-most, -most, most}},
		{[]int64{-most, -most, most}, most, []int64{0, 0, 0}}, {[]int64{most, most, -most}, -most, []int64{0, 0, 0}},
		{[]int64{most, most, -most}, 0, []int64{most, most, -most}},
		// Each element is taken to its limit, and beyond it.
		{[]int64{most - 3, 0, 0}, 3, []int64{most, 3, -3}}, {[]int64{most - 3, 0, 0}, 4, nil},
		{[]int64{0, most - 3, 0}, 3, []int64{3, most, -3}}, {[]int64{0, most - 3, 0}, 4, nil},
		{[]int64{0, 0, 3 - most}, 3, []int64{3, 3, -most}}, {[]int64{0, 0, 3 - most}, 4, nil},
		{[]int64{3 - most, 0, 0}, -3, []int64{-most, -3, 3}}, {[]int64{3 - most, 0, 0}, -4, nil},
		{[]int64{0, 3 - most, 0}, -3, []int64{-3, -most, 3}}, {[]int64{0, 3 - most, 0}, -4, nil},
		{[]int64{0, 0, most - 3}, -3, []int64{-3, -3, most}}, {[]int64{0, 0, most - 3}, -4, nil},
		{[]int64{1, 0, 0}, most, nil}, {[]int64{0, 0, -1}, most, nil}, {[]int64{-1, 0, 0}, -most, nil},
		{[]int64{most, most, -most}, most, nil}, {[]int64{-most, -most, most}, -most, nil},
	}
	for _, c := range cases {
		got, code := impl.AddCycle(triangle, c.flows, 1, c.amount)
		if c.want == nil {
			wantList(t, "AddCycle", got, code, nil, impl.ErrRange)
		} else {
			wantList(t, "AddCycle", got, code, c.want, impl.ErrNone)
		}
	}
	// With these flows some of the amounts would lead to flows that are allowed.
	for _, flows := range [][]int64{{0, 0, 0}, {most, most, -most}, {-most, -most, most}} {
		for _, amount := range noFlows {
			got, code := impl.AddCycle(triangle, flows, 1, amount)
			wantList(t, "AddCycle", got, code, nil, impl.ErrRange)
		}
	}
}

func TestFromChordsAtTheLimits(t *testing.T) {
	const most = impl.MaxFlow
	parallel := networkOf(2, pipe(0, 1), pipe(0, 1), pipe(1, 0))
	cases := []struct {
		amounts []int64
		want    []int64
	}{
		{[]int64{0, 0}, []int64{0, 0, 0}}, {[]int64{5, 0}, []int64{-5, 5, 0}}, {[]int64{0, 5}, []int64{5, 0, 5}},
		{[]int64{most, 0}, []int64{-most, most, 0}}, {[]int64{-most, 0}, []int64{most, -most, 0}},
		{[]int64{most, most}, []int64{0, most, most}}, {[]int64{-most, -most}, []int64{0, -most, -most}},
		{[]int64{most - 4, -4}, []int64{-most, most - 4, -4}}, {[]int64{4 - most, 4}, []int64{most, 4 - most, 4}},
		{[]int64{most - 4, -5}, nil}, {[]int64{4 - most, 5}, nil}, {[]int64{most, -1}, nil}, {[]int64{-1, most}, nil},
		{[]int64{1, -most}, nil}, {[]int64{-most, 1}, nil}, {[]int64{most, -most}, nil}, {[]int64{-most, most}, nil},
		// Here only the amounts are out of range: the pipe of the forest gets 0 or 1.
		{[]int64{most + 1, most + 1}, nil}, {[]int64{-most - 1, -most - 1}, nil}, {[]int64{most, most + 1}, nil},
		{[]int64{-most, -most - 1}, nil}, {[]int64{math.MaxInt64, math.MaxInt64}, nil}, {[]int64{math.MinInt64, math.MinInt64}, nil},
	}
	for _, c := range cases {
		got, code := impl.FromChords(parallel, c.amounts)
		if c.want == nil {
			wantList(t, "FromChords", got, code, nil, impl.ErrRange)
		} else {
			wantList(t, "FromChords", got, code, c.want, impl.ErrNone)
		}
	}
	for _, x := range noFlows {
		for _, amounts := range [][]int64{{x, 0}, {0, x}, {x, x}, {x, -x}} {
			got, code := impl.FromChords(parallel, amounts)
			wantList(t, "FromChords", got, code, nil, impl.ErrRange)
		}
	}
}

func TestOneAmountForEachChord(t *testing.T) {
	for _, n := range []impl.Network{networkOf(1), networkOf(2, pipe(1, 0)), mixedNetwork(), twoRings(), largestNetwork()} {
		size := len(chordsByDefinition(n))
		for _, length := range []int{0, 1, size - 1, size, size + 1, len(n.Pipes), len(n.Pipes) + 1, 1000} {
			if length < 0 || length == size {
				continue
			}
			// The range comes behind the number of the amounts.
			for _, x := range append(slices.Clone(noFlows), 0, 1) {
				got, code := impl.FromChords(n, repeated(length, x))
				wantList(t, "FromChords", got, code, nil, impl.ErrState)
			}
		}
		got, code := impl.FromChords(n, make([]int64, size))
		wantList(t, "FromChords", got, code, make([]int64, len(n.Pipes)), impl.ErrNone)
	}
	got, code := impl.FromChords(networkOf(2, pipe(0, 1)), nil)
	wantList(t, "FromChords without chords", got, code, []int64{0}, impl.ErrNone)
}

// TestCyclesOfTheGreatestSizes has as many nodes, pipes and chords as are possible.
func TestCyclesOfTheGreatestSizes(t *testing.T) {
	ring := largestNetwork()
	round := append(repeated(impl.MaxNodes, 1), repeated(impl.MaxPipes-impl.MaxNodes, 0)...)
	// The search meets at n12, which pipe 11 enters; the pipes from 24 on are parallel to the first ones.
	chords, basis := []int64{12}, [][]int64{round}
	for i := int64(impl.MaxNodes); i < impl.MaxPipes; i++ {
		cycle := make([]int64, impl.MaxPipes)
		if i == impl.MaxNodes+12 {
			cycle = slices.Clone(round)
			cycle[12] = 0
		} else {
			cycle[i-impl.MaxNodes] = -1
		}
		cycle[i] = 1
		chords, basis = append(chords, i), append(basis, cycle)
	}
	got, code := impl.ChordsOf(ring)
	wantList(t, "ChordsOf a ring", got, code, chords, impl.ErrNone)
	cycles, code := impl.CycleBasis(ring)
	wantBasis(t, "CycleBasis of a ring", cycles, code, basis, impl.ErrNone)
	got, code = impl.FromChords(ring, append([]int64{impl.MaxFlow}, make([]int64, len(chords)-1)...))
	want := append(repeated(impl.MaxNodes, impl.MaxFlow), repeated(impl.MaxPipes-impl.MaxNodes, 0)...)
	wantList(t, "FromChords of a ring", got, code, want, impl.ErrNone)

	parallel := networkOf(2, slices.Repeat([]impl.Pipe{pipe(1, 0)}, impl.MaxPipes)...)
	amounts := append(repeated(impl.MaxPipes-2, 769), impl.MaxFlow-769*(impl.MaxPipes-2))
	flows := append([]int64{-impl.MaxFlow}, amounts...)
	got, code = impl.FromChords(parallel, amounts)
	wantList(t, "FromChords of parallel pipes", got, code, flows, impl.ErrNone)
	got, code = impl.ChordFlows(parallel, flows)
	wantList(t, "ChordFlows of parallel pipes", got, code, amounts, impl.ErrNone)
	wantCirculation(t, parallel, flows, true)
	amounts[0]++
	got, code = impl.FromChords(parallel, amounts)
	wantList(t, "FromChords of parallel pipes", got, code, nil, impl.ErrRange)
	got, code = impl.FromChords(parallel, repeated(impl.MaxPipes-1, impl.MaxFlow))
	wantList(t, "FromChords of parallel pipes", got, code, nil, impl.ErrRange)
	got, code = impl.AddCycle(parallel, flows, impl.MaxPipes-1, -8)
	flows[0], flows[impl.MaxPipes-1] = flows[0]+8, flows[impl.MaxPipes-1]-8
	wantList(t, "AddCycle to parallel pipes", got, code, flows, impl.ErrNone)
	for _, lone := range []impl.Network{networkOf(impl.MaxNodes), networkOf(1)} {
		got, code = impl.ChordsOf(lone)
		wantList(t, "ChordsOf single nodes", got, code, nil, impl.ErrNone)
		wantCirculation(t, lone, nil, true)
	}
}

// wantNoFlows checks lists that are no flow lists, whatever the other arguments are.
func wantNoFlows(t *testing.T, n impl.Network, flows []int64, want int64) {
	t.Helper()
	wantCirculation(t, n, flows, false)
	got, code := impl.ChordFlows(n, flows)
	wantList(t, "ChordFlows", got, code, nil, want)
	for chord := int64(-1); chord <= int64(len(n.Pipes)); chord++ {
		for _, amount := range []int64{0, 1, impl.MaxFlow + 1, math.MinInt64} {
			got, code := impl.AddCycle(n, flows, chord, amount)
			wantList(t, "AddCycle", got, code, nil, want)
		}
	}
}

func TestListsThatAreNoFlowLists(t *testing.T) {
	for _, n := range []impl.Network{networkOf(1), networkOf(2, pipe(0, 1)), mixedNetwork(), twoRings(), largestNetwork()} {
		pipes := len(n.Pipes)
		for _, length := range []int{0, pipes - 1, pipes + 1, len(n.Nodes), impl.MaxPipes + 1, 100000} {
			if length >= 0 && length != pipes {
				wantNoFlows(t, n, make([]int64, length), impl.ErrLimit)
				wantNoFlows(t, n, repeated(length, impl.MaxFlow+1), impl.ErrLimit)
			}
		}
		for i := range n.Pipes {
			for _, x := range noFlows {
				flows := make([]int64, pipes)
				flows[i] = x
				wantNoFlows(t, n, flows, impl.ErrLimit)
			}
			for _, x := range []int64{impl.MaxFlow, -impl.MaxFlow} {
				flows := make([]int64, pipes)
				flows[i] = x
				if _, code := impl.ChordFlows(n, flows); code != impl.ErrNone {
					t.Errorf("ChordFlows(%v, %v) returned the code %d", n, flows, code)
				}
			}
		}
	}
}

// TestNoCyclesOfInvalidNetworks uses lists, chords and amounts of which some are wrong as well.
func TestNoCyclesOfInvalidNetworks(t *testing.T) {
	wrong := invalidNetworks(mixedNetwork())
	wrong = append(wrong, invalidNetworks(networkOf(4, pipe(0, 1), pipe(2, 1), pipe(3, 0)))...)
	for _, n := range append(wrong, invalidNetworks(largestNetwork())...) {
		got, code := impl.ChordsOf(n)
		wantList(t, "ChordsOf", got, code, nil, impl.ErrInvalid)
		basis, code := impl.CycleBasis(n)
		wantBasis(t, "CycleBasis", basis, code, nil, impl.ErrInvalid)
		for _, chord := range []int64{0, 2, 4, int64(len(n.Pipes)), -1, math.MinInt64, math.MaxInt64} {
			got, code := impl.CycleOf(n, chord)
			wantList(t, "CycleOf", got, code, nil, impl.ErrInvalid)
		}
		for _, length := range []int{0, 1, 4, 17, len(n.Pipes), len(n.Pipes) + 1} {
			for _, x := range []int64{0, 1, impl.MaxFlow + 1, math.MinInt64} {
				wantNoFlows(t, n, repeated(length, x), impl.ErrInvalid)
				got, code := impl.FromChords(n, repeated(length, x))
				wantList(t, "FromChords", got, code, nil, impl.ErrInvalid)
			}
		}
	}
}

// resultsOfCycles are all results of chapter 5, each as a list of lists; the flows and the amounts
// are those of a network, and the chord is one of its chords.
func resultsOfCycles(n impl.Network, flows, amounts []int64, chord int64) map[string]func() ([][]int64, int64) {
	one := func(list []int64, code int64) ([][]int64, int64) { return [][]int64{list}, code }
	return map[string]func() ([][]int64, int64){
		"ChordsOf":   func() ([][]int64, int64) { return one(impl.ChordsOf(n)) },
		"CycleOf":    func() ([][]int64, int64) { return one(impl.CycleOf(n, chord)) },
		"CycleBasis": func() ([][]int64, int64) { return impl.CycleBasis(n) },
		"AddCycle":   func() ([][]int64, int64) { return one(impl.AddCycle(n, flows, chord, 3)) },
		"no change":  func() ([][]int64, int64) { return one(impl.AddCycle(n, flows, chord, 0)) },
		"ChordFlows": func() ([][]int64, int64) { return one(impl.ChordFlows(n, flows)) },
		"FromChords": func() ([][]int64, int64) { return one(impl.FromChords(n, amounts)) },
	}
}

func copyOfLists(lists [][]int64) [][]int64 {
	clone := [][]int64{}
	for _, list := range lists {
		clone = append(clone, slices.Clone(list))
	}
	return clone
}

// wantLeftAlone looks at the arguments after each call, and after each result has been overwritten
// with its spare capacity. The network and the lists are the whole memory of the arguments.
func wantLeftAlone(t *testing.T, memory impl.Network, lists [][]int64, results map[string]func() ([][]int64, int64)) {
	t.Helper()
	before, listsBefore := copyOf(memory), copyOfLists(lists)
	for name, result := range results {
		got, code := result()
		if code != impl.ErrNone || len(got) == 0 {
			t.Fatalf("%s returned %v and the code %d", name, got, code)
		}
		for _, list := range got {
			list = list[:cap(list)]
			for i := range list {
				list[i] = -7
			}
		}
		if !sameNetwork(memory, before) || !slices.EqualFunc(lists, listsBefore, slices.Equal[[]int64]) {
			t.Fatalf("%s has changed its arguments, or what lies behind them, to %v and %v", name, memory, lists)
		}
	}
}

func TestCyclesLeaveArgumentsAlone(t *testing.T) {
	for _, base := range []impl.Network{networkOf(2, pipe(0, 1), pipe(1, 0)), mixedNetwork(), twoRings(), largestNetwork()} {
		n, memory := withMemory(base)
		chords := chordsByDefinition(n)
		flows, amounts := repeated(len(n.Pipes)+2, 6), repeated(len(chords)+2, 4)
		results := resultsOfCycles(n, flows[:len(n.Pipes)], amounts[:len(chords)], chords[0])
		results["IsCirculation"] = func() ([][]int64, int64) {
			impl.IsCirculation(n, flows[:len(n.Pipes)])
			return [][]int64{nil}, impl.ErrNone
		}
		wantLeftAlone(t, memory, [][]int64{flows, amounts}, results)
	}
}

// wantNewMemory overwrites each list of a result alone, so that a list that shares memory with
// another one, or with what is kept, shows.
func wantNewMemory(t *testing.T, results map[string]func() ([][]int64, int64)) {
	t.Helper()
	for name, result := range results {
		want, _ := result()
		want = copyOfLists(want)
		second, _ := result()
		for i := range want {
			first, _ := result()
			list := first[i][:cap(first[i])]
			for k := range list {
				list[k] = -7
			}
			first[i] = want[i]
			wantBasis(t, name+" of which one list is changed", first, impl.ErrNone, want, impl.ErrNone)
		}
		third, code := result()
		wantBasis(t, name+" before", second, impl.ErrNone, want, impl.ErrNone)
		wantBasis(t, name+" behind", third, code, want, impl.ErrNone)
	}
}

func TestListsOfCyclesAreNewMemory(t *testing.T) {
	n, flows, amounts := mixedNetwork(), []int64{1, 2, 3, 4, 5, 6, 7}, []int64{8, 9, 10, 11}
	wantNewMemory(t, resultsOfCycles(n, flows, amounts, 6))
	kept, _ := impl.AddCycle(n, flows, 6, 0)
	flows[0] = -7
	if kept[0] != 1 {
		t.Error("a change of the flows has changed a result")
	}
}
