package tests

import (
	"math"
	"math/rand"
	"slices"
	"testing"

	"loop.example/g00852/impl"
)

// suppliesByDefinition returns, for each node, how much more flows out of it than into it. Its
// elements may be any numbers.
func suppliesByDefinition(n impl.Network, flows []int64) []int64 {
	supplies := surplusOf(n, flows)
	for i, x := range supplies {
		supplies[i] = -x
	}
	return supplies
}

// areEvenByDefinition adds, for each node, the supplies of all nodes to which a path leads.
func areEvenByDefinition(n impl.Network, supplies []int64) bool {
	for _, distances := range tableOfDistances(n) {
		total := int64(0)
		for node, d := range distances {
			if d >= 0 {
				total += supplies[node]
			}
		}
		if total != 0 {
			return false
		}
	}
	return true
}

// forestFlowsByDefinition cuts the forest at each of its pipes: what is put in on the side of From
// has to flow through it. The elements may be any numbers.
func forestFlowsByDefinition(n impl.Network, supplies []int64) []int64 {
	flows, forest := make([]int64, len(n.Pipes)), forestByDefinition(n)
	for _, cut := range forest {
		rest := impl.Network{Nodes: n.Nodes}
		for _, i := range forest {
			if i != cut {
				rest.Pipes = append(rest.Pipes, n.Pipes[i])
			}
		}
		sides := componentsByDefinition(rest)
		for node, side := range sides {
			if side == sides[n.Pipes[cut].From] {
				flows[cut] += supplies[node]
			}
		}
	}
	return flows
}

// transitsByDefinition goes through the pipes with the direction in which the gas flows.
func transitsByDefinition(n impl.Network, flows []int64) []int64 {
	transits := make([]int64, len(n.Nodes))
	for i, p := range n.Pipes {
		if flows[i] > 0 {
			transits[p.To] += flows[i]
		} else {
			transits[p.From] -= flows[i]
		}
	}
	return transits
}

func sumsOfLists(a, b []int64) []int64 {
	list := []int64{}
	for i := range a {
		list = append(list, a[i]+b[i])
	}
	return list
}

func differencesOfLists(a, b []int64) []int64 {
	list := []int64{}
	for i := range a {
		list = append(list, a[i]-b[i])
	}
	return list
}

// evenSupplies come from transports within the components, many of which go up to a limit.
func evenSupplies(r *rand.Rand, n impl.Network) []int64 {
	supplies, table := make([]int64, len(n.Nodes)), tableOfDistances(n)
	for range r.Intn(3 * len(n.Nodes)) {
		from, to := r.Intn(len(n.Nodes)), r.Intn(len(n.Nodes))
		if from == to || table[from][to] < 0 {
			continue
		}
		amount := min(impl.MaxSupply-supplies[from], impl.MaxSupply+supplies[to])
		if r.Intn(3) > 0 {
			amount = r.Int63n(min(amount, 3000) + 1)
		}
		supplies[from] += amount
		supplies[to] -= amount
	}
	return supplies
}

// joinedPair returns two different nodes of one component, or false.
func joinedPair(n impl.Network) (int, int, bool) {
	for _, p := range n.Pipes {
		return int(p.From), int(p.To), true
	}
	return 0, 0, false
}

func wantBalanced(t *testing.T, n impl.Network, flows, supplies []int64, want bool) {
	t.Helper()
	if got := impl.IsBalanced(n, flows, supplies); got != want {
		t.Errorf("IsBalanced(%v, %v, %v) returned %v", n, flows, supplies, got)
	}
}

func wantEven(t *testing.T, n impl.Network, supplies []int64, want bool) {
	t.Helper()
	if got := impl.IsEven(n, supplies); got != want {
		t.Errorf("IsEven(%v, %v) returned %v", n, supplies, got)
	}
}

func TestLimitOfSupplies(t *testing.T) {
	if impl.MaxSupply != 30000 {
		t.Errorf("the limit is %d", impl.MaxSupply)
	}
}

func TestBalanceOfSomeNetworks(t *testing.T) {
	cases := []struct {
		name                              string
		n                                 impl.Network
		flows, supplies, forest, transits []int64
		throughput                        int64
	}{
		{"one node", networkOf(1), nil, []int64{0}, nil, []int64{0}, 0},
		{"nodes without pipes", networkOf(3), nil, []int64{0, 0, 0}, nil, []int64{0, 0, 0}, 0},
		{"one pipe", networkOf(2, pipe(0, 1)), []int64{5}, []int64{5, -5}, []int64{5}, []int64{0, 5}, 5},
		{"a flow against its pipe", networkOf(2, pipe(0, 1)), []int64{-5}, []int64{-5, 5}, []int64{-5}, []int64{5, 0}, 5},
		{"no flow", networkOf(2, pipe(1, 0)), []int64{0}, []int64{0, 0}, []int64{0}, []int64{0, 0}, 0},
		{"gas that goes round", networkOf(2, pipe(0, 1), pipe(1, 0)), []int64{3, 3}, []int64{0, 0}, []int64{0, 0}, []int64{3, 3}, 0},
		{
			"a ring", networkOf(3, pipe(0, 1), pipe(1, 2), pipe(0, 2)), []int64{12, 12, 18},
			[]int64{30, 0, -30}, []int64{0, 0, 30}, []int64{0, 12, 30}, 30,
		},
		{
			"a tree", networkOf(5, pipe(2, 1), pipe(1, 0), pipe(3, 1), pipe(0, 4)), []int64{7, 9, -3, -1},
			[]int64{-10, 5, 7, -3, 1}, []int64{7, 9, -3, -1}, []int64{10, 7, 0, 3, 0}, 13,
		},
		{
			"mixed", mixedNetwork(), []int64{1, 2, 3, 4, 5, 6, 7},
			[]int64{-3, -3, -3, 9, 0}, []int64{-3, 9, 0, -3, 0, 0, 0}, []int64{9, 12, 7, 0, 0}, 9,
		},
		{
			"mixed with flows in both directions", mixedNetwork(), []int64{-1, 2, -3, 4, 5, -6, 0},
			[]int64{13, -19, 4, 2, 0}, []int64{13, 2, 0, 4, 0, 0, 0}, []int64{1, 20, 0, 0, 0}, 19,
		},
		{
			"two rings", twoRings(), []int64{1, 2, 3, 4, 5, 6, 7},
			[]int64{-1, -4, 3, -4, -2, 8, 0}, []int64{0, 8, 2, 3, 4, 0, 0}, []int64{4, 9, 1, 11, 3, 0, 0}, 11,
		},
	}
	for _, c := range cases {
		got, code := impl.SuppliesOf(c.n, c.flows)
		wantList(t, "SuppliesOf of "+c.name, got, code, c.supplies, impl.ErrNone)
		wantBalanced(t, c.n, c.flows, c.supplies, true)
		wantEven(t, c.n, c.supplies, true)
		got, code = impl.ForestFlows(c.n, c.supplies)
		wantList(t, "ForestFlows of "+c.name, got, code, c.forest, impl.ErrNone)
		throughput, code := impl.ThroughputOf(c.n, c.supplies)
		wantNumber(t, "ThroughputOf of "+c.name, throughput, code, c.throughput, impl.ErrNone)
		for node, want := range c.transits {
			transit, code := impl.TransitOf(c.n, c.flows, int64(node))
			wantNumber(t, "TransitOf of "+c.name, transit, code, want, impl.ErrNone)
		}
	}
}

func TestSuppliesByDefinition(t *testing.T) {
	r := rand.New(rand.NewSource(11))
	counts := map[bool]int{}
	for _, n := range networksToSearch() {
		for _, flows := range [][]int64{smallFlows(r, len(n.Pipes)), someFlows(r, len(n.Pipes))} {
			want := suppliesByDefinition(n, flows)
			got, code := impl.SuppliesOf(n, flows)
			wantFlows(t, "SuppliesOf", got, code, want)
			wantBalanced(t, n, flows, want, areInRange(want))
			counts[areInRange(want)]++
		}
	}
	if counts[true] < 300 || counts[false] < 300 {
		t.Errorf("only %v flow lists have been tried", counts)
	}
}

// TestSuppliesAtTheLimits takes the supply of one node to its limit, and beyond it.
func TestSuppliesAtTheLimits(t *testing.T) {
	const half, most = impl.MaxSupply / 2, impl.MaxSupply
	parallel := networkOf(2, pipe(0, 1), pipe(1, 0))
	fork := networkOf(3, pipe(1, 0), pipe(1, 2))
	cases := []struct {
		n     impl.Network
		flows []int64
		want  []int64
	}{
		{parallel, []int64{half, -half}, []int64{most, -most}}, {parallel, []int64{-half, half}, []int64{-most, most}},
		{parallel, []int64{half, -half - 1}, []int64{most + 1, -most - 1}}, {parallel, []int64{-half - 1, half}, []int64{-most - 1, most + 1}},
		{parallel, []int64{most, 0}, []int64{most, -most}}, {parallel, []int64{most, -1}, []int64{most + 1, -most - 1}},
		{parallel, []int64{most, most}, []int64{0, 0}}, {parallel, []int64{most, -most}, []int64{2 * most, -2 * most}},
		// Here only one of the supplies is too large, the positive or the negative one.
		{fork, []int64{half, half}, []int64{-half, most, -half}}, {fork, []int64{half, half + 1}, []int64{-half, most + 1, -half - 1}},
		{fork, []int64{-half, -half}, []int64{half, -most, half}}, {fork, []int64{-half - 1, -half}, []int64{half + 1, -most - 1, half}},
	}
	for _, c := range cases {
		got, code := impl.SuppliesOf(c.n, c.flows)
		wantFlows(t, "SuppliesOf at a limit", got, code, c.want)
		wantBalanced(t, c.n, c.flows, c.want, areInRange(c.want))
		wantEven(t, c.n, c.want, areInRange(c.want))
	}
}

func TestFlowsAtTheirEnds(t *testing.T) {
	const most = impl.MaxFlow
	n := networkOf(3, pipe(0, 1), pipe(2, 1))
	for _, sign := range []int64{1, -1} {
		flows, supplies := []int64{sign * most, 0}, []int64{sign * most, -sign * most, 0}
		got, code := impl.SuppliesOf(n, flows)
		wantList(t, "SuppliesOf", got, code, supplies, impl.ErrNone)
		wantBalanced(t, n, flows, supplies, true)
		got, code = impl.OverLimit(n, flows)
		wantList(t, "OverLimit", got, code, []int64{0}, impl.ErrNone)
		got, code = impl.ForestFlows(n, supplies)
		wantList(t, "ForestFlows", got, code, flows, impl.ErrNone)
		transit, code := impl.TransitOf(n, flows, 1)
		wantNumber(t, "TransitOf", transit, code, max(sign*most, 0), impl.ErrNone)
		throughput, code := impl.ThroughputOf(n, supplies)
		wantNumber(t, "ThroughputOf", throughput, code, most, impl.ErrNone)
	}
}

// TestRoundFlowsOutOfRange has numbers that would balance supplies, but are no flows.
func TestRoundFlowsOutOfRange(t *testing.T) {
	round, ring := networkOf(2, pipe(0, 1), pipe(1, 0)), networkOf(3, pipe(0, 1), pipe(2, 1), pipe(2, 0))
	for _, x := range append(slices.Clone(noFlows), impl.MaxFlow, -impl.MaxFlow) {
		isFlow := areInRange([]int64{x})
		wantBalanced(t, round, []int64{x, x}, []int64{0, 0}, isFlow)
		wantBalanced(t, ring, []int64{x, -x, x}, []int64{0, 0, 0}, isFlow)
		if !isFlow {
			wantNoBalanceOfFlows(t, round, []int64{x, x}, impl.ErrLimit)
			wantNoBalanceOfFlows(t, ring, []int64{x, -x, x}, impl.ErrLimit)
		}
	}
	wantBalanced(t, round, []int64{impl.MaxFlow, impl.MaxFlow + 1}, []int64{-1, 1}, false)
	wantBalanced(t, round, []int64{-impl.MaxFlow - 1, -impl.MaxFlow}, []int64{-1, 1}, false)
	wantBalanced(t, round, []int64{-impl.MaxFlow, 1 - impl.MaxFlow}, []int64{-1, 1}, true)
}

// TestNearlyBalanced changes a flow list, or its supplies, at one place.
func TestNearlyBalanced(t *testing.T) {
	r := rand.New(rand.NewSource(12))
	for _, n := range networksToSearch() {
		flows := smallFlows(r, len(n.Pipes))
		supplies := suppliesByDefinition(n, flows)
		if !areInRange(supplies) {
			continue
		}
		wantBalanced(t, n, flows, supplies, true)
		for i := range flows {
			other := slices.Clone(flows)
			other[i] += []int64{-1, 1}[r.Intn(2)]
			wantBalanced(t, n, other, supplies, false)
		}
		for i := range supplies {
			other := slices.Clone(supplies)
			other[i] += []int64{-1, 1}[r.Intn(2)]
			wantBalanced(t, n, flows, other, false)
		}
		if a, b, ok := joinedPair(n); ok {
			// These supplies are still even.
			supplies[a], supplies[b] = supplies[a]+1, supplies[b]-1
			wantBalanced(t, n, flows, supplies, false)
		}
	}
}

func TestEvenSupplies(t *testing.T) {
	const most = impl.MaxSupply
	pair, apart := networkOf(2, pipe(1, 0)), networkOf(4, pipe(0, 2), pipe(3, 1))
	cases := []struct {
		n        impl.Network
		supplies []int64
		want     bool
	}{
		{networkOf(1), []int64{0}, true}, {networkOf(1), []int64{1}, false}, {networkOf(1), []int64{-1}, false},
		{networkOf(1), nil, false}, {networkOf(1), []int64{0, 0}, false}, {networkOf(2), []int64{0, 0}, true},
		{networkOf(2), []int64{1, -1}, false}, {networkOf(2), []int64{most, -most}, false}, {networkOf(3), []int64{1, 0, -1}, false},
		{pair, []int64{0, 0}, true}, {pair, []int64{1, -1}, true}, {pair, []int64{-1, 1}, true}, {pair, []int64{1, 1}, false},
		{pair, []int64{1, 0}, false}, {pair, []int64{0, -1}, false}, {pair, []int64{most, -most}, true},
		{pair, []int64{-most, most}, true}, {pair, []int64{most, 1 - most}, false}, {pair, []int64{most, most}, false},
		{pair, []int64{most + 1, -most - 1}, false}, {pair, []int64{-most - 1, most + 1}, false}, {pair, []int64{1}, false},
		{pair, []int64{1, -1, 0}, false}, {pair, nil, false},
		// These wrap around to the sum 0.
		{pair, []int64{math.MinInt64, math.MinInt64}, false}, {pair, []int64{math.MinInt64, math.MaxInt64}, false},
		// The sum over the whole network is 0, but not that over a component.
		{apart, []int64{5, -5, 0, 0}, false}, {apart, []int64{5, 0, -4, -1}, false}, {apart, []int64{most, -most, most, -most}, false},
		{apart, []int64{5, 7, -5, -7}, true}, {apart, []int64{-most, most, most, -most}, true}, {apart, []int64{5, 7, -5, -6}, false},
		{mixedNetwork(), []int64{1, 2, 3, -6, 0}, true}, {mixedNetwork(), []int64{1, 2, 3, -7, 1}, false},
		{mixedNetwork(), []int64{0, 0, 0, 0, 1}, false}, {mixedNetwork(), []int64{0, 0, 0, 0, -1}, false},
	}
	for _, c := range cases {
		wantEven(t, c.n, c.supplies, c.want)
		if len(c.supplies) != len(c.n.Nodes) || !areInRange(c.supplies) {
			continue
		}
		if got, code := impl.ForestFlows(c.n, c.supplies); (code == impl.ErrState) == c.want {
			t.Errorf("ForestFlows(%v, %v) returned %v and the code %d", c.n, c.supplies, got, code)
		}
	}
}

func TestEvenSuppliesByDefinition(t *testing.T) {
	r := rand.New(rand.NewSource(13))
	for _, n := range networksToSearch() {
		supplies := evenSupplies(r, n)
		wantEven(t, n, supplies, true)
		for node := range supplies {
			other := slices.Clone(supplies)
			other[node] -= []int64{-1, 1}[r.Intn(2)]
			wantEven(t, n, other, false)
			other[r.Intn(len(other))] += supplies[node] - other[node]
			wantEven(t, n, other, areInRange(other) && areEvenByDefinition(n, other))
		}
	}
}

func TestThroughput(t *testing.T) {
	const most = impl.MaxSupply
	cases := []struct {
		supplies []int64
		want     int64
	}{
		{[]int64{0}, 0}, {[]int64{7}, 7}, {[]int64{-7}, 0}, {[]int64{most}, most}, {[]int64{-most}, 0},
		{[]int64{3, -3, 4, -4}, 7}, {[]int64{3, 3, 4, -4}, 10}, {[]int64{-1, -2, -3}, 0}, {[]int64{0, 0, 1}, 1},
		{[]int64{1, 0, 0}, 1}, {[]int64{most, most, -most}, 2 * most},
		{repeated(impl.MaxNodes, most), impl.MaxNodes * most}, {repeated(impl.MaxNodes, -most), 0},
	}
	for _, c := range cases {
		// Supplies need not be even.
		got, code := impl.ThroughputOf(networkOf(len(c.supplies)), c.supplies)
		wantNumber(t, "ThroughputOf", got, code, c.want, impl.ErrNone)
	}
}

// TestFlowsOverLimits takes each pipe to its limit, and one unit over it, in both directions.
func TestFlowsOverLimits(t *testing.T) {
	n := networkOf(3, pipe(0, 1), pipe(1, 0), pipe(1, 2), pipe(2, 0))
	for i, limit := range []int64{1, 2, impl.MaxFlow - 1, impl.MaxFlow} {
		n.Pipes[i].Limit = limit
	}
	for i, p := range n.Pipes {
		for _, q := range []int64{0, 1, p.Limit - 1, p.Limit, p.Limit + 1, impl.MaxFlow} {
			for _, flow := range []int64{min(q, impl.MaxFlow), -min(q, impl.MaxFlow)} {
				flows, want := make([]int64, len(n.Pipes)), []int64{}
				flows[i] = flow
				if flow > p.Limit || -flow > p.Limit {
					want = append(want, int64(i))
				}
				got, code := impl.OverLimit(n, flows)
				wantList(t, "OverLimit", got, code, want, impl.ErrNone)
			}
		}
	}
	cases := []struct {
		flows []int64
		want  []int64
	}{
		{[]int64{1, -2, impl.MaxFlow - 1, -impl.MaxFlow}, nil}, {[]int64{2, 3, impl.MaxFlow, impl.MaxFlow}, []int64{0, 1, 2}},
		{[]int64{-2, -3, -impl.MaxFlow, -impl.MaxFlow}, []int64{0, 1, 2}}, {[]int64{-2, 2, -impl.MaxFlow, 0}, []int64{0, 2}},
	}
	for _, c := range cases {
		got, code := impl.OverLimit(n, c.flows)
		wantList(t, "OverLimit", got, code, c.want, impl.ErrNone)
	}
}

func TestFlowsOverLimitsByDefinition(t *testing.T) {
	r := rand.New(rand.NewSource(14))
	for _, n := range networksToSearch() {
		flows, want := someFlows(r, len(n.Pipes)), []int64{}
		for i, p := range n.Pipes {
			if r.Intn(2) == 0 {
				flows[i] = max(min(p.Limit+r.Int63n(3)-1, impl.MaxFlow)*[]int64{-1, 1}[r.Intn(2)], -impl.MaxFlow)
			}
			if flows[i] < -p.Limit || p.Limit < flows[i] {
				want = append(want, int64(i))
			}
		}
		got, code := impl.OverLimit(n, flows)
		wantList(t, "OverLimit", got, code, want, impl.ErrNone)
	}
}

func TestSumsOfFlowsAtTheLimits(t *testing.T) {
	const most = impl.MaxFlow
	n := networkOf(3, pipe(0, 1), pipe(1, 2), pipe(0, 2))
	cases := []struct{ a, b, want []int64 }{
		{[]int64{1, 2, 3}, []int64{4, 5, -6}, []int64{5, 7, -3}}, {[]int64{1, 2, 3}, []int64{0, 0, 0}, []int64{1, 2, 3}},
		{[]int64{1, 2, 3}, []int64{-1, -2, -3}, []int64{0, 0, 0}}, {[]int64{most, most, -most}, []int64{0, 0, 0}, []int64{most, most, -most}},
		{[]int64{most, -most, most}, []int64{-most, most, -most}, []int64{0, 0, 0}},
		{[]int64{most - 1, 0, 0}, []int64{1, 0, 0}, []int64{most, 0, 0}}, {[]int64{most - 1, 0, 0}, []int64{2, 0, 0}, nil},
		{[]int64{0, 1, 0}, []int64{0, most - 1, 0}, []int64{0, most, 0}}, {[]int64{0, 1, 0}, []int64{0, most, 0}, nil},
		{[]int64{0, 0, 1 - most}, []int64{0, 0, -1}, []int64{0, 0, -most}}, {[]int64{0, 0, 1 - most}, []int64{0, 0, -2}, nil},
		{[]int64{-most, 0, 0}, []int64{-1, 0, 0}, nil}, {[]int64{0, most, 0}, []int64{0, most, 0}, nil},
		{[]int64{-most, -most, -most}, []int64{-most, -most, -most}, nil},
	}
	for _, c := range cases {
		for _, pair := range [][2][]int64{{c.a, c.b}, {c.b, c.a}} {
			got, code := impl.AddFlows(n, pair[0], pair[1])
			if c.want == nil {
				wantList(t, "AddFlows", got, code, nil, impl.ErrRange)
			} else {
				wantList(t, "AddFlows", got, code, c.want, impl.ErrNone)
			}
		}
	}
	flows := []int64{5, -6, 7}
	got, code := impl.AddFlows(n, flows, flows)
	wantList(t, "AddFlows with one list twice", got, code, []int64{10, -12, 14}, impl.ErrNone)
}

func TestSumsOfFlowsByDefinition(t *testing.T) {
	r := rand.New(rand.NewSource(15))
	for _, n := range networksToSearch() {
		size := len(n.Pipes)
		for _, a := range [][]int64{smallFlows(r, size), someFlows(r, size)} {
			b := smallFlows(r, size)
			got, code := impl.AddFlows(n, a, b)
			wantFlows(t, "AddFlows", got, code, sumsOfLists(a, b))
		}
	}
}

func TestForestFlowsAtTheLimits(t *testing.T) {
	const most = impl.MaxFlow
	chain := networkOf(4, pipe(0, 1), pipe(2, 1), pipe(2, 3))
	star := networkOf(5, pipe(1, 0), pipe(1, 2), pipe(3, 1), pipe(1, 4))
	cases := []struct {
		n              impl.Network
		supplies, want []int64
	}{
		{chain, []int64{most - 1, 1, -1, 1 - most}, []int64{most - 1, -most, most - 1}},
		{chain, []int64{1 - most, -1, 1, most - 1}, []int64{1 - most, most, 1 - most}},
		{chain, []int64{most, 1, -1, -most}, nil}, {chain, []int64{-most, -1, 1, most}, nil},
		{chain, []int64{most, 1, -most, -1}, nil}, {chain, []int64{1, most, -1, -most}, nil},
		{chain, []int64{most, most, -most, -most}, nil}, {chain, []int64{-most, -most, most, most}, nil},
		{chain, []int64{most, -most, most, -most}, []int64{most, 0, most}},
		{chain, []int64{most, -most, -most, most}, []int64{most, 0, -most}},
		{chain, []int64{most, 0, 0, -most}, []int64{most, -most, most}},
		// The supplies of some nodes alone would not fit, whichever of them are added up first.
		{star, []int64{-most, 0, most, most, -most}, []int64{most, -most, most, most}},
		{star, []int64{-most, most, most, -most, 0}, []int64{most, -most, -most, 0}},
		{star, []int64{0, -most, -most, most, most}, []int64{0, most, most, -most}},
	}
	for _, c := range cases {
		got, code := impl.ForestFlows(c.n, c.supplies)
		if c.want == nil {
			wantList(t, "ForestFlows", got, code, nil, impl.ErrRange)
		} else {
			wantList(t, "ForestFlows", got, code, c.want, impl.ErrNone)
		}
		wantEven(t, c.n, c.supplies, true)
	}
	// Supplies that are not even come first, also where the forest could not carry them.
	apart := networkOf(5, chain.Pipes...)
	for _, supplies := range [][]int64{{most, 1, -1, -most, 1}, {most, 1, -1, 1 - most, 0}, {most, most, most, most, most}, {most, 1, -1, 1 - most, -1}} {
		got, code := impl.ForestFlows(apart, supplies)
		wantList(t, "ForestFlows", got, code, nil, impl.ErrState)
	}
}

// TestForestFlowsByDefinition compares with flows through cuts, and looks at the chords.
func TestForestFlowsByDefinition(t *testing.T) {
	r := rand.New(rand.NewSource(16))
	counts := map[bool]int{}
	for _, n := range networksToSearch() {
		for range 2 {
			supplies := evenSupplies(r, n)
			want := forestFlowsByDefinition(n, supplies)
			got, code := impl.ForestFlows(n, supplies)
			wantFlows(t, "ForestFlows", got, code, want)
			counts[areInRange(want)]++
			if code != impl.ErrNone {
				continue
			}
			wantBalanced(t, n, got, supplies, true)
			for _, chord := range chordsByDefinition(n) {
				if got[chord] != 0 {
					t.Errorf("ForestFlows(%v, %v) returned %v with a flow through the chord %d", n, supplies, got, chord)
				}
			}
			supplies[r.Intn(len(supplies))] += []int64{-1, 1}[r.Intn(2)]
			if areInRange(supplies) {
				got, code = impl.ForestFlows(n, supplies)
				wantList(t, "ForestFlows", got, code, nil, impl.ErrState)
			}
		}
	}
	if counts[true] < 300 || counts[false] < 300 {
		t.Errorf("only %v supplies have been tried", counts)
	}
}

func TestTransitsByDefinition(t *testing.T) {
	r := rand.New(rand.NewSource(17))
	for _, n := range networksToSearch() {
		flows := someFlows(r, len(n.Pipes))
		for node, want := range transitsByDefinition(n, flows) {
			got, code := impl.TransitOf(n, flows, int64(node))
			wantNumber(t, "TransitOf", got, code, want, impl.ErrNone)
		}
	}
}

func TestTransitsOfNoNode(t *testing.T) {
	for _, n := range []impl.Network{networkOf(1), networkOf(2, pipe(0, 1)), mixedNetwork(), largestNetwork()} {
		nodes := int64(len(n.Nodes))
		for _, node := range append(slices.Clone(noIndices), nodes, nodes+1) {
			got, code := impl.TransitOf(n, repeated(len(n.Pipes), 3), node)
			wantNumber(t, "TransitOf", got, code, 0, impl.ErrRange)
			// The list comes before the node.
			got, code = impl.TransitOf(n, repeated(len(n.Pipes)+1, 3), node)
			wantNumber(t, "TransitOf", got, code, 0, impl.ErrLimit)
		}
	}
}

// TestBalancedListsDifferByCirculations checks promise 7 with any flows and those in the forest.
func TestBalancedListsDifferByCirculations(t *testing.T) {
	r := rand.New(rand.NewSource(18))
	compared := 0
	for _, n := range networksToSearch() {
		flows := smallFlows(r, len(n.Pipes))
		supplies, code := impl.SuppliesOf(n, flows)
		if code != impl.ErrNone {
			continue
		}
		wantEven(t, n, supplies, true)
		forest, code := impl.ForestFlows(n, supplies)
		if code != impl.ErrNone {
			continue
		}
		difference := differencesOfLists(flows, forest)
		wantCirculation(t, n, difference, areInRange(difference))
		// The flows through the chords are those of flows alone.
		amounts, _ := impl.ChordFlows(n, flows)
		round, code := impl.FromChords(n, amounts)
		wantFlows(t, "FromChords", round, code, difference)
		if code != impl.ErrNone {
			continue
		}
		got, code := impl.AddFlows(n, forest, round)
		wantList(t, "AddFlows", got, code, flows, impl.ErrNone)
		compared++
	}
	if compared < 300 {
		t.Errorf("only %d flow lists have been compared", compared)
	}
}

// TestCirculationsKeepTheBalance checks the other direction of promise 7: what goes round can be
// added, and nothing else.
func TestCirculationsKeepTheBalance(t *testing.T) {
	r := rand.New(rand.NewSource(19))
	for _, n := range networksToSearch() {
		flows := smallFlows(r, len(n.Pipes))
		supplies := suppliesByDefinition(n, flows)
		if !areInRange(supplies) {
			continue
		}
		round, other := closedWalk(r, n), smallFlows(r, len(n.Pipes))
		sum, code := impl.AddFlows(n, flows, round)
		if code != impl.ErrNone {
			t.Fatalf("AddFlows(%v, %v, %v) returned the code %d", n, flows, round, code)
		}
		wantBalanced(t, n, sum, supplies, true)
		got, code := impl.SuppliesOf(n, sum)
		wantList(t, "SuppliesOf", got, code, supplies, impl.ErrNone)
		sum, _ = impl.AddFlows(n, flows, other)
		wantBalanced(t, n, sum, supplies, impl.IsCirculation(n, other))
	}
}

// TestForestsDifferByCirculations shuffles the pipes, so that another forest carries the supplies.
func TestForestsDifferByCirculations(t *testing.T) {
	r := rand.New(rand.NewSource(20))
	different := 0
	for _, n := range networksToSearch() {
		supplies := evenSupplies(r, n)
		first, code := impl.ForestFlows(n, supplies)
		places, shuffled := r.Perm(len(n.Pipes)), copyOf(n)
		for i, place := range places {
			shuffled.Pipes[place] = n.Pipes[i]
		}
		found, otherCode := impl.ForestFlows(shuffled, supplies)
		if code != impl.ErrNone || otherCode != impl.ErrNone {
			continue
		}
		second := []int64{}
		for _, place := range places {
			second = append(second, found[place])
		}
		wantBalanced(t, n, second, supplies, true)
		difference := differencesOfLists(first, second)
		wantCirculation(t, n, difference, areInRange(difference))
		if !slices.Equal(first, second) {
			different++
		}
	}
	if different < 50 {
		t.Errorf("only %d supplies have flowed through two forests", different)
	}
}

func TestBalanceOfTheGreatestSizes(t *testing.T) {
	const most, nodes, pipes = impl.MaxFlow, impl.MaxNodes, impl.MaxPipes
	// The pipes from 24 on are parallel to the first 16 ones.
	ring, full := largestNetwork(), repeated(pipes, most)
	want := make([]int64, nodes)
	want[0], want[pipes-nodes] = most, -most
	got, code := impl.SuppliesOf(ring, full)
	wantList(t, "SuppliesOf of a ring", got, code, want, impl.ErrNone)
	wantBalanced(t, ring, full, want, true)
	for node, want := range append(append(repeated(1, most), repeated(pipes-nodes, 2*most)...), repeated(2*nodes-pipes-1, most)...) {
		transit, code := impl.TransitOf(ring, full, int64(node))
		wantNumber(t, "TransitOf of a ring", transit, code, want, impl.ErrNone)
	}
	all := []int64{}
	for i := range int64(pipes) {
		all = append(all, i)
	}
	got, code = impl.OverLimit(ring, full)
	wantList(t, "OverLimit of a ring", got, code, all, impl.ErrNone)
	got, code = impl.AddFlows(ring, full, repeated(pipes, -most))
	wantList(t, "AddFlows of a ring", got, code, make([]int64, pipes), impl.ErrNone)

	chain := networkOf(nodes, ring.Pipes[:nodes-1]...)
	supplies := make([]int64, nodes)
	supplies[0], supplies[nodes-1] = most, -most
	got, code = impl.ForestFlows(chain, supplies)
	wantList(t, "ForestFlows of a chain", got, code, repeated(nodes-1, most), impl.ErrNone)
	supplies[1], supplies[nodes-2] = 1, -1
	got, code = impl.ForestFlows(chain, supplies)
	wantList(t, "ForestFlows of a chain", got, code, nil, impl.ErrRange)

	star := networkOf(nodes)
	for i := range int64(nodes - 1) {
		star.Pipes = append(star.Pipes, pipe(i, nodes-1))
	}
	got, code = impl.ForestFlows(star, append(repeated(nodes-1, 1304), -1304*(nodes-1)))
	wantList(t, "ForestFlows of a star", got, code, repeated(nodes-1, 1304), impl.ErrNone)
	throughput, code := impl.ThroughputOf(star, append(repeated(nodes-1, most), -most))
	wantNumber(t, "ThroughputOf of a star", throughput, code, most*(nodes-1), impl.ErrNone)

	parallel := networkOf(2, slices.Repeat([]impl.Pipe{pipe(1, 0)}, pipes)...)
	transit, code := impl.TransitOf(parallel, full, 0)
	wantNumber(t, "TransitOf of parallel pipes", transit, code, most*pipes, impl.ErrNone)
	got, code = impl.SuppliesOf(parallel, full)
	wantList(t, "SuppliesOf of parallel pipes", got, code, nil, impl.ErrRange)
	got, code = impl.SuppliesOf(parallel, repeated(pipes, most/pipes))
	wantList(t, "SuppliesOf of parallel pipes", got, code, []int64{-most, most}, impl.ErrNone)
}

// wantNoBalanceOfFlows checks lists that are no flow lists, whatever the other arguments are.
func wantNoBalanceOfFlows(t *testing.T, n impl.Network, flows []int64, want int64) {
	t.Helper()
	got, code := impl.SuppliesOf(n, flows)
	wantList(t, "SuppliesOf", got, code, nil, want)
	got, code = impl.OverLimit(n, flows)
	wantList(t, "OverLimit", got, code, nil, want)
	for _, x := range []int64{0, 1, impl.MaxFlow, -impl.MaxFlow, impl.MaxFlow + 1} {
		other := repeated(len(n.Pipes), x)
		got, code = impl.AddFlows(n, flows, other)
		wantList(t, "AddFlows", got, code, nil, want)
		got, code = impl.AddFlows(n, other, flows)
		wantList(t, "AddFlows", got, code, nil, want)
	}
	got, code = impl.AddFlows(n, flows, flows)
	wantList(t, "AddFlows", got, code, nil, want)
	for _, node := range []int64{0, int64(len(n.Nodes)) - 1, int64(len(n.Nodes)), -1, math.MinInt64, math.MaxInt64} {
		transit, code := impl.TransitOf(n, flows, node)
		wantNumber(t, "TransitOf", transit, code, 0, want)
	}
	wantBalanced(t, n, flows, make([]int64, len(n.Nodes)), false)
	if len(flows) == len(n.Pipes) && impl.IsNetwork(n) {
		wantBalanced(t, n, flows, suppliesByDefinition(n, flows), false)
	}
}

// wantNoBalanceOfSupplies does so for lists that are no supplies.
func wantNoBalanceOfSupplies(t *testing.T, n impl.Network, supplies []int64, want int64) {
	t.Helper()
	got, code := impl.ForestFlows(n, supplies)
	wantList(t, "ForestFlows", got, code, nil, want)
	throughput, code := impl.ThroughputOf(n, supplies)
	wantNumber(t, "ThroughputOf", throughput, code, 0, want)
	wantEven(t, n, supplies, false)
	for _, x := range []int64{0, 1, impl.MaxFlow, -impl.MaxFlow, impl.MaxFlow + 1} {
		wantBalanced(t, n, repeated(len(n.Pipes), x), supplies, false)
	}
}

func TestListsThatCannotBeBalanced(t *testing.T) {
	for _, n := range []impl.Network{networkOf(1), networkOf(3), networkOf(2, pipe(0, 1)), mixedNetwork(), twoRings(), largestNetwork()} {
		nodes, pipes := len(n.Nodes), len(n.Pipes)
		for _, length := range []int{0, 1, nodes - 1, nodes, nodes + 1, pipes - 1, pipes, pipes + 1, impl.MaxPipes + 1, 100000} {
			for _, x := range []int64{0, impl.MaxFlow + 1} {
				if length >= 0 && length != pipes {
					wantNoBalanceOfFlows(t, n, repeated(length, x), impl.ErrLimit)
				}
				if length >= 0 && length != nodes {
					wantNoBalanceOfSupplies(t, n, repeated(length, x), impl.ErrLimit)
				}
			}
		}
		// noFlows are also beyond -MaxSupply..MaxSupply.
		for _, x := range noFlows {
			for i := range pipes {
				flows := make([]int64, pipes)
				flows[i] = x
				wantNoBalanceOfFlows(t, n, flows, impl.ErrLimit)
			}
			for i := range nodes {
				supplies := make([]int64, nodes)
				supplies[i] = x
				wantNoBalanceOfSupplies(t, n, supplies, impl.ErrLimit)
				if a, b, ok := joinedPair(n); ok {
					supplies = make([]int64, nodes)
					supplies[a], supplies[b] = x, -x
					wantNoBalanceOfSupplies(t, n, supplies, impl.ErrLimit)
				}
			}
		}
	}
}

// TestNoBalanceOfInvalidNetworks uses lists and nodes of which some are wrong as well.
func TestNoBalanceOfInvalidNetworks(t *testing.T) {
	wrong := append(invalidNetworks(mixedNetwork()), invalidNetworks(networkOf(4, pipe(0, 1), pipe(2, 1), pipe(3, 0)))...)
	for _, n := range append(wrong, invalidNetworks(largestNetwork())...) {
		for _, length := range []int{0, 1, 4, 17, len(n.Nodes), len(n.Pipes), len(n.Pipes) + 1} {
			for _, x := range []int64{0, 1, impl.MaxFlow + 1, math.MinInt64} {
				wantNoBalanceOfFlows(t, n, repeated(length, x), impl.ErrInvalid)
				wantNoBalanceOfSupplies(t, n, repeated(length, x), impl.ErrInvalid)
			}
		}
	}
}

// resultsOfBalance are all results of chapter 6, each as a list of lists; the lists are those of a
// network, and the flow lists may be added up.
func resultsOfBalance(n impl.Network, a, b, supplies []int64) map[string]func() ([][]int64, int64) {
	list := func(list []int64, code int64) ([][]int64, int64) { return [][]int64{list}, code }
	number := func(x, code int64) ([][]int64, int64) { return [][]int64{{x}}, code }
	answer := func(is bool) ([][]int64, int64) {
		if is {
			return number(1, impl.ErrNone)
		}
		return number(0, impl.ErrNone)
	}
	return map[string]func() ([][]int64, int64){
		"SuppliesOf":   func() ([][]int64, int64) { return list(impl.SuppliesOf(n, a)) },
		"IsBalanced":   func() ([][]int64, int64) { return answer(impl.IsBalanced(n, a, supplies)) },
		"IsEven":       func() ([][]int64, int64) { return answer(impl.IsEven(n, supplies)) },
		"ThroughputOf": func() ([][]int64, int64) { return number(impl.ThroughputOf(n, supplies)) },
		"OverLimit":    func() ([][]int64, int64) { return list(impl.OverLimit(n, a)) },
		"AddFlows":     func() ([][]int64, int64) { return list(impl.AddFlows(n, a, b)) },
		"the same":     func() ([][]int64, int64) { return list(impl.AddFlows(n, a, a)) },
		"ForestFlows":  func() ([][]int64, int64) { return list(impl.ForestFlows(n, supplies)) },
		"TransitOf":    func() ([][]int64, int64) { return number(impl.TransitOf(n, a, 1)) },
	}
}

// argumentsOfBalance returns flow lists and supplies of a network, with numbers behind them.
func argumentsOfBalance(n impl.Network) (a, b, supplies []int64) {
	a, b = repeated(len(n.Pipes)+2, 60), repeated(len(n.Pipes)+2, 0)
	supplies = append(suppliesByDefinition(n, a), 60, 60)
	return a, b, supplies
}

func TestBalanceLeavesArgumentsAlone(t *testing.T) {
	for _, base := range []impl.Network{networkOf(2), networkOf(2, pipe(0, 1)), mixedNetwork(), twoRings(), largestNetwork()} {
		n, memory := withMemory(base)
		a, b, supplies := argumentsOfBalance(n)
		results := resultsOfBalance(n, a[:len(n.Pipes)], b[:len(n.Pipes)], supplies[:len(n.Nodes)])
		wantLeftAlone(t, memory, [][]int64{a, b, supplies}, results)
	}
}

func TestListsOfBalanceAreNewMemory(t *testing.T) {
	n := mixedNetwork()
	a, b, supplies := argumentsOfBalance(n)
	a, b, supplies = a[:len(n.Pipes)], b[:len(n.Pipes)], supplies[:len(n.Nodes)]
	wantNewMemory(t, resultsOfBalance(n, a, b, supplies))
	// Each result is equal to one of the arguments, and has to stay as it is when that changes.
	sum, _ := impl.AddFlows(n, a, b)
	other, _ := impl.AddFlows(n, b, a)
	kept, _ := impl.SuppliesOf(n, a)
	forest, code := impl.ForestFlows(n, supplies)
	want := slices.Clone(forest)
	for _, list := range [][]int64{a, b, supplies} {
		for i := range list {
			list[i] = -7
		}
	}
	wantList(t, "AddFlows", sum, impl.ErrNone, repeated(len(n.Pipes), 60), impl.ErrNone)
	wantList(t, "AddFlows", other, impl.ErrNone, repeated(len(n.Pipes), 60), impl.ErrNone)
	wantList(t, "SuppliesOf", kept, impl.ErrNone, suppliesByDefinition(n, repeated(len(n.Pipes), 60)), impl.ErrNone)
	wantList(t, "ForestFlows", forest, code, want, impl.ErrNone)
}
