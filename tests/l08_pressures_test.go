package tests

import (
	"math"
	"math/rand"
	"slices"
	"testing"

	"loop.example/g00852/impl"
)

// withBoundsOf gives the nodes of a network their bounds, in order: a Low and a High for each.
func withBoundsOf(n impl.Network, list ...int64) impl.Network {
	return changed(n, func(n *impl.Network) {
		for i := range n.Nodes {
			n.Nodes[i].Low, n.Nodes[i].High = list[2*i], list[2*i+1]
		}
	})
}

// withSameBounds leaves the network itself as it is.
func withSameBounds(n impl.Network, low, high int64) impl.Network {
	return withBounds(copyOf(n), low, high)
}

func areWithinByDefinition(n impl.Network, levels []int64) bool {
	for i, x := range n.Nodes {
		if levels[i] < x.Low || levels[i] > x.High {
			return false
		}
	}
	return true
}

func missedByDefinition(n impl.Network, levels []int64) int64 {
	amounts := []int64{0}
	for i, x := range n.Nodes {
		amounts = append(amounts, x.Low-levels[i], levels[i]-x.High)
	}
	slices.Sort(amounts)
	return amounts[len(amounts)-1]
}

func tightByDefinition(n impl.Network, levels []int64) []int64 {
	nodes := []int64{}
	for i, level := range levels {
		if level == n.Nodes[i].Low || level == n.Nodes[i].High {
			nodes = append(nodes, int64(i))
		}
	}
	return nodes
}

// pairByDefinition returns the first blocking pair, and whether there is one; the gaps are those
// between any levels that follow from one another.
func pairByDefinition(n impl.Network, levels []int64) (int64, int64, bool) {
	for a, x := range n.Nodes {
		for b, y := range n.Nodes {
			if x.Low-y.High > levels[a]-levels[b] {
				return int64(a), int64(b), true
			}
		}
	}
	return 0, 0, false
}

// rangeByTrial tries all levels of a root that can be within bounds of up to the given size, and
// some more. It takes the levels that follow from the level 0 of the root.
func rangeByTrial(n impl.Network, levels []int64, size int64) (int64, int64, bool) {
	found := []int64{}
	moved := make([]int64, len(levels))
	for level := int64(-100); level <= size+100; level++ {
		for i := range moved {
			moved[i] = levels[i] + level
		}
		if areWithinByDefinition(n, moved) {
			found = append(found, level)
		}
	}
	if len(found) == 0 {
		return 0, 0, false
	}
	return found[0], found[len(found)-1], true
}

// boundedNetwork is a connected network with flows, and with bounds around levels that follow from
// the flows; the levels are those for the level 0 of the first node.
type boundedNetwork struct {
	n      impl.Network
	forest []int64
	flows  []int64
	levels []int64
}

// greatestSmallLevel is not exceeded by the bounds of networks with small drops.
const greatestSmallLevel = 2500

// boundedNetworks has networks of all sizes, of which many have an empty range, many a narrow one,
// and many a wide one.
func boundedNetworks() []boundedNetwork {
	r := rand.New(rand.NewSource(41))
	list := []boundedNetwork{}
	for _, n := range networksToSearch() {
		forest := forestByDefinition(n)
		if len(forest) != len(n.Nodes)-1 {
			continue
		}
		for range 2 {
			n, flows := copyOf(n), []int64{}
			for i := range n.Pipes {
				n.Pipes[i].K = 1 + r.Int63n(3)
				flows = append(flows, r.Int63n(7)-3)
			}
			levels := levelsByDefinition(n, forest, flows, 0, 0)
			n = withBoundsAround(r, n, levels)
			list = append(list, boundedNetwork{n, forest, flows, levels})
		}
	}
	return list
}

// withBoundsAround keeps the bounds that the levels leave, after the lowest one has been set to a
// level that may be below 0.
func withBoundsAround(r *rand.Rand, n impl.Network, levels []int64) impl.Network {
	lowest := slices.Min(levels)
	base, slack := r.Int63n(1000)-50-lowest, []int64{1, 2, 3, 20, 500}[r.Intn(5)]
	bounds := []int64{}
	for _, level := range levels {
		low, high := base+level-r.Int63n(slack), base+level+r.Int63n(slack)
		bounds = append(bounds, max(low, 0), max(high, 0))
	}
	if r.Intn(3) == 0 {
		// One node is moved, so that others are likely to block it, or it them.
		i, by := 2*r.Intn(len(n.Nodes)), r.Int63n(2*slack+1)-slack
		bounds[i], bounds[i+1] = max(bounds[i]+by, 0), max(bounds[i+1]+by, 0)
	}
	return withBoundsOf(n, bounds...)
}

func wantWithin(t *testing.T, n impl.Network, levels []int64, want bool) {
	t.Helper()
	if got := impl.IsWithin(n, levels); got != want {
		t.Errorf("IsWithin(%v, %v) returned %v", n, levels, got)
	}
}

func wantPair(t *testing.T, call string, a, b, code, wantA, wantB, wantCode int64) {
	t.Helper()
	if a != wantA || b != wantB || code != wantCode {
		t.Errorf("%s returned %d, %d and the code %d, not %d, %d and %d", call, a, b, code, wantA, wantB, wantCode)
	}
}

// wantRange checks the range of a root and its middle; an empty range has the middle 0.
func wantRange(t *testing.T, name string, n impl.Network, flows []int64, root, low, high, middle, want int64) {
	t.Helper()
	gotLow, gotHigh, code := impl.RootRange(n, flows, root)
	wantPair(t, "RootRange of "+name, gotLow, gotHigh, code, low, high, want)
	got, code := impl.MiddleLevel(n, flows, root)
	wantNumber(t, "MiddleLevel of "+name, got, code, middle, want)
}

func TestLevelsAtTheBounds(t *testing.T) {
	cases := []struct{ low, high int64 }{
		{0, 0}, {0, 1}, {1, 1}, {5, 5}, {5, 6}, {5, 9}, {0, 10000}, {100, 10000}, {0, impl.MaxLevel},
		{impl.MaxLevel, impl.MaxLevel}, {impl.MaxLevel - 1, impl.MaxLevel},
	}
	for _, c := range cases {
		for _, level := range []int64{c.low, c.high, (c.low + c.high) / 2} {
			wantBoundsAtEachNode(t, c.low, c.high, level, true)
		}
		for _, level := range []int64{
			c.low - 1, c.high + 1, c.low - 2, c.high + 1000, -1, -c.high - 1, impl.MaxLevel + 1, mostLevel, -mostLevel,
			impl.MaxSquare, -impl.MaxSquare, math.MinInt64, math.MinInt64 + 1, math.MaxInt64, math.MaxInt64 - 1,
		} {
			wantBoundsAtEachNode(t, c.low, c.high, level, false)
		}
	}
}

// wantBoundsAtEachNode checks the level of a node alone, and of each of several nodes; the other
// ones have other bounds, and are within them.
func wantBoundsAtEachNode(t *testing.T, low, high, level int64, want bool) {
	t.Helper()
	wantWithin(t, withBoundsOf(networkOf(1), low, high), []int64{level}, want)
	for i := range 4 {
		// IsWithin does not ask whether the network is connected, or what flows there.
		for _, n := range []impl.Network{networkOf(4), networkOf(4, pipe(0, 1), pipe(2, 1), pipe(3, 0), pipe(1, 2))} {
			bounds, levels := []int64{30, 40, 50, 60, 70, 80, 90, 100}, []int64{30, 60, 75, 99}
			bounds[2*i], bounds[2*i+1], levels[i] = low, high, level
			wantWithin(t, withBoundsOf(n, bounds...), levels, want)
		}
	}
}

func TestListsOfLevelsOfAWrongLength(t *testing.T) {
	for _, n := range []impl.Network{networkOf(1), networkOf(3), lineOfThree(), mixedNetwork(), largestNetwork()} {
		n = withSameBounds(n, 7, 7)
		for _, length := range []int{0, 1, len(n.Nodes) - 1, len(n.Nodes), len(n.Nodes) + 1, len(n.Pipes), impl.MaxNodes + 1, 100000} {
			wantWithin(t, n, repeated(length, 7), length == len(n.Nodes))
		}
		wantWithin(t, n, nil, false)
	}
}

func TestRangesOfSomeNetworks(t *testing.T) {
	one, two := networkOf(1), networkOf(2, pipe(0, 1))
	line := withBoundsOf(lineOfThree(), 0, 10000, 0, 10000, 100, 10000)
	lineFlows := []int64{10, 4}
	ring, ringFlows := withSameBounds(ringOfFour(), 0, 20000), []int64{1, 2, 3, 4}
	cases := []struct {
		name              string
		n                 impl.Network
		flows             []int64
		root              int64
		low, high, middle int64
	}{
		{"one node", withBoundsOf(one, 5, 9), nil, 0, 5, 9, 7},
		{"one node with one level", withBoundsOf(one, 5, 5), nil, 0, 5, 5, 5},
		{"one node with the level 0", withBoundsOf(one, 0, 0), nil, 0, 0, 0, 0},
		{"one node with the greatest level", withBoundsOf(one, impl.MaxLevel, impl.MaxLevel), nil, 0, impl.MaxLevel, impl.MaxLevel, impl.MaxLevel},
		{"one node with all levels", withBoundsOf(one, 0, impl.MaxLevel), nil, 0, 0, impl.MaxLevel, impl.MaxLevel / 2},
		{"a middle that is no integer", withBoundsOf(one, 5, 8), nil, 0, 5, 8, 6},
		{"a middle between 0 and 1", withBoundsOf(one, 0, 1), nil, 0, 0, 1, 0},
		{"no flow", withBoundsOf(two, 3, 30, 7, 20), []int64{0}, 0, 7, 20, 13},
		{"no flow, from the other end", withBoundsOf(two, 3, 30, 7, 20), []int64{0}, 1, 7, 20, 13},
		// c is 152 below a and has to be at least 100; a is the highest.
		{"a line", line, lineFlows, 0, 252, 10000, 5126},
		{"a line from its middle", line, lineFlows, 1, 52, 9800, 4926},
		{"a line from its end", line, lineFlows, 2, 100, 9848, 4974},
		{"a line with one level", withBoundsOf(line, 0, 252, 0, 10000, 100, 10000), lineFlows, 0, 252, 252, 252},
		{"a line with one level at its end", withBoundsOf(line, 0, 252, 0, 10000, 100, 10000), lineFlows, 2, 100, 100, 100},
		{"a line with two levels", withBoundsOf(line, 0, 253, 0, 10000, 100, 10000), lineFlows, 0, 252, 253, 252},
		{"a line with two levels at its end", withBoundsOf(line, 0, 253, 0, 10000, 100, 10000), lineFlows, 2, 100, 101, 100},
		// Only b is bounded so that a cannot reach its own bounds.
		{"a node between", withBoundsOf(line, 0, 10000, 7, 8, 0, 10000), lineFlows, 0, 207, 208, 207},
		{"a node between as the root", withBoundsOf(line, 0, 10000, 7, 8, 0, 10000), lineFlows, 1, 7, 8, 7},
		// Alone, b would let a be in -100..100, and in -100..0; a cannot be below 0, and the middle neither.
		{"levels below 0 that the root does not allow", withBoundsOf(two, 0, 100, 300, 500), []int64{-20}, 0, 0, 100, 50},
		{"a root at 0 only", withBoundsOf(two, 0, 100, 300, 400), []int64{-20}, 0, 0, 0, 0},
		// The chord has the drop 900, which does not count.
		{"a ring", ring, ringFlows, 0, 41, 4000, 2020}, {"a ring from its second node", ring, ringFlows, 1, 40, 3999, 2019},
		{"a ring from its third node", ring, ringFlows, 2, 0, 3959, 1979}, {"a ring from its last node", ring, ringFlows, 3, 16041, 20000, 18020},
	}
	for _, c := range cases {
		wantRange(t, c.name, c.n, c.flows, c.root, c.low, c.high, c.middle, impl.ErrNone)
		a, b, code := impl.BlockingPair(c.n, c.flows)
		wantPair(t, "BlockingPair of "+c.name, a, b, code, 0, 0, impl.ErrNotFound)
	}
}

func TestEmptyRangesAndTheirPairs(t *testing.T) {
	two, line := networkOf(2, pipe(0, 1)), lineOfThree()
	star := networkOf(4, pipe(3, 0), pipe(3, 1), pipe(2, 3))
	still := []int64{0, 0, 0}
	cases := []struct {
		name  string
		n     impl.Network
		flows []int64
		a, b  int64
	}{
		{"no flow", withBoundsOf(two, 0, 9, 10, 20), []int64{0}, 1, 0},
		{"no flow, the other way", withBoundsOf(two, 10, 20, 0, 9), []int64{0}, 0, 1},
		{"one level too few", withBoundsOf(line, 0, 251, 0, 10000, 100, 10000), []int64{10, 4}, 2, 0},
		{"too small a drop", withBoundsOf(two, 101, 200, 0, 50), []int64{7}, 0, 1},
		{"too great a drop", withBoundsOf(two, 101, 148, 100, 150), []int64{7}, 1, 0},
		// b would let a be in -200..-100 only, and a cannot be below 0.
		{"levels below 0", withBoundsOf(two, 0, 100, 200, 300), []int64{-20}, 0, 1},
		{"levels up to -1", withBoundsOf(two, 0, 100, 300, 399), []int64{-20}, 0, 1},
		{"levels above all", withBoundsOf(two, 0, impl.MaxLevel, impl.MaxLevel, impl.MaxLevel), []int64{1}, 1, 0},
		// n0 is too high for n2, n1 for n0 and n2, and n3 for n2.
		{"several pairs", withBoundsOf(star, 10, 20, 30, 40, 0, 5, 15, 35), still, 0, 2},
		{"several pairs from the second node", withBoundsOf(star, 1, 20, 30, 40, 0, 5, 15, 35), still, 1, 0},
		{"several pairs from the third node", withBoundsOf(star, 0, 20, 0, 30, 50, 60, 25, 40), still, 2, 0},
		{"several pairs, the first node is not in", withBoundsOf(star, 0, 90, 0, 30, 50, 60, 55, 70), still, 2, 1},
		{"the last nodes", withBoundsOf(star, 0, 90, 0, 90, 0, 10, 11, 90), still, 3, 2},
		{"the last nodes, the other way", withBoundsOf(star, 0, 90, 0, 90, 11, 90, 0, 10), still, 2, 3},
		{"the last nodes with a flow", withBoundsOf(star, 0, 90, 0, 90, 14, 90, 0, 10), []int64{0, 0, 1}, 2, 3},
		// The chord would let n2 be 900 higher than n3; the forest has it 16041 lower.
		{"a ring", withBoundsOf(ringOfFour(), 0, 90000, 0, 90000, 0, 90000, 0, 16040), []int64{1, 2, 3, 4}, 2, 3},
	}
	for _, c := range cases {
		a, b, code := impl.BlockingPair(c.n, c.flows)
		wantPair(t, "BlockingPair of "+c.name, a, b, code, c.a, c.b, impl.ErrNone)
		for root := range int64(len(c.n.Nodes)) {
			wantRange(t, c.name, c.n, c.flows, root, 0, 0, 0, impl.ErrInfeasible)
		}
	}
}

// TestOnlyForestsBlock uses the empty range of the ring above, with one level more, and with flows
// through the chord that would block more.
func TestOnlyForestsBlock(t *testing.T) {
	n := withBoundsOf(ringOfFour(), 0, 90000, 0, 90000, 0, 90000, 0, 16041)
	for _, q := range []int64{3, 0, -3, impl.MaxFlow, -impl.MaxFlow} {
		flows := []int64{1, 2, q, 4}
		wantRange(t, "a ring", n, flows, 0, 41, 41, 41, impl.ErrNone)
		wantRange(t, "a ring", n, flows, 3, 16041, 16041, 16041, impl.ErrNone)
		a, b, code := impl.BlockingPair(n, flows)
		wantPair(t, "BlockingPair of a ring", a, b, code, 0, 0, impl.ErrNotFound)
		nodes, code := impl.TightNodes(n, flows, 1, 40)
		wantList(t, "TightNodes of a ring", nodes, code, []int64{2, 3}, impl.ErrNone)
		missed, code := impl.MissedBy(n, flows, 1, 40)
		wantNumber(t, "MissedBy of a ring", missed, code, 0, impl.ErrNone)
	}
}

// TestNodesDoNotBlockThemselves has nodes with a single level; a Low above High, with which a node
// would block itself, is not valid.
func TestNodesDoNotBlockThemselves(t *testing.T) {
	for _, level := range []int64{0, 1, 500, impl.MaxLevel} {
		for _, base := range []impl.Network{networkOf(1), lineOfThree(), ringOfFour(), steepPath(), largestNetwork()} {
			n, flows := withSameBounds(base, level, level), make([]int64, len(base.Pipes))
			a, b, code := impl.BlockingPair(n, flows)
			wantPair(t, "BlockingPair", a, b, code, 0, 0, impl.ErrNotFound)
			for i := range n.Nodes {
				wantRange(t, "single levels", n, flows, int64(i), level, level, level, impl.ErrNone)
				wrong := copyOf(n)
				wrong.Nodes[i].Low++
				a, b, code := impl.BlockingPair(wrong, flows)
				wantPair(t, "BlockingPair", a, b, code, 0, 0, impl.ErrInvalid)
				wantRange(t, "a node that would block itself", wrong, flows, 0, 0, 0, 0, impl.ErrInvalid)
			}
		}
	}
}

func TestTightNodesAndMissedLevels(t *testing.T) {
	line := withBoundsOf(lineOfThree(), 0, 10000, 0, 10000, 100, 10000)
	flows := []int64{10, 4}
	narrow := withBoundsOf(lineOfThree(), 700, 1000, 800, 800, 848, 900)
	cases := []struct {
		name        string
		n           impl.Network
		flows       []int64
		root, level int64
		tight       []int64
		missed      int64
	}{
		{"one node at Low", withBoundsOf(networkOf(1), 5, 9), nil, 0, 5, []int64{0}, 0},
		{"one node at High", withBoundsOf(networkOf(1), 5, 9), nil, 0, 9, []int64{0}, 0},
		{"one node between", withBoundsOf(networkOf(1), 5, 9), nil, 0, 7, nil, 0},
		{"one node above Low", withBoundsOf(networkOf(1), 5, 9), nil, 0, 6, nil, 0},
		{"one node below Low", withBoundsOf(networkOf(1), 5, 9), nil, 0, 4, nil, 1},
		{"one node above High", withBoundsOf(networkOf(1), 5, 9), nil, 0, 10, nil, 1},
		{"one node with one level", withBoundsOf(networkOf(1), 5, 5), nil, 0, 5, []int64{0}, 0},
		{"one node at 0", withBoundsOf(networkOf(1), 0, 0), nil, 0, 0, []int64{0}, 0},
		{"one node below 0", withBoundsOf(networkOf(1), 0, 9), nil, 0, -9, nil, 9},
		{"a line at its least level", line, flows, 0, 252, []int64{2}, 0},
		{"a line at its greatest level", line, flows, 0, 10000, []int64{0}, 0},
		{"a line between", line, flows, 0, 5126, nil, 0},
		{"a line below", line, flows, 0, 200, []int64{1}, 52},
		{"a line one below", line, flows, 0, 251, nil, 1},
		{"a line one above", line, flows, 0, 10001, nil, 1},
		{"a line far below", line, flows, 2, -1000, nil, 1100},
		{"a line far above", line, flows, 1, 20000, nil, 10200},
		{"a line above from its end", line, flows, 2, 10000, []int64{2}, 152},
		// Each is at a bound: a at High, b at both, c at Low.
		{"all tight", narrow, flows, 0, 1000, []int64{0, 1, 2}, 0},
		{"all tight from the end", narrow, flows, 2, 848, []int64{0, 1, 2}, 0},
		{"none tight", narrow, flows, 0, 999, nil, 1},
		{"below the middle", narrow, flows, 1, 700, nil, 100},
		{"tight beside missed levels", narrow, flows, 1, 500, []int64{0}, 300},
		{"tight at both ends", withBoundsOf(line, 0, 1000, 0, 10000, 0, 848), flows, 0, 1000, []int64{0, 2}, 0},
		{"tight in the middle only", withBoundsOf(line, 0, 1001, 800, 9000, 0, 849), flows, 0, 1000, []int64{1}, 0},
		// Some are missed below, and others above; the greater amount counts.
		{"missed on both sides", withBoundsOf(line, 0, 990, 0, 10000, 855, 10000), flows, 0, 1000, nil, 10},
		{"missed on both sides, more below", withBoundsOf(line, 0, 990, 0, 10000, 865, 10000), flows, 0, 1000, nil, 17},
		{"missed by the node between", withBoundsOf(line, 1001, 2000, 0, 700, 850, 900), flows, 0, 1000, nil, 100},
		{"missed below by the node between", withBoundsOf(line, 1001, 2000, 930, 1000, 850, 900), flows, 0, 1000, nil, 130},
	}
	for _, c := range cases {
		nodes, code := impl.TightNodes(c.n, c.flows, c.root, c.level)
		wantList(t, "TightNodes of "+c.name, nodes, code, c.tight, impl.ErrNone)
		missed, code := impl.MissedBy(c.n, c.flows, c.root, c.level)
		wantNumber(t, "MissedBy of "+c.name, missed, code, c.missed, impl.ErrNone)
	}
}

// TestRangesByTrial compares with all levels that can be within bounds, for each root.
func TestRangesByTrial(t *testing.T) {
	counts := map[string]int{}
	for _, c := range boundedNetworks() {
		a, b, isBlocked := pairByDefinition(c.n, c.levels)
		gotA, gotB, code := impl.BlockingPair(c.n, c.flows)
		if isBlocked {
			wantPair(t, "BlockingPair", gotA, gotB, code, a, b, impl.ErrNone)
		} else {
			wantPair(t, "BlockingPair", gotA, gotB, code, 0, 0, impl.ErrNotFound)
		}
		for root := range int64(len(c.n.Nodes)) {
			levels := levelsByDefinition(c.n, c.forest, c.flows, root, 0)
			low, high, isFound := rangeByTrial(c.n, levels, greatestSmallLevel)
			if isFound == isBlocked {
				t.Fatalf("%v with the flows %v has a range and a blocking pair, or neither", c.n, c.flows)
			}
			if !isFound {
				counts["empty"]++
				wantRange(t, "a blocked network", c.n, c.flows, root, 0, 0, 0, impl.ErrInfeasible)
				continue
			}
			counts[map[bool]string{true: "one level", false: "several levels"}[low == high]]++
			if (low+high)%2 != 0 {
				counts["no integer in the middle"]++
			}
			wantRange(t, "a network", c.n, c.flows, root, low, high, (low+high)/2, impl.ErrNone)
		}
	}
	if len(counts) < 4 || counts["empty"] < 1000 || counts["one level"] < 200 || counts["several levels"] < 1000 || counts["no integer in the middle"] < 300 {
		t.Errorf("only %v ranges have been tried", counts)
	}
}

// TestLevelsAreWithinBoundsInTheRange checks promise 9 by the functions themselves.
func TestLevelsAreWithinBoundsInTheRange(t *testing.T) {
	r := rand.New(rand.NewSource(42))
	list := boundedNetworks()
	for _, n := range networksWithDrops() {
		if impl.IsConnected(n) {
			list = append(list, boundedNetwork{n: n, flows: smallFlows(r, len(n.Pipes))}, boundedNetwork{n: n, flows: someFlows(r, len(n.Pipes))})
			list = append(list, boundedNetwork{n: n, flows: make([]int64, len(n.Pipes))}, wideNetwork(r, n))
		}
	}
	counts := map[bool]int{}
	for _, c := range list {
		for _, root := range r.Perm(len(c.n.Nodes))[:min(len(c.n.Nodes), 4)] {
			counts[wantPromise(t, r, c.n, c.flows, int64(root))]++
		}
	}
	if counts[true] < 1000 || counts[false] < 1000 {
		t.Errorf("only %v roots have been tried", counts)
	}
}

// wideNetwork has great drops, and bounds that are almost as wide as allowed.
func wideNetwork(r *rand.Rand, n impl.Network) boundedNetwork {
	bounds, flows := []int64{}, []int64{}
	for range n.Nodes {
		bounds = append(bounds, r.Int63n(1000), impl.MaxLevel-r.Int63n(1000))
	}
	for _, p := range n.Pipes {
		flows = append(flows, (r.Int63n(2001)-1000)/(1+p.K/20))
	}
	return boundedNetwork{n: withBoundsOf(n, bounds...), flows: flows}
}

// wantPromise reports whether the range has levels.
func wantPromise(t *testing.T, r *rand.Rand, n impl.Network, flows []int64, root int64) bool {
	t.Helper()
	low, high, code := impl.RootRange(n, flows, root)
	_, _, codeOfPair := impl.BlockingPair(n, flows)
	isEmpty := code == impl.ErrInfeasible
	if !isEmpty && (code != impl.ErrNone || low > high) || isEmpty != (codeOfPair == impl.ErrNone) || !isEmpty && codeOfPair != impl.ErrNotFound {
		t.Fatalf("the range of %d in %v with the flows %v is %d..%d with the code %d, and BlockingPair has the code %d", root, n, flows, low, high, code, codeOfPair)
	}
	x := n.Nodes[root]
	tried := []int64{low - 1, low, high, high + 1, low - 1 - r.Int63n(1000), high + 1 + r.Int63n(1000), x.Low, x.High, x.Low - 1, x.High + 1}
	tried = append(tried, -1, 0, x.Low+r.Int63n(x.High-x.Low+1), mostLevel, -mostLevel)
	if !isEmpty {
		middle, code := impl.MiddleLevel(n, flows, root)
		wantNumber(t, "MiddleLevel", middle, code, low+(high-low)/2, impl.ErrNone)
		tried = append(tried, low+r.Int63n(high-low+1), middle)
	}
	for _, level := range tried {
		levels, code := impl.ForestLevels(n, flows, root, level)
		isWithin := !isEmpty && low <= level && level <= high
		wantWithin(t, n, levels, isWithin)
		missed, codeOfMissed := impl.MissedBy(n, flows, root, level)
		if code != impl.ErrNone || codeOfMissed != impl.ErrNone || (missed == 0) != isWithin || missed < 0 {
			t.Errorf("the level %d of %d in %v with the flows %v misses by %d", level, root, n, flows, missed)
		}
	}
	return !isEmpty
}

// TestRangesOfAllRootsAreMovedByTheGaps also has a tight node at each end of a range, and the
// distance to the range as the amount that is missed.
func TestRangesOfAllRootsAreMovedByTheGaps(t *testing.T) {
	r := rand.New(rand.NewSource(43))
	for _, c := range boundedNetworks() {
		low, high, code := impl.RootRange(c.n, c.flows, 0)
		if code != impl.ErrNone {
			continue
		}
		for root := range int64(len(c.n.Nodes)) {
			gap, _ := impl.GapBetween(c.n, c.flows, root, 0)
			gotLow, gotHigh, code := impl.RootRange(c.n, c.flows, root)
			wantPair(t, "RootRange", gotLow, gotHigh, code, low+gap, high+gap, impl.ErrNone)
			for _, level := range []int64{gotLow, gotHigh} {
				if nodes, code := impl.TightNodes(c.n, c.flows, root, level); code != impl.ErrNone || len(nodes) == 0 {
					t.Errorf("TightNodes(%v, %v, %d, %d) returned %v and the code %d", c.n, c.flows, root, level, nodes, code)
				}
			}
			by := 1 + r.Int63n(100000)
			missed, code := impl.MissedBy(c.n, c.flows, root, gotLow-by)
			wantNumber(t, "MissedBy below the range", missed, code, by, impl.ErrNone)
			missed, code = impl.MissedBy(c.n, c.flows, root, gotHigh+by)
			wantNumber(t, "MissedBy above the range", missed, code, by, impl.ErrNone)
		}
	}
}

func TestTightNodesAndMissedLevelsByDefinition(t *testing.T) {
	r := rand.New(rand.NewSource(44))
	sizes := map[int]int{}
	for _, c := range boundedNetworks() {
		for range 5 {
			root := int64(r.Intn(len(c.n.Nodes)))
			x := c.n.Nodes[root]
			for _, level := range []int64{x.Low, x.High, x.Low + 1, someLevel(r), r.Int63n(1000) - 100} {
				levels := levelsByDefinition(c.n, c.forest, c.flows, root, level)
				nodes, code := impl.TightNodes(c.n, c.flows, root, level)
				wantList(t, "TightNodes", nodes, code, tightByDefinition(c.n, levels), impl.ErrNone)
				missed, code := impl.MissedBy(c.n, c.flows, root, level)
				wantNumber(t, "MissedBy", missed, code, missedByDefinition(c.n, levels), impl.ErrNone)
				wantWithin(t, c.n, levels, areWithinByDefinition(c.n, levels))
				sizes[min(len(nodes), 3)]++
			}
		}
	}
	for size := range 4 {
		if sizes[size] < 200 {
			t.Errorf("only %v numbers of tight nodes have been tried", sizes)
		}
	}
}

// TestPairsByGaps takes the gaps from GapBetween, as the document does, also for great drops.
func TestPairsByGaps(t *testing.T) {
	r := rand.New(rand.NewSource(45))
	counts := map[bool]int{}
	for _, n := range networksWithDrops() {
		if !impl.IsConnected(n) {
			continue
		}
		for _, c := range []boundedNetwork{wideNetwork(r, n), {n: n, flows: someFlows(r, len(n.Pipes))}} {
			gaps := []int64{}
			for a := range int64(len(n.Nodes)) {
				gap, _ := impl.GapBetween(n, c.flows, a, 0)
				gaps = append(gaps, gap)
			}
			wantA, wantB, isBlocked := pairByDefinition(c.n, gaps)
			counts[isBlocked]++
			a, b, code := impl.BlockingPair(c.n, c.flows)
			if !isBlocked {
				wantPair(t, "BlockingPair", a, b, code, 0, 0, impl.ErrNotFound)
				continue
			}
			wantPair(t, "BlockingPair", a, b, code, wantA, wantB, impl.ErrNone)
			if gap, _ := impl.GapBetween(c.n, c.flows, a, b); c.n.Nodes[a].Low-c.n.Nodes[b].High <= gap || a == b {
				t.Errorf("BlockingPair(%v, %v) returned %d and %d with the gap %d", c.n, c.flows, a, b, gap)
			}
		}
	}
	if counts[true] < 200 || counts[false] < 100 {
		t.Errorf("only %v networks have been tried", counts)
	}
}

func TestPressureBoundsOfTheGreatestSizes(t *testing.T) {
	const most, nodes, total = impl.MaxFlow, impl.MaxNodes, (impl.MaxNodes - 1) * mostDrop
	path := withSameBounds(steepPath(), 0, impl.MaxLevel)
	falling, rising := repeated(nodes-1, most), repeated(nodes-1, -most)
	// The drop of one pipe alone is more than any bounds allow.
	a, b, code := impl.BlockingPair(path, falling)
	wantPair(t, "BlockingPair of a path", a, b, code, 1, 0, impl.ErrNone)
	a, b, code = impl.BlockingPair(path, rising)
	wantPair(t, "BlockingPair of a path", a, b, code, 0, 1, impl.ErrNone)
	for root := range int64(nodes) {
		wantRange(t, "a falling path", path, falling, root, 0, 0, 0, impl.ErrInfeasible)
		wantRange(t, "a rising path", path, rising, root, 0, 0, 0, impl.ErrInfeasible)
		wantRange(t, "a path without flow", path, make([]int64, nodes-1), root, 0, impl.MaxLevel, impl.MaxLevel/2, impl.ErrNone)
	}
	cases := []struct {
		root, level, missed int64
		tight               []int64
	}{
		{0, 0, total, []int64{0}}, {nodes - 1, 0, total - impl.MaxLevel, []int64{nodes - 1}},
		{0, impl.MaxLevel, total - impl.MaxLevel, []int64{0}}, {0, mostLevel, mostLevel - impl.MaxLevel, nil},
		{0, -mostLevel, mostLevel + total, nil}, {nodes - 1, mostLevel, mostLevel + total - impl.MaxLevel, nil},
		{nodes - 1, -mostLevel, mostLevel, nil}, {11, 0, 12 * mostDrop, []int64{11}},
		{12, impl.MaxLevel, 12 * mostDrop, []int64{12}}, {11, impl.MaxLevel, 12*mostDrop - impl.MaxLevel, []int64{11}},
	}
	for _, c := range cases {
		missed, code := impl.MissedBy(path, falling, c.root, c.level)
		wantNumber(t, "MissedBy of a path", missed, code, c.missed, impl.ErrNone)
		tight, code := impl.TightNodes(path, falling, c.root, c.level)
		wantList(t, "TightNodes of a path", tight, code, c.tight, impl.ErrNone)
	}

	// The pipes from n0 to n12 have the drop 3969000 each; the greatest flow goes through a chord.
	ring := withSameBounds(withResistances(largestNetwork(), repeated(impl.MaxPipes, impl.MaxResistance)...), 0, impl.MaxLevel)
	around := append(repeated(12, 63), repeated(impl.MaxPipes-12, 0)...)
	around[12] = most
	wantRange(t, "a ring", ring, around, 0, 47628000, impl.MaxLevel, 73814000, impl.ErrNone)
	wantRange(t, "a ring", ring, around, 12, 0, 52372000, 26186000, impl.ErrNone)
	tight, code := impl.TightNodes(ring, around, 23, impl.MaxLevel)
	wantList(t, "TightNodes of a ring", tight, code, []int64{0, 13, 14, 15, 16, 17, 18, 19, 20, 21, 22, 23}, impl.ErrNone)
	wantWithin(t, ring, repeated(nodes, impl.MaxLevel), true)
	a, b, code = impl.BlockingPair(ring, repeated(impl.MaxPipes, most))
	wantPair(t, "BlockingPair of a ring", a, b, code, 0, 13, impl.ErrNone)
}

// TestRootLevelsAtTheLimits gives the root its greatest and its least level, and those beyond.
func TestRootLevelsAtTheLimits(t *testing.T) {
	one, line := withBoundsOf(networkOf(1), 5, 9), withBoundsOf(lineOfThree(), 0, 10000, 0, 10000, 100, 10000)
	cases := []struct{ level, ofOne, ofLine int64 }{
		{mostLevel, mostLevel - 9, mostLevel - 9848}, {mostLevel - 1, mostLevel - 10, mostLevel - 9849},
		{-mostLevel, mostLevel + 5, mostLevel + 100}, {1 - mostLevel, mostLevel + 4, mostLevel + 99},
	}
	for _, c := range cases {
		missed, code := impl.MissedBy(one, nil, 0, c.level)
		wantNumber(t, "MissedBy at a limit", missed, code, c.ofOne, impl.ErrNone)
		missed, code = impl.MissedBy(line, []int64{10, 4}, 2, c.level)
		wantNumber(t, "MissedBy at a limit", missed, code, c.ofLine, impl.ErrNone)
		nodes, code := impl.TightNodes(line, []int64{10, 4}, 2, c.level)
		wantList(t, "TightNodes at a limit", nodes, code, nil, impl.ErrNone)
	}
	for _, level := range noLevels {
		missed, code := impl.MissedBy(one, nil, 0, level)
		wantNumber(t, "MissedBy beyond a limit", missed, code, 0, impl.ErrRange)
		nodes, code := impl.TightNodes(one, nil, 0, level)
		wantList(t, "TightNodes beyond a limit", nodes, code, nil, impl.ErrRange)
		missed, code = impl.MissedBy(line, []int64{10, 4}, 2, level)
		wantNumber(t, "MissedBy beyond a limit", missed, code, 0, impl.ErrRange)
		nodes, code = impl.TightNodes(line, []int64{10, 4}, 2, level)
		wantList(t, "TightNodes beyond a limit", nodes, code, nil, impl.ErrRange)
	}
}

func TestPressures(t *testing.T) {
	cases := []struct{ level, want int64 }{
		{0, 0}, {1, 1}, {2, 1}, {3, 1}, {4, 2}, {8, 2}, {9, 3}, {99, 9}, {100, 10}, {impl.MaxLevel, 10000}, {impl.MaxLevel - 1, 9999},
		{mostLevel, 707106781}, {impl.MaxSquare, impl.MaxFactor}, {impl.MaxSquare - 1, impl.MaxFactor - 1},
	}
	for _, c := range cases {
		got, code := impl.PressureOf(c.level)
		wantNumber(t, "PressureOf", got, code, c.want, impl.ErrNone)
	}
	for _, level := range append([]int64{-1, -4, -impl.MaxSquare, math.MinInt64, math.MinInt64 + 1}, tooLarge...) {
		got, code := impl.PressureOf(level)
		wantNumber(t, "PressureOf", got, code, 0, impl.ErrRange)
	}
	r := rand.New(rand.NewSource(46))
	for range 1000 {
		root := r.Int63n(impl.MaxFactor)
		got, code := impl.PressureOf(root*root + r.Int63n(2*root+1))
		wantNumber(t, "PressureOf", got, code, root, impl.ErrNone)
	}
}

// TestErrorsOfPressuresInOrder takes all combinations of arguments that are right and wrong.
func TestErrorsOfPressuresInOrder(t *testing.T) {
	codes := map[int64]int{}
	for name, n := range networksOfFour() {
		for i, flows := range flowsOfFour(len(n.Pipes)) {
			invalid, limit := failure{name == "invalid", impl.ErrInvalid}, failure{i > 2, impl.ErrLimit}
			state := failure{name == "apart", impl.ErrState}
			// The greatest flows and those of the ring have drops for which the bounds are too narrow.
			isEmpty := name == "ring" || i > 0
			a, b, code := impl.BlockingPair(n, flows)
			want := firstFailure(invalid, limit, state, failure{!isEmpty, impl.ErrNotFound})
			wantCode(t, "BlockingPair", withoutZero(a+b), code, want)
			codes[want]++
			for _, root := range nodesOfFour {
				outside := failure{hasNoNode(root), impl.ErrRange}
				want := firstFailure(invalid, limit, outside, state, failure{isEmpty, impl.ErrInfeasible})
				low, high, code := impl.RootRange(n, flows, root)
				wantCode(t, "RootRange", append(withoutZero(low), withoutZero(high)...), code, want)
				middle, code := impl.MiddleLevel(n, flows, root)
				wantCode(t, "MiddleLevel", withoutZero(middle), code, want)
				codes[want]++
				for k, level := range append([]int64{0, mostLevel, -mostLevel}, noLevels...) {
					outside := failure{hasNoNode(root) || k > 2, impl.ErrRange}
					want := firstFailure(invalid, limit, outside, state)
					nodes, code := impl.TightNodes(n, flows, root, level)
					wantCode(t, "TightNodes", nodes, code, want)
					missed, code := impl.MissedBy(n, flows, root, level)
					wantCode(t, "MissedBy", withoutZero(missed), code, want)
				}
			}
		}
	}
	if len(codes) != 7 {
		t.Errorf("only the codes %v have been tried", codes)
	}
}

// wantNoPressures checks flows for which no function has a result.
func wantNoPressures(t *testing.T, n impl.Network, flows []int64, want int64) {
	t.Helper()
	a, b, code := impl.BlockingPair(n, flows)
	wantPair(t, "BlockingPair", a, b, code, 0, 0, want)
	for _, root := range append([]int64{0, int64(len(n.Nodes)) - 1, int64(len(n.Nodes))}, noIndices...) {
		wantRange(t, "flows without levels", n, flows, root, 0, 0, 0, want)
		for _, level := range []int64{0, mostLevel + 1, math.MinInt64} {
			nodes, code := impl.TightNodes(n, flows, root, level)
			wantList(t, "TightNodes", nodes, code, nil, want)
			missed, code := impl.MissedBy(n, flows, root, level)
			wantNumber(t, "MissedBy", missed, code, 0, want)
		}
	}
}

func TestFlowsWithoutPressures(t *testing.T) {
	for _, n := range []impl.Network{networkOf(1), networkOf(3), lineOfThree(), mixedNetwork(), steepPath(), largestNetwork()} {
		for _, length := range []int{0, 1, len(n.Pipes) - 1, len(n.Nodes), len(n.Pipes) + 1, impl.MaxPipes + 1, 100000} {
			if length >= 0 && length != len(n.Pipes) {
				wantNoPressures(t, n, make([]int64, length), impl.ErrLimit)
			}
		}
		for _, x := range noFlows {
			for i := range n.Pipes {
				flows := make([]int64, len(n.Pipes))
				flows[i] = x
				wantNoPressures(t, n, flows, impl.ErrLimit)
			}
		}
	}
}

// TestNoPressuresOfInvalidNetworks uses other arguments of which some are wrong as well.
func TestNoPressuresOfInvalidNetworks(t *testing.T) {
	wrong := append(invalidNetworks(networkOf(4, pipe(0, 1), pipe(2, 1), pipe(3, 0))), invalidNetworks(mixedNetwork())...)
	for _, n := range append(wrong, invalidNetworks(largestNetwork())...) {
		for _, flows := range [][]int64{nil, make([]int64, len(n.Pipes)), repeated(len(n.Pipes), impl.MaxFlow+1)} {
			wantNoPressures(t, n, flows, impl.ErrInvalid)
		}
		wantWithin(t, n, nil, false)
		wantWithin(t, n, repeated(len(n.Nodes), 100), false)
		wantWithin(t, n, make([]int64, len(n.Nodes)+1), false)
	}
}

// TestNetworksApartHaveNoPressures has networks that are not connected, with all numbers for roots.
func TestNetworksApartHaveNoPressures(t *testing.T) {
	for _, n := range []impl.Network{networkOf(2), networkOf(3, pipe(1, 2)), mixedNetwork(), twoRings(), networkOf(impl.MaxNodes)} {
		flows := make([]int64, len(n.Pipes))
		a, b, code := impl.BlockingPair(n, flows)
		wantPair(t, "BlockingPair", a, b, code, 0, 0, impl.ErrState)
		for root := int64(-1); root <= int64(len(n.Nodes)); root++ {
			want := firstFailure(failure{root < 0 || root == int64(len(n.Nodes)), impl.ErrRange}, failure{true, impl.ErrState})
			wantRange(t, "a network that is not connected", n, flows, root, 0, 0, 0, want)
			nodes, code := impl.TightNodes(n, flows, root, 0)
			wantList(t, "TightNodes", nodes, code, nil, want)
			missed, code := impl.MissedBy(n, flows, root, 0)
			wantNumber(t, "MissedBy", missed, code, 0, want)
		}
	}
}

// resultsOfPressures are all results of chapter 8, each as a list of lists, with the code ErrNone
// where a network has a range or a blocking pair; one of both it always has.
func resultsOfPressures(n impl.Network, flows, levels []int64) map[string]func() ([][]int64, int64) {
	numbers := func(list ...int64) ([][]int64, int64) { return [][]int64{list}, impl.ErrNone }
	return map[string]func() ([][]int64, int64){
		"IsWithin": func() ([][]int64, int64) {
			if impl.IsWithin(n, levels) {
				return numbers(1)
			}
			return numbers(0)
		},
		"RootRange": func() ([][]int64, int64) {
			low, high, code := impl.RootRange(n, flows, 1)
			return numbers(low, high, code)
		},
		"TightNodes": func() ([][]int64, int64) {
			nodes, code := impl.TightNodes(n, flows, 1, 500)
			return [][]int64{nodes}, code
		},
		"MissedBy": func() ([][]int64, int64) {
			missed, code := impl.MissedBy(n, flows, 1, 500)
			return numbers(missed, code)
		},
		"BlockingPair": func() ([][]int64, int64) {
			a, b, code := impl.BlockingPair(n, flows)
			return numbers(a, b, code)
		},
		"MiddleLevel": func() ([][]int64, int64) {
			middle, code := impl.MiddleLevel(n, flows, 1)
			return numbers(middle, code)
		},
	}
}

func TestPressuresLeaveArgumentsAlone(t *testing.T) {
	for _, base := range []impl.Network{networkOf(2, pipe(1, 0)), lineOfThree(), ringOfFour(), steepPath(), largestNetwork()} {
		for _, q := range []int64{0, 1, 60} {
			n, memory := withMemory(withSameBounds(base, 500, 700))
			flows, levels := repeated(len(n.Pipes)+2, q), repeated(len(n.Nodes)+2, 500)
			results := resultsOfPressures(n, flows[:len(n.Pipes)], levels[:len(n.Nodes)])
			wantLeftAlone(t, memory, [][]int64{flows, levels}, results)
		}
	}
}

func TestListsOfPressuresAreNewMemory(t *testing.T) {
	n := withSameBounds(largestNetwork(), 500, 700)
	flows, levels := make([]int64, impl.MaxPipes), repeated(impl.MaxNodes, 500)
	wantNewMemory(t, resultsOfPressures(n, flows, levels))
	nodes, code := impl.TightNodes(n, flows, 1, 500)
	want := slices.Clone(nodes)
	for i := range flows {
		flows[i] = -7
	}
	wantList(t, "TightNodes", nodes, code, want, impl.ErrNone)
	if len(nodes) != impl.MaxNodes {
		t.Errorf("TightNodes of %v returned %v", n, nodes)
	}
}
