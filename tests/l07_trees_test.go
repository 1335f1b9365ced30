package tests

import (
	"math"
	"math/rand"
	"slices"
	"testing"

	"loop.example/g00852/impl"
)

// mostLevel is the greatest level that a root can be given; minus it is the least one.
const mostLevel = impl.MaxSquare / 2

// mostDrop is the drop of the greatest flow through the greatest resistance.
const mostDrop = impl.MaxResistance * impl.MaxFlow * impl.MaxFlow

// noLevels are numbers beyond -MaxSquare / 2..MaxSquare / 2.
var noLevels = []int64{
	-mostLevel - 1, mostLevel + 1, -impl.MaxSquare, impl.MaxSquare, math.MinInt64, math.MinInt64 + 1, math.MaxInt64,
}

func dropByDefinition(p impl.Pipe, q int64) int64 {
	if q < 0 {
		return -p.K * q * q
	}
	return p.K * q * q
}

// levelsByDefinition goes through the forest again and again, until each of its pipes has given
// the level of one end to the other one.
func levelsByDefinition(n impl.Network, forest, flows []int64, root, level int64) []int64 {
	levels, known := make([]int64, len(n.Nodes)), make([]bool, len(n.Nodes))
	levels[root], known[root] = level, true
	for range n.Nodes {
		for _, i := range forest {
			p, drop := n.Pipes[i], dropByDefinition(n.Pipes[i], flows[i])
			if known[p.From] && !known[p.To] {
				levels[p.To], known[p.To] = levels[p.From]-drop, true
			} else if known[p.To] && !known[p.From] {
				levels[p.From], known[p.From] = levels[p.To]+drop, true
			}
		}
	}
	return levels
}

// networksWithDrops are networks of all kinds, with resistances of all sizes.
func networksWithDrops() []impl.Network {
	r := rand.New(rand.NewSource(21))
	list := []impl.Network{}
	for _, n := range networksToSearch() {
		list = append(list, withSomeNumbers(r, n))
	}
	return list
}

// treesWithDrops are trees of all sizes, with such resistances.
func treesWithDrops() []impl.Network {
	r := rand.New(rand.NewSource(22))
	list := []impl.Network{}
	for _, n := range someTrees() {
		list = append(list, withSomeNumbers(r, n))
	}
	return list
}

func someLevel(r *rand.Rand) int64 {
	return []int64{0, -1, 10000, mostLevel, -mostLevel, r.Int63n(impl.MaxSquare+1) - mostLevel}[r.Intn(6)]
}

// withResistances gives the pipes of a network their resistances, in order.
func withResistances(n impl.Network, list ...int64) impl.Network {
	return changed(n, func(n *impl.Network) {
		for i, k := range list {
			n.Pipes[i].K = k
		}
	})
}

// steepPath has all nodes in a line, and the greatest resistances.
func steepPath() impl.Network {
	n := networkOf(impl.MaxNodes, largestNetwork().Pipes[:impl.MaxNodes-1]...)
	return withResistances(n, repeated(len(n.Pipes), impl.MaxResistance)...)
}

// lineOfThree has a pipe in each direction.
func lineOfThree() impl.Network {
	return withResistances(networkOf(3, pipe(0, 1), pipe(2, 1)), 2, 3)
}

// ringOfFour has the forest 0, 1, 3 and the chord 2; a search from another node than the first one
// would enter by other pipes.
func ringOfFour() impl.Network {
	return withResistances(networkOf(4, pipe(0, 1), pipe(1, 2), pipe(2, 3), pipe(3, 0)), 1, 10, 100, 1000)
}

func TestDropsOfSomePipes(t *testing.T) {
	cases := []struct{ k, q, want int64 }{
		{1, 0, 0}, {impl.MaxResistance, 0, 0}, {1, 1, 1}, {1, -1, -1}, {2, 10, 200}, {3, 4, 48}, {3, -4, -48},
		{7, -100, -70000}, {1, impl.MaxFlow, 900000000}, {1, -impl.MaxFlow, -900000000}, {999, 29999, 899040060999},
		{impl.MaxResistance, impl.MaxFlow, 900000000000}, {impl.MaxResistance, -impl.MaxFlow, -900000000000},
		{impl.MaxResistance, impl.MaxFlow - 1, 899940001000}, {impl.MaxResistance, 1 - impl.MaxFlow, -899940001000},
	}
	for _, c := range cases {
		// The other pipe has another resistance and another flow.
		n := withResistances(networkOf(3, pipe(2, 0), pipe(1, 2)), 5, c.k)
		got, code := impl.DropOf(n, 1, c.q)
		wantNumber(t, "DropOf", got, code, c.want, impl.ErrNone)
		list, code := impl.DropsOf(n, []int64{-2, c.q})
		wantList(t, "DropsOf", list, code, []int64{-20, c.want}, impl.ErrNone)
	}
}

func TestDropsByDefinition(t *testing.T) {
	r := rand.New(rand.NewSource(23))
	for _, n := range networksWithDrops() {
		flows, want := someFlows(r, len(n.Pipes)), []int64{}
		for i, p := range n.Pipes {
			want = append(want, dropByDefinition(p, flows[i]))
			got, code := impl.DropOf(n, int64(i), flows[i])
			wantNumber(t, "DropOf", got, code, want[i], impl.ErrNone)
			got, code = impl.DropOf(n, int64(i), -flows[i])
			wantNumber(t, "DropOf", got, code, -want[i], impl.ErrNone)
		}
		got, code := impl.DropsOf(n, flows)
		wantList(t, "DropsOf", got, code, want, impl.ErrNone)
	}
}

func TestErrorsOfDropOf(t *testing.T) {
	for _, n := range []impl.Network{networkOf(1), networkOf(3), lineOfThree(), mixedNetwork(), largestNetwork()} {
		for _, i := range append(slices.Clone(noIndices), int64(len(n.Pipes)), int64(len(n.Pipes))+1) {
			for _, q := range append(slices.Clone(noFlows), 0, 1) {
				got, code := impl.DropOf(n, i, q)
				wantNumber(t, "DropOf of no pipe", got, code, 0, impl.ErrRange)
			}
		}
		for i := range int64(len(n.Pipes)) {
			for _, q := range noFlows {
				got, code := impl.DropOf(n, i, q)
				wantNumber(t, "DropOf for no flow", got, code, 0, impl.ErrRange)
			}
		}
	}
}

func TestLevelsOfSomeNetworks(t *testing.T) {
	cases := []struct {
		name        string
		n           impl.Network
		flows       []int64
		root, level int64
		want        []int64
		lowest      int64
	}{
		{"one node", networkOf(1), nil, 0, 7, []int64{7}, 0},
		{"one node below 0", networkOf(1), nil, 0, -7, []int64{-7}, 0},
		{"one pipe", withResistances(networkOf(2, pipe(0, 1)), 5), []int64{3}, 0, 100, []int64{100, 55}, 1},
		{"one pipe that is turned", withResistances(networkOf(2, pipe(1, 0)), 5), []int64{3}, 0, 100, []int64{100, 145}, 0},
		{"a flow against its pipe", withResistances(networkOf(2, pipe(0, 1)), 5), []int64{-3}, 0, 100, []int64{100, 145}, 0},
		{"both", withResistances(networkOf(2, pipe(1, 0)), 5), []int64{-3}, 0, 100, []int64{100, 55}, 1},
		{"the other root", withResistances(networkOf(2, pipe(0, 1)), 5), []int64{3}, 1, 100, []int64{145, 100}, 1},
		{"no flow", lineOfThree(), []int64{0, 0}, 2, 100, []int64{100, 100, 100}, 0},
		{"a line", lineOfThree(), []int64{10, 4}, 0, 1000, []int64{1000, 800, 848}, 1},
		{"a line from its end", lineOfThree(), []int64{10, 4}, 2, 848, []int64{1000, 800, 848}, 1},
		{"a line from its middle", lineOfThree(), []int64{10, 4}, 1, 0, []int64{200, 0, 48}, 1},
		{"a line below 0", lineOfThree(), []int64{-10, 4}, 0, 0, []int64{0, 200, 248}, 0},
		{"a line with an equal end", lineOfThree(), []int64{0, -4}, 1, 50, []int64{50, 50, 2}, 2},
		{"a ring", ringOfFour(), []int64{1, 2, 3, 4}, 0, 50000, []int64{50000, 49999, 49959, 66000}, 2},
		// The chord has another drop than the way through the forest, and does not count.
		{"a ring from its second node", ringOfFour(), []int64{1, 2, 3, 4}, 1, 49999, []int64{50000, 49999, 49959, 66000}, 2},
		{"a ring from its third node", ringOfFour(), []int64{1, 2, 3, 4}, 2, 49959, []int64{50000, 49999, 49959, 66000}, 2},
		{"a ring from its last node", ringOfFour(), []int64{1, 2, 3, 4}, 3, 66000, []int64{50000, 49999, 49959, 66000}, 2},
		{"a ring with a flow in its chord", ringOfFour(), []int64{0, 0, 30000, 0}, 3, 0, []int64{0, 0, 0, 0}, 0},
		{"parallel pipes", withResistances(networkOf(2, pipe(1, 0), pipe(0, 1), pipe(0, 1)), 2, 3, 4), []int64{5, 6, 7}, 1, 0, []int64{-50, 0}, 0},
	}
	for _, c := range cases {
		got, code := impl.ForestLevels(c.n, c.flows, c.root, c.level)
		wantList(t, "ForestLevels of "+c.name, got, code, c.want, impl.ErrNone)
		lowest, code := impl.LowestNode(c.n, c.flows)
		wantNumber(t, "LowestNode of "+c.name, lowest, code, c.lowest, impl.ErrNone)
		for a := range c.want {
			for b := range c.want {
				gap, code := impl.GapBetween(c.n, c.flows, int64(a), int64(b))
				wantNumber(t, "GapBetween of "+c.name, gap, code, c.want[a]-c.want[b], impl.ErrNone)
			}
		}
	}
}

// TestLevelsByDefinition takes each node as the root.
func TestLevelsByDefinition(t *testing.T) {
	r := rand.New(rand.NewSource(24))
	counts := map[bool]int{}
	for _, n := range networksWithDrops() {
		forest := forestByDefinition(n)
		isConnected := len(forest) == len(n.Nodes)-1
		counts[isConnected]++
		for _, flows := range [][]int64{smallFlows(r, len(n.Pipes)), someFlows(r, len(n.Pipes))} {
			for root := range int64(len(n.Nodes)) {
				level := someLevel(r)
				got, code := impl.ForestLevels(n, flows, root, level)
				if isConnected {
					wantList(t, "ForestLevels", got, code, levelsByDefinition(n, forest, flows, root, level), impl.ErrNone)
				} else {
					wantList(t, "ForestLevels", got, code, nil, impl.ErrState)
				}
			}
		}
	}
	if counts[true] < 300 || counts[false] < 90 {
		t.Errorf("only %v networks have been tried", counts)
	}
}

// TestGapsAndLowestNodesByDefinition compares with the levels for each root.
func TestGapsAndLowestNodesByDefinition(t *testing.T) {
	r := rand.New(rand.NewSource(25))
	for _, n := range networksWithDrops() {
		forest, flows := forestByDefinition(n), smallFlows(r, len(n.Pipes))
		for root := range int64(len(n.Nodes)) {
			other := int64(r.Intn(len(n.Nodes)))
			gap, code := impl.GapBetween(n, flows, root, other)
			lowest, codeOfLowest := impl.LowestNode(n, flows)
			if len(forest) != len(n.Nodes)-1 {
				wantNumber(t, "GapBetween", gap, code, 0, impl.ErrState)
				wantNumber(t, "LowestNode", lowest, codeOfLowest, 0, impl.ErrState)
				continue
			}
			levels := levelsByDefinition(n, forest, flows, root, someLevel(r))
			wantNumber(t, "GapBetween", gap, code, levels[root]-levels[other], impl.ErrNone)
			first := int64(0)
			for node, level := range levels {
				if level < levels[first] {
					first = int64(node)
				}
			}
			wantNumber(t, "LowestNode", lowest, codeOfLowest, first, impl.ErrNone)
		}
	}
}

func TestSeveralLowestNodes(t *testing.T) {
	star := withResistances(networkOf(5, pipe(2, 0), pipe(1, 2), pipe(2, 3), pipe(4, 2)), 4, 1, 1, 9)
	cases := []struct {
		n     impl.Network
		flows []int64
		want  int64
	}{
		{networkOf(1), nil, 0}, {star, []int64{0, 0, 0, 0}, 0},
		{star, []int64{1, 0, 2, 0}, 0}, {star, []int64{0, -2, 2, 0}, 1}, {star, []int64{1, -2, 2, 0}, 0},
		{star, []int64{-1, 1, 0, 1}, 2}, {star, []int64{-1, 0, 1, 1}, 3}, {star, []int64{0, 0, 3, -1}, 3},
		{star, []int64{-1, 1, 0, 0}, 2}, {star, []int64{0, 0, 0, -1}, 4}, {star, []int64{0, -30, 30, -10}, 1},
		{star, []int64{15, -30, 30, -10}, 0}, {star, []int64{15, -30, 30, -11}, 4}, {star, []int64{0, 0, 0, 1}, 0},
		// Levels below 0 and above it are compared as they are.
		{lineOfThree(), []int64{-impl.MaxFlow, impl.MaxFlow}, 0}, {lineOfThree(), []int64{-impl.MaxFlow, -impl.MaxFlow}, 2},
		{ringOfFour(), []int64{1, -1, impl.MaxFlow, 0}, 1}, {steepPath(), make([]int64, impl.MaxNodes-1), 0},
	}
	for _, c := range cases {
		got, code := impl.LowestNode(c.n, c.flows)
		wantNumber(t, "LowestNode", got, code, c.want, impl.ErrNone)
	}
}

// TestChordsDoNotCount changes the flows through chords, which leaves all levels as they are, and
// those through pipes of the forest, which does not.
func TestChordsDoNotCount(t *testing.T) {
	r := rand.New(rand.NewSource(26))
	changes := 0
	for _, n := range networksWithDrops() {
		flows := smallFlows(r, len(n.Pipes))
		root := int64(r.Intn(len(n.Nodes)))
		want, code := impl.ForestLevels(n, flows, root, 5000)
		if code != impl.ErrNone {
			continue
		}
		other := slices.Clone(flows)
		for _, chord := range chordsByDefinition(n) {
			other[chord] = r.Int63n(2*impl.MaxFlow+1) - impl.MaxFlow
			changes++
		}
		got, code := impl.ForestLevels(n, other, root, 5000)
		wantList(t, "ForestLevels with other chords", got, code, want, impl.ErrNone)
		for _, i := range forestByDefinition(n) {
			other := slices.Clone(flows)
			other[i]++
			got, code := impl.ForestLevels(n, other, root, 5000)
			if code != impl.ErrNone || slices.Equal(got, want) {
				t.Errorf("ForestLevels(%v, %v, %d, 5000) returned %v and the code %d", n, other, root, got, code)
			}
		}
	}
	if changes < 1000 {
		t.Errorf("only %d flows have been changed", changes)
	}
}

// TestTurnedPipesKeepTheLevels turns a pipe together with its flow, and also the pipe alone.
func TestTurnedPipesKeepTheLevels(t *testing.T) {
	r := rand.New(rand.NewSource(27))
	for _, n := range networksWithDrops() {
		flows := smallFlows(r, len(n.Pipes))
		want, code := impl.ForestLevels(n, flows, 0, 5000)
		if code != impl.ErrNone {
			continue
		}
		for i := range int64(len(n.Pipes)) {
			turned, _ := impl.TurnPipe(n, i)
			against := slices.Clone(flows)
			against[i] = -against[i]
			got, code := impl.ForestLevels(turned, against, 0, 5000)
			wantList(t, "ForestLevels with a turned flow", got, code, want, impl.ErrNone)
			got, code = impl.ForestLevels(turned, flows, 0, 5000)
			other, _ := impl.ForestLevels(n, against, 0, 5000)
			wantList(t, "ForestLevels with a turned pipe", got, code, other, impl.ErrNone)
			drop, _ := impl.DropOf(n, i, flows[i])
			back, code := impl.DropOf(turned, i, flows[i])
			wantNumber(t, "DropOf a turned pipe", back, code, drop, impl.ErrNone)
		}
	}
}

// TestLevelsAtTheLimits gives the root its greatest and its least level; only that of the root is
// limited.
func TestLevelsAtTheLimits(t *testing.T) {
	n := withResistances(networkOf(2, pipe(0, 1)), impl.MaxResistance)
	cases := []struct{ q, root, level, first, second int64 }{
		{impl.MaxFlow, 0, mostLevel, mostLevel, mostLevel - mostDrop}, {impl.MaxFlow, 1, mostLevel, mostLevel + mostDrop, mostLevel},
		{impl.MaxFlow, 0, -mostLevel, -mostLevel, -mostLevel - mostDrop}, {impl.MaxFlow, 1, -mostLevel, -mostLevel + mostDrop, -mostLevel},
		{-impl.MaxFlow, 0, mostLevel, mostLevel, mostLevel + mostDrop}, {-impl.MaxFlow, 1, -mostLevel, -mostLevel - mostDrop, -mostLevel},
		{0, 0, mostLevel, mostLevel, mostLevel}, {0, 1, -mostLevel, -mostLevel, -mostLevel},
		{1, 0, mostLevel - 1, mostLevel - 1, mostLevel - 1001}, {1, 1, 1 - mostLevel, 1001 - mostLevel, 1 - mostLevel},
	}
	for _, c := range cases {
		got, code := impl.ForestLevels(n, []int64{c.q}, c.root, c.level)
		wantList(t, "ForestLevels at a limit", got, code, []int64{c.first, c.second}, impl.ErrNone)
		got, code = impl.TreeLevels(n, []int64{c.q, -c.q}, c.root, c.level)
		wantList(t, "TreeLevels at a limit", got, code, []int64{c.first, c.second}, impl.ErrNone)
	}
	for _, level := range noLevels {
		for root := range int64(2) {
			for _, q := range []int64{0, 1, -1, impl.MaxFlow, -impl.MaxFlow} {
				got, code := impl.ForestLevels(n, []int64{q}, root, level)
				wantList(t, "ForestLevels beyond a limit", got, code, nil, impl.ErrRange)
				got, code = impl.TreeLevels(n, []int64{q, -q}, root, level)
				wantList(t, "TreeLevels beyond a limit", got, code, nil, impl.ErrRange)
			}
		}
	}
}

func TestTreeFlowsOfSomeTrees(t *testing.T) {
	const most = impl.MaxFlow
	star := networkOf(5, pipe(1, 0), pipe(1, 2), pipe(3, 1), pipe(1, 4))
	line := networkOf(4, pipe(0, 1), pipe(2, 1), pipe(2, 3))
	cases := []struct {
		n              impl.Network
		supplies, want []int64
	}{
		{networkOf(1), []int64{0}, []int64{}},
		{networkOf(2, pipe(0, 1)), []int64{0, 0}, []int64{0}}, {networkOf(2, pipe(0, 1)), []int64{-4, 4}, []int64{-4}},
		{networkOf(2, pipe(1, 0)), []int64{-4, 4}, []int64{4}}, {networkOf(2, pipe(1, 0)), []int64{most, -most}, []int64{-most}},
		{lineOfThree(), []int64{10, -14, 4}, []int64{10, 4}}, {lineOfThree(), []int64{0, -14, 14}, []int64{0, 14}},
		{star, []int64{1, 2, 3, 4, -10}, []int64{-1, -3, 4, 10}}, {star, []int64{0, -1, 0, 1, 0}, []int64{0, 0, 1, 0}},
		{star, []int64{-most, 0, most, most, -most}, []int64{most, -most, most, most}},
		{line, []int64{most - 1, 1, -1, 1 - most}, []int64{most - 1, -most, most - 1}},
		{line, []int64{1 - most, -1, 1, most - 1}, []int64{1 - most, most, 1 - most}},
		{line, []int64{most, -most, most, -most}, []int64{most, 0, most}},
		// One unit more would have to flow through the second pipe, in one direction or the other.
		{line, []int64{most, 1, -1, -most}, nil}, {line, []int64{-most, -1, 1, most}, nil},
		{line, []int64{most - 1, 2, -2, 1 - most}, nil}, {line, []int64{most, most, -most, -most}, nil},
	}
	for _, c := range cases {
		got, code := impl.TreeFlows(c.n, c.supplies)
		levels, codeOfLevels := impl.TreeLevels(c.n, c.supplies, 0, 8)
		if c.want == nil {
			wantList(t, "TreeFlows", got, code, nil, impl.ErrRange)
			wantList(t, "TreeLevels", levels, codeOfLevels, nil, impl.ErrRange)
			continue
		}
		wantList(t, "TreeFlows", got, code, c.want, impl.ErrNone)
		want, _ := impl.ForestLevels(c.n, c.want, 0, 8)
		wantList(t, "TreeLevels", levels, codeOfLevels, want, impl.ErrNone)
	}
}

// TestTreesByDefinition compares the flows with those through cuts, and the levels with theirs.
func TestTreesByDefinition(t *testing.T) {
	r := rand.New(rand.NewSource(28))
	counts := map[bool]int{}
	for _, n := range treesWithDrops() {
		for range 4 {
			supplies, root, level := evenSupplies(r, n), int64(r.Intn(len(n.Nodes))), someLevel(r)
			want := forestFlowsByDefinition(n, supplies)
			got, code := impl.TreeFlows(n, supplies)
			wantFlows(t, "TreeFlows", got, code, want)
			levels, code := impl.TreeLevels(n, supplies, root, level)
			counts[areInRange(want)]++
			if !areInRange(want) {
				wantList(t, "TreeLevels", levels, code, nil, impl.ErrRange)
				continue
			}
			wantBalanced(t, n, got, supplies, true)
			wantList(t, "TreeLevels", levels, code, levelsByDefinition(n, forestByDefinition(n), want, root, level), impl.ErrNone)
		}
	}
	if counts[true] < 200 || counts[false] < 50 {
		t.Errorf("only %v supplies have been tried", counts)
	}
}

// TestLevelsOfEndsDifferByTheDrop checks promise 8, and the same for the pipes of a forest.
func TestLevelsOfEndsDifferByTheDrop(t *testing.T) {
	r := rand.New(rand.NewSource(29))
	for _, n := range treesWithDrops() {
		supplies, root, level := evenSupplies(r, n), int64(r.Intn(len(n.Nodes))), someLevel(r)
		flows, code := impl.TreeFlows(n, supplies)
		if code == impl.ErrNone {
			levels, code := impl.TreeLevels(n, supplies, root, level)
			wantDropsBetween(t, n, flows, levels, code, root, level)
		}
		flows = someFlows(r, len(n.Pipes))
		levels, code := impl.ForestLevels(n, flows, root, level)
		wantDropsBetween(t, n, flows, levels, code, root, level)
	}
	for _, n := range networksWithDrops() {
		if !impl.IsConnected(n) {
			continue
		}
		flows, root, level := someFlows(r, len(n.Pipes)), int64(r.Intn(len(n.Nodes))), someLevel(r)
		levels, code := impl.ForestLevels(n, flows, root, level)
		tree, flowsOfTree := impl.Network{Nodes: n.Nodes}, []int64{}
		for _, i := range forestByDefinition(n) {
			tree.Pipes, flowsOfTree = append(tree.Pipes, n.Pipes[i]), append(flowsOfTree, flows[i])
		}
		wantDropsBetween(t, tree, flowsOfTree, levels, code, root, level)
		alone, codeAlone := impl.ForestLevels(tree, flowsOfTree, root, level)
		wantList(t, "ForestLevels of a forest alone", alone, codeAlone, levels, code)
	}
}

func wantDropsBetween(t *testing.T, n impl.Network, flows, levels []int64, code, root, level int64) {
	t.Helper()
	if code != impl.ErrNone || len(levels) != len(n.Nodes) || levels[root] != level {
		t.Fatalf("the levels of %v with the level %d at %d are %v with the code %d", n, level, root, levels, code)
	}
	drops, code := impl.DropsOf(n, flows)
	for i, p := range n.Pipes {
		gap, codeOfGap := impl.GapBetween(n, flows, p.From, p.To)
		wantNumber(t, "GapBetween the ends of a pipe", gap, codeOfGap, drops[i], code)
		if levels[p.From]-levels[p.To] != drops[i] {
			t.Errorf("the levels %v of %v do not have the drops %v", levels, n, drops)
		}
	}
}

// TestNetworksThatAreNoTrees has supplies that are even, and some that are not.
func TestNetworksThatAreNoTrees(t *testing.T) {
	r := rand.New(rand.NewSource(30))
	counts := map[bool]int{}
	for _, n := range networksWithDrops() {
		isConnected := len(forestByDefinition(n)) == len(n.Nodes)-1
		if isConnected && len(n.Pipes) == len(n.Nodes)-1 {
			continue
		}
		counts[isConnected]++
		for _, supplies := range [][]int64{make([]int64, len(n.Nodes)), evenSupplies(r, n), repeated(len(n.Nodes), impl.MaxSupply)} {
			got, code := impl.TreeFlows(n, supplies)
			wantList(t, "TreeFlows of no tree", got, code, nil, impl.ErrState)
			got, code = impl.TreeLevels(n, supplies, 0, 0)
			wantList(t, "TreeLevels of no tree", got, code, nil, impl.ErrState)
		}
	}
	if counts[true] < 100 || counts[false] < 90 {
		t.Errorf("only %v networks have been tried", counts)
	}
	// As many pipes as a tree, but not connected; and two trees.
	for _, n := range []impl.Network{networkOf(4, pipe(0, 1), pipe(1, 2), pipe(2, 0)), networkOf(4, pipe(0, 1), pipe(2, 3)), networkOf(2)} {
		supplies := make([]int64, len(n.Nodes))
		got, code := impl.TreeFlows(n, supplies)
		wantList(t, "TreeFlows of no tree", got, code, nil, impl.ErrState)
		got, code = impl.TreeLevels(n, supplies, 1, 1)
		wantList(t, "TreeLevels of no tree", got, code, nil, impl.ErrState)
	}
}

func TestSuppliesOfTreesThatAreNotEven(t *testing.T) {
	r := rand.New(rand.NewSource(31))
	for _, n := range treesWithDrops() {
		supplies := evenSupplies(r, n)
		node := r.Intn(len(supplies))
		supplies[node] += []int64{-1, 1}[r.Intn(2)]
		if !areInRange(supplies) {
			continue
		}
		// These come before the range of the flows, which some of them leave.
		for _, list := range [][]int64{supplies, repeated(len(n.Nodes), 1), repeated(len(n.Nodes), -impl.MaxSupply)} {
			got, code := impl.TreeFlows(n, list)
			wantList(t, "TreeFlows", got, code, nil, impl.ErrState)
			got, code = impl.TreeLevels(n, list, 0, 0)
			wantList(t, "TreeLevels", got, code, nil, impl.ErrState)
		}
	}
}

func TestTreesOfTheGreatestSizes(t *testing.T) {
	const most, nodes, total = impl.MaxFlow, impl.MaxNodes, (impl.MaxNodes - 1) * mostDrop
	path, full := steepPath(), repeated(nodes-1, most)
	supplies, falling := make([]int64, nodes), []int64{}
	supplies[0], supplies[nodes-1] = most, -most
	for i := range int64(nodes) {
		falling = append(falling, mostLevel-i*mostDrop)
	}
	got, code := impl.TreeFlows(path, supplies)
	wantList(t, "TreeFlows of a path", got, code, full, impl.ErrNone)
	got, code = impl.DropsOf(path, full)
	wantList(t, "DropsOf a path", got, code, repeated(nodes-1, mostDrop), impl.ErrNone)
	got, code = impl.ForestLevels(path, full, 0, mostLevel)
	wantList(t, "ForestLevels of a path", got, code, falling, impl.ErrNone)
	got, code = impl.TreeLevels(path, supplies, nodes-1, mostLevel-total)
	wantList(t, "TreeLevels of a path", got, code, falling, impl.ErrNone)
	// From the other end the levels rise beyond the limit for a root.
	got, code = impl.TreeLevels(path, supplies, nodes-1, mostLevel)
	for i := range falling {
		falling[i] += total
	}
	wantList(t, "TreeLevels of a path", got, code, falling, impl.ErrNone)
	gap, code := impl.GapBetween(path, full, 0, nodes-1)
	wantNumber(t, "GapBetween the ends of a path", gap, code, total, impl.ErrNone)
	gap, code = impl.GapBetween(path, full, nodes-1, 0)
	wantNumber(t, "GapBetween the ends of a path", gap, code, -total, impl.ErrNone)
	lowest, code := impl.LowestNode(path, full)
	wantNumber(t, "LowestNode of a path", lowest, code, nodes-1, impl.ErrNone)
	supplies[1], supplies[nodes-2] = 1, -1
	got, code = impl.TreeFlows(path, supplies)
	wantList(t, "TreeFlows of a path", got, code, nil, impl.ErrRange)
	got, code = impl.TreeLevels(path, supplies, 0, 0)
	wantList(t, "TreeLevels of a path", got, code, nil, impl.ErrRange)

	// The search meets at n12, which pipe 11 enters; the pipe 12 is a chord.
	ring := withResistances(largestNetwork(), repeated(impl.MaxPipes, impl.MaxResistance)...)
	want := []int64{}
	for i := range int64(nodes) {
		if i <= 12 {
			want = append(want, -i*mostDrop)
		} else {
			want = append(want, (nodes-i)*mostDrop)
		}
	}
	got, code = impl.ForestLevels(ring, repeated(impl.MaxPipes, most), 0, 0)
	wantList(t, "ForestLevels of a ring", got, code, want, impl.ErrNone)
	lowest, code = impl.LowestNode(ring, repeated(impl.MaxPipes, most))
	wantNumber(t, "LowestNode of a ring", lowest, code, 12, impl.ErrNone)
	gap, code = impl.GapBetween(ring, repeated(impl.MaxPipes, most), 13, 12)
	wantNumber(t, "GapBetween nodes of a ring", gap, code, (nodes-1)*mostDrop, impl.ErrNone)
}

// failure is a condition on the arguments, and its error.
type failure struct {
	happens bool
	code    int64
}

func firstFailure(list ...failure) int64 {
	for _, f := range list {
		if f.happens {
			return f.code
		}
	}
	return impl.ErrNone
}

func wantCode(t *testing.T, call string, got []int64, code, want int64) {
	t.Helper()
	if code != want || want != impl.ErrNone && len(got) > 0 {
		t.Errorf("%s returned %v and the code %d, not the code %d", call, got, code, want)
	}
}

// networksOfFour are a tree, a ring, a network that is not connected, and one that is not valid.
func networksOfFour() map[string]impl.Network {
	line := networkOf(4, pipe(0, 1), pipe(2, 1), pipe(2, 3))
	return map[string]impl.Network{
		"tree": line, "ring": ringOfFour(), "apart": networkOf(4, pipe(0, 1), pipe(1, 2), pipe(2, 0)),
		"invalid": changed(line, func(n *impl.Network) { n.Pipes[2].K = 0 }),
	}
}

// flowsOfFour are three flow lists of such a network, and behind them lists that are none.
func flowsOfFour(size int) [][]int64 {
	return [][]int64{
		repeated(size, 5), repeated(size, impl.MaxFlow), repeated(size, -impl.MaxFlow), repeated(size+1, 5), repeated(size-1, 5), nil,
		append(repeated(size-1, 5), impl.MaxFlow+1), append(repeated(size-1, 5), -impl.MaxFlow-1), repeated(size, math.MinInt64),
	}
}

// nodesOfFour are indices of nodes of such a network, and of none.
var nodesOfFour = []int64{0, 3, 4, -1, math.MinInt64, math.MaxInt64}

func hasNoNode(node int64) bool {
	return node < 0 || node > 3
}

// TestErrorsOfLevelsInOrder takes all combinations of arguments that are right and wrong.
func TestErrorsOfLevelsInOrder(t *testing.T) {
	for name, n := range networksOfFour() {
		for i, flows := range flowsOfFour(len(n.Pipes)) {
			invalid, limit := failure{name == "invalid", impl.ErrInvalid}, failure{i > 2, impl.ErrLimit}
			state := failure{name == "apart", impl.ErrState}
			got, code := impl.DropsOf(n, flows)
			wantCode(t, "DropsOf", got, code, firstFailure(invalid, limit))
			node, code := impl.LowestNode(n, flows)
			wantCode(t, "LowestNode", withoutZero(node), code, firstFailure(invalid, limit, state))
			for _, a := range nodesOfFour {
				for _, b := range nodesOfFour {
					outside := failure{hasNoNode(a) || hasNoNode(b), impl.ErrRange}
					gap, code := impl.GapBetween(n, flows, a, b)
					wantCode(t, "GapBetween", withoutZero(gap), code, firstFailure(invalid, limit, outside, state))
				}
				for k, level := range append([]int64{0, mostLevel, -mostLevel}, noLevels...) {
					outside := failure{hasNoNode(a) || k > 2, impl.ErrRange}
					got, code := impl.ForestLevels(n, flows, a, level)
					wantCode(t, "ForestLevels", got, code, firstFailure(invalid, limit, outside, state))
				}
			}
		}
	}
}

// withoutZero returns a number as a list that is empty where nothing was found.
func withoutZero(x int64) []int64 {
	if x == 0 {
		return nil
	}
	return []int64{x}
}

// TestErrorsOfTreesInOrder does the same for the functions with supplies.
func TestErrorsOfTreesInOrder(t *testing.T) {
	const most = impl.MaxSupply
	lists := []struct {
		supplies                  []int64
		limit, uneven, isTooLarge bool
	}{
		{supplies: []int64{1, 2, -1, -2}}, {supplies: []int64{0, 0, 0, 0}}, {supplies: []int64{most, -most, most, -most}},
		{supplies: []int64{1, 0, 0, 0}, uneven: true}, {supplies: []int64{most, most, most, most}, uneven: true},
		{supplies: []int64{most, 1, -1, -most}, isTooLarge: true}, {supplies: []int64{-most, -1, most, 1}, isTooLarge: true},
		{supplies: []int64{0, 0, 0}, limit: true}, {supplies: []int64{0, 0, 0, 0, 0}, limit: true}, {supplies: nil, limit: true},
		{supplies: []int64{most + 1, -most - 1, 0, 0}, limit: true}, {supplies: []int64{0, -most - 1, most, 1}, limit: true},
		{supplies: []int64{math.MinInt64, math.MinInt64, 0, 0}, limit: true},
	}
	for name, n := range networksOfFour() {
		for _, c := range lists {
			invalid, limit := failure{name == "invalid", impl.ErrInvalid}, failure{c.limit, impl.ErrLimit}
			state, large := failure{name != "tree" || c.uneven, impl.ErrState}, failure{c.isTooLarge, impl.ErrRange}
			got, code := impl.TreeFlows(n, c.supplies)
			wantCode(t, "TreeFlows", got, code, firstFailure(invalid, limit, state, large))
			for _, root := range nodesOfFour {
				for k, level := range append([]int64{0, mostLevel, -mostLevel}, noLevels...) {
					outside := failure{hasNoNode(root) || k > 2, impl.ErrRange}
					got, code := impl.TreeLevels(n, c.supplies, root, level)
					wantCode(t, "TreeLevels", got, code, firstFailure(invalid, limit, outside, state, large))
				}
			}
		}
	}
}

// wantNoForest checks flows and supplies for which no function has a result.
func wantNoForest(t *testing.T, n impl.Network, flows, supplies []int64, want int64) {
	t.Helper()
	got, code := impl.DropsOf(n, flows)
	wantList(t, "DropsOf", got, code, nil, want)
	got, code = impl.TreeFlows(n, supplies)
	wantList(t, "TreeFlows", got, code, nil, want)
	lowest, code := impl.LowestNode(n, flows)
	wantNumber(t, "LowestNode", lowest, code, 0, want)
	for _, a := range []int64{0, int64(len(n.Nodes)) - 1, int64(len(n.Nodes)), -1, math.MinInt64, math.MaxInt64} {
		gap, code := impl.GapBetween(n, flows, a, 0)
		wantNumber(t, "GapBetween", gap, code, 0, want)
		gap, code = impl.GapBetween(n, flows, 0, a)
		wantNumber(t, "GapBetween", gap, code, 0, want)
		for _, level := range []int64{0, mostLevel + 1, math.MinInt64} {
			got, code := impl.ForestLevels(n, flows, a, level)
			wantList(t, "ForestLevels", got, code, nil, want)
			got, code = impl.TreeLevels(n, supplies, a, level)
			wantList(t, "TreeLevels", got, code, nil, want)
		}
	}
}

func TestListsWithoutForests(t *testing.T) {
	for _, n := range []impl.Network{networkOf(1), networkOf(3), lineOfThree(), mixedNetwork(), steepPath(), largestNetwork()} {
		nodes, pipes := len(n.Nodes), len(n.Pipes)
		for _, length := range []int{0, 1, nodes - 1, nodes, nodes + 1, pipes - 1, pipes, pipes + 1, impl.MaxPipes + 1, 100000} {
			if length < 0 || length == pipes || length == nodes {
				continue
			}
			wantNoForest(t, n, make([]int64, length), make([]int64, length), impl.ErrLimit)
		}
		for _, x := range noFlows {
			for i := range pipes {
				flows, supplies := make([]int64, pipes), make([]int64, nodes)
				flows[i], supplies[i%nodes] = x, x
				wantNoForest(t, n, flows, supplies, impl.ErrLimit)
			}
		}
	}
}

// TestNoLevelsOfInvalidNetworks uses other arguments of which some are wrong as well.
func TestNoLevelsOfInvalidNetworks(t *testing.T) {
	wrong := append(invalidNetworks(networkOf(4, pipe(0, 1), pipe(2, 1), pipe(3, 0))), invalidNetworks(mixedNetwork())...)
	for _, n := range append(wrong, invalidNetworks(largestNetwork())...) {
		for _, x := range []int64{0, impl.MaxFlow + 1} {
			wantNoForest(t, n, repeated(len(n.Pipes), x), repeated(len(n.Nodes), x), impl.ErrInvalid)
			wantNoForest(t, n, nil, nil, impl.ErrInvalid)
			for _, i := range []int64{0, int64(len(n.Pipes)) - 1, int64(len(n.Pipes)), -1, math.MinInt64, math.MaxInt64} {
				drop, code := impl.DropOf(n, i, x)
				wantNumber(t, "DropOf", drop, code, 0, impl.ErrInvalid)
			}
		}
	}
}

// resultsOfTrees are all results of chapter 7, each as a list of lists; the network is a tree with
// more than one node.
func resultsOfTrees(n impl.Network, flows, supplies []int64) map[string]func() ([][]int64, int64) {
	list := func(list []int64, code int64) ([][]int64, int64) { return [][]int64{list}, code }
	number := func(x, code int64) ([][]int64, int64) { return [][]int64{{x}}, code }
	return map[string]func() ([][]int64, int64){
		"DropOf":       func() ([][]int64, int64) { return number(impl.DropOf(n, 0, 3)) },
		"DropsOf":      func() ([][]int64, int64) { return list(impl.DropsOf(n, flows)) },
		"ForestLevels": func() ([][]int64, int64) { return list(impl.ForestLevels(n, flows, 1, 1000)) },
		"TreeFlows":    func() ([][]int64, int64) { return list(impl.TreeFlows(n, supplies)) },
		"TreeLevels":   func() ([][]int64, int64) { return list(impl.TreeLevels(n, supplies, 1, 1000)) },
		"GapBetween":   func() ([][]int64, int64) { return number(impl.GapBetween(n, flows, 1, 0)) },
		"LowestNode":   func() ([][]int64, int64) { return number(impl.LowestNode(n, flows)) },
	}
}

func TestTreesLeaveArgumentsAlone(t *testing.T) {
	for _, base := range []impl.Network{networkOf(2, pipe(1, 0)), lineOfThree(), steepPath()} {
		n, memory := withMemory(base)
		flows := repeated(len(n.Pipes)+2, 60)
		supplies := append(suppliesByDefinition(n, flows), 60, 60)
		results := resultsOfTrees(n, flows[:len(n.Pipes)], supplies[:len(n.Nodes)])
		wantLeftAlone(t, memory, [][]int64{flows, supplies}, results)
	}
}

// TestRingsLeaveArgumentsAlone has chords; there are no flows of a tree then.
func TestRingsLeaveArgumentsAlone(t *testing.T) {
	for _, base := range []impl.Network{ringOfFour(), largestNetwork()} {
		n, memory := withMemory(base)
		flows := repeated(len(n.Pipes)+2, 60)
		results := resultsOfTrees(n, flows[:len(n.Pipes)], nil)
		delete(results, "TreeFlows")
		delete(results, "TreeLevels")
		wantLeftAlone(t, memory, [][]int64{flows}, results)
		wantNewMemory(t, results)
	}
}

func TestListsOfTreesAreNewMemory(t *testing.T) {
	n, flows := steepPath(), repeated(impl.MaxNodes-1, 1)
	supplies := suppliesByDefinition(n, flows)
	wantNewMemory(t, resultsOfTrees(n, flows, supplies))
	// Without resistances to speak of, a result may be equal to an argument; it has to stay as it is.
	n = withResistances(n, repeated(len(n.Pipes), 1)...)
	drops, _ := impl.DropsOf(n, flows)
	found, _ := impl.TreeFlows(n, supplies)
	levels, _ := impl.TreeLevels(n, supplies, 0, 0)
	want := slices.Clone(levels)
	for _, list := range [][]int64{flows, supplies} {
		for i := range list {
			list[i] = -7
		}
	}
	wantList(t, "DropsOf", drops, impl.ErrNone, repeated(impl.MaxNodes-1, 1), impl.ErrNone)
	wantList(t, "TreeFlows", found, impl.ErrNone, repeated(impl.MaxNodes-1, 1), impl.ErrNone)
	wantList(t, "TreeLevels", levels, impl.ErrNone, want, impl.ErrNone)
}
