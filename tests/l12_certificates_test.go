package tests

import (
	"fmt"
	"math"
	"math/rand"
	"slices"
	"strconv"
	"strings"
	"testing"

	"loop.example/g00852/impl"
)

// connectedNetworks are networks for which proofs are made, of all kinds.
func connectedNetworks() []cycledNetwork {
	list := []cycledNetwork{withCycles(networkOf(1)), withCycles(steepPath()), withCycles(ringOfFour())}
	for i, n := range treesWithDrops() {
		if i%4 == 0 {
			list = append(list, withCycles(n))
		}
	}
	for _, c := range networksWithCycles() {
		if numberOfComponents(c.Network) == 1 {
			list = append(list, c)
		}
	}
	return list
}

func copyOfProof(p impl.Proof) impl.Proof {
	return impl.Proof{Flows: slices.Clone(p.Flows), Levels: slices.Clone(p.Levels)}
}

// withLevels returns the proof in which the levels follow from flows and the level of the root.
func withLevels(c cycledNetwork, flows []int64, level int64) impl.Proof {
	return impl.Proof{Flows: slices.Clone(flows), Levels: levelsByDefinition(c.Network, c.forest, flows, 0, level)}
}

func areProofLevels(levels []int64) bool {
	return !slices.ContainsFunc(levels, func(x int64) bool { return x < -impl.MaxSquare || x > impl.MaxSquare })
}

// conditionByDefinition returns the first condition that a proof for a connected network does not
// meet, or 0.
func conditionByDefinition(c cycledNetwork, supplies []int64, p impl.Proof) int64 {
	if len(p.Flows) != len(c.Pipes) || !areInRange(p.Flows) || !slices.Equal(suppliesByDefinition(c.Network, p.Flows), supplies) {
		return 1
	}
	if len(p.Levels) != len(c.Nodes) || !areProofLevels(p.Levels) || !slices.Equal(withLevels(c, p.Flows, p.Levels[0]).Levels, p.Levels) {
		return 2
	}
	bounds := boundsByDefinition(c, p.Flows)
	for i, residual := range residualsByDefinition(c, p.Flows) {
		if max(3*residual, -3*residual) > bounds[i] {
			return 3
		}
	}
	return 0
}

// madeByDefinition returns the proof that is made for supplies, the number of moves for it, and the
// error.
func madeByDefinition(c cycledNetwork, supplies []int64, level int64) (impl.Proof, int64, int64) {
	start := forestFlowsByDefinition(c.Network, supplies)
	code := firstFailure(
		failure{numberOfComponents(c.Network) > 1, impl.ErrState}, failure{level < -mostLevel || level > mostLevel, impl.ErrRange},
		failure{!areEvenByDefinition(c.Network, supplies), impl.ErrState}, failure{!areInRange(start), impl.ErrRange},
	)
	if code != impl.ErrNone {
		return impl.Proof{}, 0, code
	}
	flows, moves := relaxedByDefinition(c, start, impl.MaxStep)
	return withLevels(c, flows, level), moves, code
}

func errorsByDefinition(n impl.Network, p impl.Proof) []int64 {
	list := []int64{}
	for i, x := range n.Pipes {
		list = append(list, p.Levels[x.From]-dropByDefinition(x, p.Flows[i])-p.Levels[x.To])
	}
	return list
}

func textOfProof(n impl.Network, p impl.Proof) string {
	text := ""
	for i, x := range n.Nodes {
		text += fmt.Sprintf("%s=%d\n", x.Name, p.Levels[i])
	}
	for i, x := range n.Pipes {
		text += fmt.Sprintf("%s>%s=%d\n", n.Nodes[x.From].Name, n.Nodes[x.To].Name, p.Flows[i])
	}
	return text
}

func wantMade(t *testing.T, name string, n impl.Network, supplies []int64, level int64, want impl.Proof, wantCode int64) impl.Proof {
	t.Helper()
	name = fmt.Sprintf("MakeProof of %s with %v and %d", name, supplies, level)
	got, code := impl.MakeProof(n, supplies, level)
	wantList(t, name, got.Flows, code, want.Flows, wantCode)
	wantList(t, name, got.Levels, code, want.Levels, wantCode)
	return got
}

// wantChecked also compares the number of the condition with the definition.
func wantChecked(t *testing.T, name string, c cycledNetwork, supplies []int64, p impl.Proof, want int64) {
	t.Helper()
	name = fmt.Sprintf("CheckProof of %s with %v and %v", name, supplies, p)
	got, code := impl.CheckProof(c.Network, supplies, p)
	wantNumber(t, name, got, code, want, impl.ErrNone)
	wantNumber(t, "the definition of "+name, conditionByDefinition(c, supplies, p), code, want, impl.ErrNone)
}

// wantErrors checks a proof that fits the network: the errors of all pipes, the greatest one, and the
// text.
func wantErrors(t *testing.T, name string, n impl.Network, p impl.Proof, want []int64) {
	t.Helper()
	greatest := int64(0)
	for i, x := range want {
		greatest = max(greatest, x, -x)
		got, code := impl.PipeError(n, p, int64(i))
		wantNumber(t, fmt.Sprintf("PipeError of %s with %v, %d", name, p, i), got, code, x, impl.ErrNone)
	}
	for _, i := range append(slices.Clone(noIndices), int64(len(n.Pipes))) {
		got, code := impl.PipeError(n, p, i)
		wantNumber(t, fmt.Sprintf("PipeError of %s with %v, %d", name, p, i), got, code, 0, impl.ErrRange)
	}
	got, code := impl.ProofError(n, p)
	wantNumber(t, fmt.Sprintf("ProofError of %s with %v", name, p), got, code, greatest, impl.ErrNone)
	wantText(t, fmt.Sprintf("ProofText of %s with %v", name, p), impl.ProofText(n, p), textOfProof(n, p))
}

// wantNoErrors checks a network and a proof for which there are no errors of pipes and no text.
func wantNoErrors(t *testing.T, name string, n impl.Network, p impl.Proof, want int64) {
	t.Helper()
	for _, i := range []int64{0, int64(len(n.Pipes)) - 1, int64(len(n.Pipes)), -1, math.MinInt64, math.MaxInt64} {
		got, code := impl.PipeError(n, p, i)
		wantNumber(t, "PipeError of "+name, got, code, 0, want)
	}
	got, code := impl.ProofError(n, p)
	wantNumber(t, "ProofError of "+name, got, code, 0, want)
	wantText(t, "ProofText of "+name, impl.ProofText(n, p), "")
}

// wantPromise13 checks a proof against what the functions of other chapters say of it.
func wantPromise13(t *testing.T, n impl.Network, supplies []int64, p impl.Proof, condition int64) {
	t.Helper()
	isMet := impl.IsBalanced(n, p.Flows, supplies) && len(p.Levels) == len(n.Nodes) && areProofLevels(p.Levels)
	if isMet {
		levels, code := impl.ForestLevels(n, p.Flows, 0, 0)
		isMet = code == impl.ErrNone && slices.Equal(sumsOfLists(levels, repeated(len(levels), p.Levels[0])), p.Levels)
	}
	chords, _ := impl.ChordsOf(n)
	for _, chord := range chords {
		residual, code := impl.ResidualOf(n, p.Flows, chord)
		bound, other := impl.ResidualBound(n, p.Flows, chord)
		isMet = isMet && code == impl.ErrNone && other == impl.ErrNone && max(3*residual, -3*residual) <= bound
	}
	if isMet != (condition == 0) {
		t.Errorf("with %v the proof %v of %v does not meet the condition %d", supplies, p, n, condition)
	}
}

// wantErrorsOfAccepted checks that an accepted proof has errors at chords alone: their residuals.
func wantErrorsOfAccepted(t *testing.T, c cycledNetwork, p impl.Proof) {
	t.Helper()
	residuals := make([]int64, len(c.Pipes))
	for _, chord := range c.chords {
		residual, _ := impl.ResidualOf(c.Network, p.Flows, chord)
		residuals[chord] = -residual
	}
	wantErrors(t, "an accepted proof", c.Network, p, residuals)
	worst, _ := impl.LoopError(c.Network, p.Flows)
	got, code := impl.ProofError(c.Network, p)
	wantNumber(t, "ProofError of an accepted proof", got, code, worst, impl.ErrNone)
}

func TestMakeSomeProofs(t *testing.T) {
	const most = impl.MaxSupply
	two, three := resistant(pipe(0, 1), 1, 1), resistant(pipe(0, 1), 1, 4, 9)
	line, star := lineOfThree(), withResistances(networkOf(3, pipe(1, 0), pipe(2, 0)), 1, 2)
	cases := []struct {
		name     string
		n        impl.Network
		supplies []int64
		level    int64
		flows    []int64
		levels   []int64
		errors   []int64
	}{
		{"a triangle", triangle(1, 1, 1), []int64{30, 0, -30}, 1000, []int64{12, 12, 18}, []int64{1000, 856, 676}, []int64{0, 36, 0}},
		{"a triangle", triangle(1, 1, 1), []int64{30, 0, -30}, 0, []int64{12, 12, 18}, []int64{0, -144, -324}, []int64{0, 36, 0}},
		{"a triangle", triangle(1, 1, 1), []int64{-30, 0, 30}, -7, []int64{-12, -12, -18}, []int64{-7, 137, 317}, []int64{0, -36, 0}},
		{"a triangle", triangle(1, 2, 3), []int64{100, -40, -60}, 5000, []int64{61, 21, 39}, []int64{5000, 1279, 437}, []int64{0, -40, 0}},
		{"a triangle", triangle(1, 1, 1), []int64{0, 0, 0}, 9, []int64{0, 0, 0}, []int64{9, 9, 9}, []int64{0, 0, 0}},
		{"a ring", ringOfFour(), []int64{30, 0, -30, 0}, 10000, []int64{27, 27, -3, -3}, []int64{10000, 9271, 1981, 1000}, []int64{0, 0, 1881, 0}},
		{"two pipes", two, []int64{3, -3}, 100, []int64{1, 2}, []int64{100, 99}, []int64{0, -3}},
		{"two pipes", two, []int64{most, -most}, 0, []int64{15000, 15000}, []int64{0, -225000000}, []int64{0, 0}},
		{"two pipes", resistant(pipe(1, 0), 1, 1), []int64{3, -3}, 100, []int64{-1, -2}, []int64{100, 99}, []int64{0, 3}},
		{"three pipes", three, []int64{11, -11}, 36, []int64{6, 3, 2}, []int64{36, 0}, []int64{0, 0, 0}},
		{"one node", networkOf(1), []int64{0}, 77, nil, []int64{77}, nil},
		{"one pipe", networkOf(2, pipe(0, 1)), []int64{0, 0}, -77, []int64{0}, []int64{-77, -77}, []int64{0}},
		{"one pipe", networkOf(2, pipe(1, 0)), []int64{most, -most}, 1, []int64{-most}, []int64{1, 1 - most*most}, []int64{0}},
		{"a line", line, []int64{7, -9, 2}, 1000, []int64{7, 2}, []int64{1000, 902, 914}, []int64{0, 0}},
		{"a star", star, []int64{-5, 2, 3}, 0, []int64{2, 3}, []int64{0, 4, 18}, []int64{0, 0}},
	}
	for _, c := range cases {
		want := impl.Proof{Flows: c.flows, Levels: c.levels}
		got := wantMade(t, c.name, c.n, c.supplies, c.level, want, impl.ErrNone)
		wantChecked(t, c.name, withCycles(c.n), c.supplies, got, 0)
		wantErrors(t, c.name, c.n, got, c.errors)
	}
}

// TestLevelsOfTheRoot moves the levels of all nodes with that of the root.
func TestLevelsOfTheRoot(t *testing.T) {
	flat, n := withCycles(networkOf(2, pipe(0, 1))), withCycles(triangle(1, 1, 1))
	for _, level := range []int64{mostLevel, mostLevel - 1, -mostLevel, 1 - mostLevel, 0, 1, -1, impl.MaxSquare / 4, 1 << 32} {
		p := wantMade(t, "one pipe", flat.Network, []int64{0, 0}, level, impl.Proof{Flows: []int64{0}, Levels: []int64{level, level}}, impl.ErrNone)
		wantChecked(t, "one pipe", flat, []int64{0, 0}, p, 0)
		want := impl.Proof{Flows: []int64{12, 12, 18}, Levels: []int64{level, level - 144, level - 324}}
		p = wantMade(t, "a triangle", n.Network, []int64{30, 0, -30}, level, want, impl.ErrNone)
		wantChecked(t, "a triangle", n, []int64{30, 0, -30}, p, 0)
		wantErrors(t, "a triangle", n.Network, p, []int64{0, 36, 0})
	}
	for _, level := range noLevels {
		wantMade(t, "one pipe", flat.Network, []int64{0, 0}, level, impl.Proof{}, impl.ErrRange)
		wantMade(t, "a triangle", n.Network, []int64{30, 0, -30}, level, impl.Proof{}, impl.ErrRange)
		wantMade(t, "uneven supplies", n.Network, []int64{30, 0, -29}, level, impl.Proof{}, impl.ErrRange)
		wantMade(t, "a triangle apart", networkOf(4, n.Pipes...), []int64{30, 0, -30, 0}, level, impl.Proof{}, impl.ErrState)
	}
}

// TestProofsOfTheGreatestDrops has levels that differ by as much as is possible.
func TestProofsOfTheGreatestDrops(t *testing.T) {
	c, most := withCycles(steepPath()), int64(impl.MaxFlow)
	supplies := make([]int64, impl.MaxNodes)
	supplies[0], supplies[impl.MaxNodes-1] = most, -most
	for _, sign := range []int64{1, -1} {
		for _, level := range []int64{0, mostLevel, -mostLevel} {
			want := impl.Proof{Flows: repeated(impl.MaxNodes-1, sign*most)}
			for i := range int64(impl.MaxNodes) {
				want.Levels = append(want.Levels, level-sign*i*mostDrop)
			}
			p := wantMade(t, "a steep path", c.Network, supplies, level, want, impl.ErrNone)
			wantChecked(t, "a steep path", c, supplies, p, 0)
			wantErrors(t, "a steep path", c.Network, p, make([]int64, impl.MaxNodes-1))
		}
		supplies[0], supplies[impl.MaxNodes-1] = -most, most
	}
}

// suppliesToProve are supplies of all sizes, of which some are not even.
func suppliesToProve(r *rand.Rand, n impl.Network) [][]int64 {
	uneven := smallSupplies(r, n)
	uneven[r.Intn(len(uneven))]++
	return [][]int64{make([]int64, len(n.Nodes)), smallSupplies(r, n), evenSupplies(r, n), uneven}
}

func TestMadeProofsByDefinition(t *testing.T) {
	r := rand.New(rand.NewSource(81))
	counts, accepted := map[int64]int{}, map[bool]int{}
	for _, c := range append(connectedNetworks(), networksWithCycles()...) {
		for _, supplies := range suppliesToProve(r, c.Network) {
			level := someLevel(r)
			want, moves, code := madeByDefinition(c, supplies, level)
			p := wantMade(t, "a network", c.Network, supplies, level, want, code)
			counts[code]++
			if code != impl.ErrNone {
				continue
			}
			condition := conditionByDefinition(c, supplies, p)
			wantChecked(t, "a network", c, supplies, p, condition)
			wantPromise13(t, c.Network, supplies, p, condition)
			if moves < impl.MaxMoves && areInside(p.Flows) && condition != 0 {
				t.Errorf("the proof %v of %v with %v does not meet the condition %d", p, c.Network, supplies, condition)
			}
			accepted[condition == 0]++
			if condition == 0 {
				wantErrorsOfAccepted(t, c, p)
			}
		}
	}
	if counts[impl.ErrNone] < 300 || counts[impl.ErrState] < 300 || counts[impl.ErrRange] < 10 || accepted[true] < 300 {
		t.Errorf("only %v and %v proofs have been made", counts, accepted)
	}
}

// changesOfProof returns proofs of which most break some of the conditions.
func changesOfProof(r *rand.Rand, c cycledNetwork, p impl.Proof) []impl.Proof {
	node, by := r.Intn(len(c.Nodes)), []int64{1, -1, 7, -100}[r.Intn(4)]
	one, short := copyOfProof(p), copyOfProof(p)
	one.Levels[node] += by
	short.Levels = short.Levels[1:]
	long := impl.Proof{Flows: p.Flows, Levels: append(slices.Clone(p.Levels), 0)}
	moved := impl.Proof{Flows: p.Flows, Levels: sumsOfLists(p.Levels, repeated(len(p.Levels), by))}
	list := []impl.Proof{p, one, short, long, moved, withLevels(c, append(slices.Clone(p.Flows), 0), p.Levels[0])}
	if len(c.Pipes) > 0 {
		flows := slices.Clone(p.Flows)
		flows[r.Intn(len(flows))] += by
		list = append(list, withLevels(c, flows, p.Levels[0]), impl.Proof{Flows: flows, Levels: one.Levels})
		list = append(list, impl.Proof{Flows: p.Flows[1:], Levels: p.Levels})
	}
	for range min(len(c.basis), 3) {
		cycle := c.basis[r.Intn(len(c.basis))]
		for _, times := range []int64{1, -2, by} {
			flows := plusCycle(p.Flows, cycle, times)
			list = append(list, withLevels(c, flows, p.Levels[0]), impl.Proof{Flows: flows, Levels: p.Levels})
		}
	}
	return list
}

// TestChangedProofsByDefinition checks promise 13 with proofs that have been made, and with changes
// of these.
func TestChangedProofsByDefinition(t *testing.T) {
	r := rand.New(rand.NewSource(82))
	counts, fitting := map[int64]int{}, 0
	for _, c := range connectedNetworks() {
		for _, supplies := range suppliesToProve(r, c.Network) {
			p, _, code := madeByDefinition(c, supplies, someLevel(r))
			if code != impl.ErrNone {
				continue
			}
			for _, next := range changesOfProof(r, c, p) {
				condition := conditionByDefinition(c, supplies, next)
				wantChecked(t, "a network", c, supplies, next, condition)
				wantPromise13(t, c.Network, supplies, next, condition)
				counts[condition]++
				if len(next.Flows) != len(c.Pipes) || !areInRange(next.Flows) || len(next.Levels) != len(c.Nodes) {
					wantNoErrors(t, "a proof that does not fit", c.Network, next, impl.ErrLimit)
				} else if fitting++; fitting%10 == 0 {
					wantErrors(t, "a network", c.Network, next, errorsByDefinition(c.Network, next))
				}
			}
		}
	}
	if counts[0] < 500 || counts[1] < 500 || counts[2] < 500 || counts[3] < 500 {
		t.Errorf("only %v proofs have been checked", counts)
	}
}

func TestFlowsOfProofs(t *testing.T) {
	const most = impl.MaxFlow
	n := withCycles(triangle(1, 1, 1))
	supplies, levels := []int64{30, 0, -30}, []int64{1000, 856, 676}
	cases := []struct {
		flows []int64
		want  int64
	}{
		{[]int64{12, 12, 18}, 0}, {[]int64{12, 12}, 1}, {[]int64{12, 12, 18, 0}, 1}, {nil, 1}, {[]int64{12}, 1}, {[]int64{}, 1},
		{repeated(impl.MaxPipes, 12), 1}, {repeated(impl.MaxPipes+1, 12), 1}, {repeated(100000, 12), 1},
		// They balance other supplies.
		{[]int64{13, 12, 18}, 1}, {[]int64{12, 11, 18}, 1}, {[]int64{12, 12, 17}, 1}, {[]int64{-12, -12, -18}, 1}, {[]int64{0, 0, 0}, 1},
		{[]int64{12, 12, 19}, 1}, {[]int64{11, 12, 18}, 1}, {[]int64{math.MinInt64, 12, 18}, 1}, {[]int64{12, 12, math.MaxInt64}, 1},
	}
	for _, c := range cases {
		wantChecked(t, "a triangle", n, supplies, impl.Proof{Flows: c.flows, Levels: levels}, c.want)
	}
	// Round a cycle, flows may be at their limits and yet balance small supplies.
	round := []struct {
		flows []int64
		want  int64
	}{
		{[]int64{most, most, -most}, 3}, {[]int64{most + 1, most + 1, -most - 1}, 1}, {[]int64{-most, -most, most}, 3},
		{[]int64{-most - 1, -most - 1, most + 1}, 1}, {[]int64{most - 1, most - 1, 1 - most}, 3}, {[]int64{0, 0, 0}, 0},
	}
	for _, c := range round {
		wantChecked(t, "round a triangle", n, []int64{0, 0, 0}, withLevels(n, c.flows, 5), c.want)
	}
	// One end is at the limit, and the others are just within it or just beyond.
	for _, by := range []int64{0, 1} {
		flows := []int64{most + by, most, 29 - most}
		wantChecked(t, "a triangle", n, []int64{29 + by, -by, -29}, withLevels(n, flows, 0), []int64{3, 1}[by])
		flows = []int64{-most - by, -most, most - 29}
		wantChecked(t, "a triangle", n, []int64{-29 - by, by, 29}, withLevels(n, flows, 0), []int64{3, 1}[by])
	}
}

func TestSuppliesOfProofs(t *testing.T) {
	n, p := withCycles(triangle(1, 1, 1)), impl.Proof{Flows: []int64{12, 12, 18}, Levels: []int64{1000, 856, 676}}
	for _, supplies := range [][]int64{{31, 0, -31}, {30, 0, -29}, {-30, 0, 30}, {0, 0, 0}, {30, 1, -31}, {0, 30, -30}, {30, 30, 30}} {
		wantChecked(t, "other supplies", n, supplies, p, 1)
	}
	wantChecked(t, "its supplies", n, []int64{30, 0, -30}, p, 0)
	// Only a node without pipes has nothing that balances it.
	wantChecked(t, "one node", withCycles(networkOf(1)), []int64{1}, impl.Proof{Levels: []int64{0}}, 1)
	wantChecked(t, "one node", withCycles(networkOf(1)), []int64{0}, impl.Proof{Levels: []int64{0}}, 0)
}

func TestLevelsOfProofs(t *testing.T) {
	n := withCycles(triangle(1, 1, 1))
	supplies, flows := []int64{30, 0, -30}, []int64{12, 12, 18}
	cases := []struct {
		levels []int64
		want   int64
	}{
		{[]int64{1000, 856, 676}, 0}, {[]int64{1000, 856}, 2}, {[]int64{1000, 856, 676, 0}, 2}, {nil, 2}, {[]int64{}, 2}, {[]int64{1000}, 2},
		{repeated(impl.MaxNodes+1, 0), 2}, {repeated(100000, 0), 2},
		// They differ at one node, or are moved by the same number.
		{[]int64{1001, 856, 676}, 2}, {[]int64{999, 856, 676}, 2}, {[]int64{1000, 857, 676}, 2}, {[]int64{1000, 855, 676}, 2},
		{[]int64{1000, 856, 677}, 2}, {[]int64{1000, 856, 675}, 2}, {[]int64{1000, 1144, 1324}, 2}, {[]int64{0, 0, 0}, 2},
		{[]int64{1001, 857, 677}, 0}, {[]int64{999, 855, 675}, 0}, {[]int64{0, -144, -324}, 0}, {[]int64{-1000, -1144, -1324}, 0},
		// The level of the root goes beyond that of a made proof.
		{[]int64{mostLevel + 1, mostLevel - 143, mostLevel - 323}, 0}, {[]int64{-mostLevel - 1, -mostLevel - 145, -mostLevel - 325}, 0},
		{[]int64{impl.MaxSquare, impl.MaxSquare - 144, impl.MaxSquare - 324}, 0},
		{[]int64{impl.MaxSquare + 1, impl.MaxSquare - 143, impl.MaxSquare - 323}, 2},
		{[]int64{324 - impl.MaxSquare, 180 - impl.MaxSquare, -impl.MaxSquare}, 0},
		{[]int64{323 - impl.MaxSquare, 179 - impl.MaxSquare, -impl.MaxSquare - 1}, 2},
		// By wraparound they would follow from the flows.
		{[]int64{math.MinInt64 + 100, math.MaxInt64 - 43, math.MaxInt64 - 223}, 2}, {[]int64{math.MinInt64, math.MinInt64, math.MinInt64}, 2},
		{[]int64{math.MaxInt64, math.MaxInt64 - 144, math.MaxInt64 - 324}, 2},
	}
	for _, c := range cases {
		wantChecked(t, "a triangle", n, supplies, impl.Proof{Flows: flows, Levels: c.levels}, c.want)
	}
	// Without flows all levels are the same.
	for level, want := range map[int64]int64{
		impl.MaxSquare: 0, -impl.MaxSquare: 0, impl.MaxSquare + 1: 2, -impl.MaxSquare - 1: 2, 0: 0, math.MinInt64: 2, math.MaxInt64: 2,
	} {
		wantChecked(t, "one node", withCycles(networkOf(1)), []int64{0}, impl.Proof{Levels: []int64{level}}, want)
		wantChecked(t, "no flows", n, []int64{0, 0, 0}, impl.Proof{Flows: []int64{0, 0, 0}, Levels: repeated(3, level)}, want)
		wantChecked(t, "one pipe", withCycles(networkOf(2, pipe(1, 0))), []int64{0, 0}, impl.Proof{Flows: []int64{0}, Levels: repeated(2, level)}, want)
	}
	// Other levels than those of the forest belong to the chord at its end.
	wantChecked(t, "a chord", n, supplies, impl.Proof{Flows: flows, Levels: []int64{1000, 856, 712}}, 2)
}

// TestBoundsOfResiduals has cycles whose residual times three is at the bound, or beyond it by one or
// two.
func TestBoundsOfResiduals(t *testing.T) {
	two := func(a, b int64) impl.Network { return resistant(pipe(0, 1), a, b) }
	cases := []struct {
		n               impl.Network
		flows           []int64
		residual, bound int64
		want            int64
	}{
		{two(1, 5), []int64{2, 0}, -4, 12, 0}, {two(1, 5), []int64{-2, 0}, 4, 12, 0}, {two(1, 5), []int64{2, -1}, -9, 27, 0},
		{two(1, 5), []int64{-2, 1}, 9, 27, 0}, {two(1, 5), []int64{4, 1}, -11, 33, 0}, {two(5, 7), []int64{1, 2}, 23, 69, 0},
		{two(1, 4), []int64{2, 0}, -4, 11, 3}, {two(1, 4), []int64{-2, 0}, 4, 11, 3}, {two(1, 4), []int64{2, -1}, -8, 23, 3},
		{two(1, 4), []int64{2, 2}, 12, 35, 3}, {two(4, 7), []int64{4, 4}, 48, 143, 3}, {two(4, 7), []int64{-4, -4}, -48, 143, 3},
		{two(1, 3), []int64{2, 0}, -4, 10, 3}, {two(1, 3), []int64{-5, -2}, 13, 37, 3}, {two(1, 1), []int64{1, 0}, -1, 5, 0},
		{two(1, 1), []int64{0, 1}, 1, 5, 0}, {two(1, 1), []int64{2, 0}, -4, 8, 3}, {two(1, 1), []int64{1, 1}, 0, 8, 0},
		{triangle(1, 2, 3), []int64{-8, 5, 2}, -26, 78, 0}, {triangle(1, 2, 3), []int64{-7, 5, -3}, 28, 84, 0},
		{triangle(2, 2, 1), []int64{-9, 7, -5}, -39, 116, 3}, {triangle(2, 2, 1), []int64{-8, 9, -2}, 38, 113, 3},
	}
	for _, c := range cases {
		name, n := fmt.Sprintf("a cycle of %v", c.n.Pipes), withCycles(c.n)
		residual, code := impl.ResidualOf(c.n, c.flows, 1)
		wantNumber(t, "ResidualOf "+name, residual, code, c.residual, impl.ErrNone)
		bound, code := impl.ResidualBound(c.n, c.flows, 1)
		wantNumber(t, "ResidualBound of "+name, bound, code, c.bound, impl.ErrNone)
		p := withLevels(n, c.flows, 50)
		wantChecked(t, name, n, suppliesByDefinition(c.n, c.flows), p, c.want)
		wantNumber(t, name, 0, errorsByDefinition(c.n, p)[1], 0, -c.residual)
	}
}

// TestBoundsOfSeveralChords has one chord among others that is not within its bound.
func TestBoundsOfSeveralChords(t *testing.T) {
	for i := range 4 {
		for k, want := range map[int64]int64{4: 3, 5: 0} {
			list, flows := repeated(5, 1), repeated(5, 2)
			list[1+i], flows[1+i] = k, 0
			n := withCycles(resistant(pipe(0, 1), list...))
			wantChecked(t, fmt.Sprintf("the chord %d", 1+i), n, []int64{8, -8}, withLevels(n, flows, 0), want)
			turned := withCycles(resistant(pipe(1, 0), list...))
			wantChecked(t, fmt.Sprintf("the chord %d", 1+i), turned, []int64{-8, 8}, withLevels(turned, flows, 0), want)
		}
	}
	// The sum of the residuals is 0, and that of the bounds great.
	n := withCycles(resistant(pipe(0, 1), 1, 1, 1))
	wantChecked(t, "three pipes", n, []int64{20, -20}, withLevels(n, []int64{7, 1, 12}, 0), 3)
}

func TestProofsThatBreakSeveralConditions(t *testing.T) {
	n, supplies := withCycles(triangle(1, 1, 1)), []int64{30, 0, -30}
	cases := []struct {
		name string
		p    impl.Proof
		want int64
	}{
		{"none", impl.Proof{Flows: []int64{12, 12, 18}, Levels: []int64{1000, 856, 676}}, 0},
		{"the flows", impl.Proof{Flows: []int64{13, 13, 18}, Levels: []int64{1000, 831, 676}}, 1},
		{"the levels", impl.Proof{Flows: []int64{12, 12, 18}, Levels: []int64{1000, 831, 676}}, 2},
		{"the bounds", impl.Proof{Flows: []int64{10, 10, 20}, Levels: []int64{1000, 900, 600}}, 3},
		{"flows and levels", impl.Proof{Flows: []int64{13, 12, 18}, Levels: []int64{1000, 856, 676}}, 1},
		{"flows and bounds", impl.Proof{Flows: []int64{10, 11, 20}, Levels: []int64{1000, 900, 600}}, 1},
		{"levels and bounds", impl.Proof{Flows: []int64{10, 10, 20}, Levels: []int64{1000, 856, 676}}, 2},
		{"levels and bounds", impl.Proof{Flows: []int64{10, 10, 20}, Levels: []int64{1000, 900}}, 2},
		{"levels and bounds", impl.Proof{Flows: []int64{10, 10, 20}}, 2},
		{"all", impl.Proof{Flows: []int64{0, 30, 0}, Levels: []int64{1000, 900, 600}}, 1},
		{"all", impl.Proof{Flows: []int64{10, 10}, Levels: []int64{1000, 900}}, 1},
		{"all", impl.Proof{Flows: []int64{10, 10, 20, 0}, Levels: []int64{1000, 900, 600, 0}}, 1},
		{"all", impl.Proof{}, 1}, {"all", impl.Proof{Levels: []int64{1000, 856, 676}}, 1},
	}
	for _, c := range cases {
		wantChecked(t, "a triangle that breaks "+c.name, n, supplies, c.p, c.want)
	}
}

// joinedSources has two sources that feed more through the node 0 than one pipe takes.
func joinedSources() impl.Network {
	n := networkOf(5, pipe(0, 1), pipe(0, 2), pipe(2, 1), pipe(3, 0), pipe(4, 0))
	return withResistances(n, 1, impl.MaxResistance, 1, 1, 1)
}

// TestProofsOfFlowsAtTheirLimits has flows that cannot be relaxed more, but whose residuals are great.
func TestProofsOfFlowsAtTheirLimits(t *testing.T) {
	const most = impl.MaxFlow
	cases := []struct {
		name     string
		n        impl.Network
		supplies []int64
		flows    []int64
		want     int64
	}{
		{"sources", joinedSources(), []int64{0, -25000, -20000, 25000, 20000}, []int64{most, 15000, -5000, 25000, 20000}, 3},
		{"sources", joinedSources(), []int64{0, 25000, 20000, -25000, -20000}, []int64{-most, -15000, 5000, -25000, -20000}, 3},
		{"sources", joinedSources(), []int64{0, -1000, -28000, 9000, 20000}, []int64{27780, 1220, -26780, 9000, 20000}, 0},
		{"a light pipe", resistant(pipe(0, 1), impl.MaxResistance, 1), []int64{most, -most}, []int64{920, 29080}, 0},
		{"a pipe and two", withResistances(networkOf(3, pipe(0, 1), pipe(1, 2), pipe(1, 2)), 1, 1, 1), []int64{most, 0, -most}, []int64{most, 15000, 15000}, 0},
		{"a pipe and two", withResistances(networkOf(3, pipe(1, 0), pipe(1, 2), pipe(2, 1)), 1, 1, 1), []int64{most, 0, -most}, []int64{-most, 15000, -15000}, 0},
	}
	for _, c := range cases {
		n := withCycles(c.n)
		p := wantMade(t, c.name, c.n, c.supplies, 0, withLevels(n, c.flows, 0), impl.ErrNone)
		wantChecked(t, c.name, n, c.supplies, p, c.want)
		wantRelaxed(t, " of "+c.name, c.n, p.Flows, true)
		wantErrors(t, c.name, c.n, p, errorsByDefinition(c.n, p))
	}
	wantMade(t, "uneven supplies", lineOfThree(), []int64{most, 1, -most}, 0, impl.Proof{}, impl.ErrState)
	line := networkOf(4, pipe(0, 1), pipe(1, 2), pipe(2, 3))
	wantMade(t, "too much for a pipe", line, []int64{20000, 10001, -1, -most}, 0, impl.Proof{}, impl.ErrRange)
	wantMade(t, "enough for a pipe", line, []int64{20000, 10000, 0, -most}, 0, withLevels(withCycles(line), []int64{20000, most, most}, 0), impl.ErrNone)
}

// TestProofsOfAllMoves has loops that are not relaxed when all moves have been made, and some for
// which these are just enough.
func TestProofsOfAllMoves(t *testing.T) {
	const most = impl.MaxSupply
	c := withCycles(slowNetwork())
	cases := []struct {
		supplies, flows []int64
		isUsedUp        bool
		want            int64
	}{
		{[]int64{8000, 0, -8000}, []int64{4000, -2828, 1172, 4000}, false, 0},
		{[]int64{20000, 0, -20000}, []int64{10001, -5527, 4472, 9999}, false, 0},
		{[]int64{16384, 0, -16384}, []int64{8193, -4434, 3757, 8191}, true, 3},
		{[]int64{18348, 0, -18348}, []int64{9175, -4890, 4283, 9173}, true, 0},
		{[]int64{28880, 0, -28880}, []int64{14441, -7599, 6840, 14439}, true, 0},
		{[]int64{most, 0, -most}, []int64{15002, -7986, 7012, 14998}, true, 3},
		{[]int64{-most, 0, most}, []int64{-15002, 7986, -7012, -14998}, true, 3},
	}
	for _, x := range cases {
		p := wantMade(t, "a slow network", c.Network, x.supplies, 0, withLevels(c, x.flows, 0), impl.ErrNone)
		moves, code := impl.MovesNeeded(c.Network, x.supplies)
		if code != impl.ErrNone || (moves == impl.MaxMoves) != x.isUsedUp {
			t.Errorf("%v takes %d moves", x.supplies, moves)
		}
		wantChecked(t, "a slow network", c, x.supplies, p, x.want)
	}
	// A relaxed list that takes more moves has the same supplies, and is accepted.
	flows, supplies := []int64{15002, -7986, 7012, 14998}, []int64{most, 0, -most}
	for range 20 {
		flows, _, _ = impl.RelaxFlows(c.Network, flows, 1)
	}
	wantRelaxed(t, " of a slow network", c.Network, flows, true)
	wantChecked(t, "a slow network", c, supplies, withLevels(c, flows, 0), 0)
}

func TestErrorsOfPipes(t *testing.T) {
	const most, top = impl.MaxFlow, impl.MaxSquare
	line, against := lineOfThree(), resistant(pipe(1, 0), 1, 2)
	cases := []struct {
		name   string
		n      impl.Network
		p      impl.Proof
		errors []int64
	}{
		{"a triangle", triangle(1, 1, 1), impl.Proof{Flows: []int64{12, 12, 18}, Levels: []int64{1000, 856, 676}}, []int64{0, 36, 0}},
		{"a triangle", triangle(1, 1, 1), impl.Proof{Flows: []int64{10, 10, 20}, Levels: []int64{1000, 900, 600}}, []int64{0, 200, 0}},
		{"a triangle", triangle(1, 1, 1), impl.Proof{Flows: []int64{20, 20, 10}, Levels: []int64{0, -400, -100}}, []int64{0, -700, 0}},
		{"a triangle", triangle(1, 1, 1), impl.Proof{Flows: []int64{0, 0, 0}, Levels: []int64{5, 3, 10}}, []int64{2, -7, -5}},
		{"a triangle", triangle(1, 2, 3), impl.Proof{Flows: []int64{-1, 2, -3}, Levels: []int64{0, 0, 0}}, []int64{1, -8, 27}},
		{"a line", line, impl.Proof{Flows: []int64{7, 2}, Levels: []int64{1000, 902, 914}}, []int64{0, 0}},
		{"a line", line, impl.Proof{Flows: []int64{7, 2}, Levels: []int64{914, 902, 1000}}, []int64{-86, 86}},
		{"against one another", against, impl.Proof{Flows: []int64{3, -3}, Levels: []int64{9, 0}}, []int64{-18, 9}},
		{"one node", networkOf(1), impl.Proof{Levels: []int64{-top}}, nil}, {"one node", networkOf(1), impl.Proof{Levels: []int64{top}}, nil},
		{"nodes apart", networkOf(3), impl.Proof{Flows: []int64{}, Levels: []int64{1, 2, 3}}, nil},
		{"two pairs", twoPairs(), impl.Proof{Flows: []int64{1, 2, 3, -4}, Levels: []int64{9, 5, -6, 7}}, []int64{3, 0, -22, 29}},
		{"one pipe", networkOf(2, pipe(0, 1)), impl.Proof{Flows: []int64{most}, Levels: []int64{-top, top}}, []int64{-2*top - most*most}},
		{"one pipe", networkOf(2, pipe(1, 0)), impl.Proof{Flows: []int64{-most}, Levels: []int64{-top, top}}, []int64{2*top + most*most}},
		{"one pipe", resistant(pipe(0, 1), impl.MaxResistance), impl.Proof{Flows: []int64{-most}, Levels: []int64{top, -top}}, []int64{2*top + mostDrop}},
		{"one pipe", resistant(pipe(0, 1), impl.MaxResistance), impl.Proof{Flows: []int64{most}, Levels: []int64{0, 0}}, []int64{-mostDrop}},
	}
	for _, c := range cases {
		wantErrors(t, c.name, c.n, c.p, c.errors)
		if got := errorsByDefinition(c.n, c.p); !slices.Equal(got, c.errors) {
			t.Errorf("the definition has the errors %v for %s with %v", got, c.name, c.p)
		}
	}
}

// TestErrorsOfPipesByDefinition takes networks of all kinds, connected or not, and any numbers.
func TestErrorsOfPipesByDefinition(t *testing.T) {
	r := rand.New(rand.NewSource(83))
	for _, n := range networksWithDrops() {
		for range 3 {
			p := impl.Proof{Flows: someFlows(r, len(n.Pipes)), Levels: []int64{}}
			for range n.Nodes {
				p.Levels = append(p.Levels, []int64{0, 2 * someLevel(r), r.Int63n(2000000) - 1000000}[r.Intn(3)])
			}
			wantErrors(t, "a network", n, p, errorsByDefinition(n, p))
		}
	}
}

func TestTextsOfProofs(t *testing.T) {
	const top = "1000000000000000000"
	named := withResistances(networkOf(3, pipe(2, 0), pipe(1, 2), pipe(0, 2)), 1, 1, 1)
	for i, name := range []string{"abcdefgh", "0", "x9"} {
		named.Nodes[i].Name = name
	}
	cases := []struct {
		name string
		n    impl.Network
		p    impl.Proof
		want string
	}{
		{"a triangle", triangle(1, 1, 1), impl.Proof{Flows: []int64{12, 12, 18}, Levels: []int64{1000, 856, 676}},
			"n0=1000\nn1=856\nn2=676\nn0>n1=12\nn1>n2=12\nn0>n2=18\n"},
		{"a triangle", triangle(1, 1, 1), impl.Proof{Flows: []int64{-12, 0, -1}, Levels: []int64{-1000, 0, 7}},
			"n0=-1000\nn1=0\nn2=7\nn0>n1=-12\nn1>n2=0\nn0>n2=-1\n"},
		{"names", named, impl.Proof{Flows: []int64{1, -30000, 30000}, Levels: []int64{-impl.MaxSquare, impl.MaxSquare, -9}},
			"abcdefgh=-" + top + "\n0=" + top + "\nx9=-9\nx9>abcdefgh=1\n0>x9=-30000\nabcdefgh>x9=30000\n"},
		{"one node", networkOf(1), impl.Proof{Levels: []int64{0}}, "n0=0\n"},
		{"two nodes", networkOf(2), impl.Proof{Flows: []int64{}, Levels: []int64{-5, 5}}, "n0=-5\nn1=5\n"},
		{"two pairs", twoPairs(), impl.Proof{Flows: []int64{1, 2, 3, -4}, Levels: []int64{9, 5, -6, 7}},
			"n0=9\nn1=5\nn2=-6\nn3=7\nn0>n1=1\nn0>n1=2\nn2>n3=3\nn3>n2=-4\n"},
	}
	for _, c := range cases {
		wantText(t, "ProofText of "+c.name, impl.ProofText(c.n, c.p), c.want)
	}
	large := impl.ProofText(largestNetwork(), impl.Proof{Flows: repeated(impl.MaxPipes, -1), Levels: repeated(impl.MaxNodes, -2)})
	if !strings.HasPrefix(large, "n0=-2\n") || !strings.HasSuffix(large, "\nn15>n16=-1\n") || strings.Count(large, "\n") != impl.MaxNodes+impl.MaxPipes {
		t.Errorf("ProofText returned %q", large)
	}
}

func TestProofsWithTheSameFlows(t *testing.T) {
	lists := [][]int64{
		{}, {0}, {0, 0}, {1}, {-1}, {1, 2, 3}, {1, 2}, {1, 2, 4}, {3, 2, 1}, {2, 2, 3}, {1, 2, 3, 0}, {math.MinInt64}, {math.MaxInt64},
		repeated(100000, 5),
	}
	for i, a := range lists {
		for k, b := range lists {
			for _, levels := range [][]int64{nil, {}, {1}, {1, 2, 3}} {
				p, q := impl.Proof{Flows: a, Levels: []int64{1, 2, 3}}, impl.Proof{Flows: slices.Clone(b), Levels: levels}
				if impl.SameFlows(p, q) != (i == k) || impl.SameFlows(q, p) != (i == k) {
					t.Errorf("SameFlows of the lists %d and %d is wrong", i, k)
				}
			}
		}
	}
	for _, p := range []impl.Proof{{}, {Levels: []int64{7}}, {Flows: []int64{}}, {Flows: []int64{}, Levels: []int64{8}}} {
		if !impl.SameFlows(p, impl.Proof{}) || !impl.SameFlows(impl.Proof{Flows: []int64{}}, p) || impl.SameFlows(p, impl.Proof{Flows: []int64{0}}) {
			t.Errorf("SameFlows of %v is wrong", p)
		}
	}
	// What lies behind the lists does not count.
	list := []int64{1, 2, 3, 4}
	if !impl.SameFlows(impl.Proof{Flows: list[:2]}, impl.Proof{Flows: []int64{1, 2}}) || impl.SameFlows(impl.Proof{Flows: list[:2]}, impl.Proof{Flows: list}) {
		t.Error("SameFlows of the beginning of a list is wrong")
	}
}

// levelsOfFour are levels of networks with four nodes, and behind them lists that are none.
var levelsOfFour = [][]int64{
	{0, 0, 0, 0}, {1000, -900, 7, 0}, {impl.MaxSquare, -impl.MaxSquare, impl.MaxSquare, -impl.MaxSquare},
	{0, 0, 0}, {0, 0, 0, 0, 0}, nil, {impl.MaxSquare + 1, 0, 0, 0}, {0, 0, 0, -impl.MaxSquare - 1}, {0, math.MinInt64, math.MaxInt64, 0},
}

// TestErrorsOfProofsInOrder takes all combinations of arguments that are right and wrong.
func TestErrorsOfProofsInOrder(t *testing.T) {
	for name, n := range networksOfFour() {
		invalid, apart := failure{name == "invalid", impl.ErrInvalid}, failure{name == "apart", impl.ErrState}
		for k, supplies := range suppliesOfFour {
			limit := failure{k > 9, impl.ErrLimit}
			for i, level := range append([]int64{0, mostLevel, -mostLevel}, noLevels...) {
				_, solved := impl.ForestFlows(n, supplies)
				want := firstFailure(invalid, limit, apart, failure{i > 2, impl.ErrRange}, failure{true, solved})
				p, code := impl.MakeProof(n, supplies, level)
				wantCode(t, "MakeProof", append(slices.Clone(p.Flows), p.Levels...), code, want)
			}
			for _, flows := range flowsOfFour(len(n.Pipes)) {
				for _, levels := range levelsOfFour {
					p := impl.Proof{Flows: flows, Levels: levels}
					condition, code := impl.CheckProof(n, supplies, p)
					want := firstFailure(invalid, limit, apart)
					wantCode(t, "CheckProof", withoutZero(condition), code, want)
					if want == impl.ErrNone {
						wantChecked(t, name, withCycles(n), supplies, p, conditionByDefinition(withCycles(n), supplies, p))
					}
				}
			}
		}
		// A network that is not connected has errors of pipes and a text.
		for i, flows := range flowsOfFour(len(n.Pipes)) {
			for k, levels := range levelsOfFour {
				p := impl.Proof{Flows: flows, Levels: levels}
				want := firstFailure(invalid, failure{i > 2 || k > 2, impl.ErrLimit})
				if want == impl.ErrNone {
					wantErrors(t, name, n, p, errorsByDefinition(n, p))
				} else {
					wantNoErrors(t, name, n, p, want)
				}
			}
		}
	}
}

// wantNoProof checks a network and supplies for which no proof is made or checked.
func wantNoProof(t *testing.T, n impl.Network, supplies []int64, want int64) {
	t.Helper()
	for _, level := range []int64{0, mostLevel, mostLevel + 1, math.MinInt64} {
		wantMade(t, "a network", n, supplies, level, impl.Proof{}, want)
	}
	for _, x := range []int64{0, 1, math.MaxInt64} {
		for _, length := range []int{0, len(n.Nodes), len(n.Pipes)} {
			p := impl.Proof{Flows: repeated(len(n.Pipes), x), Levels: repeated(length, x)}
			got, code := impl.CheckProof(n, supplies, p)
			wantNumber(t, "CheckProof", got, code, 0, want)
		}
	}
}

func TestListsWithoutProofs(t *testing.T) {
	for _, n := range []impl.Network{networkOf(1), networkOf(3), networkOf(2, pipe(0, 1)), mixedNetwork(), twoRings(), largestNetwork()} {
		nodes, pipes := len(n.Nodes), len(n.Pipes)
		for _, length := range []int{0, 1, nodes - 1, nodes, nodes + 1, pipes - 1, pipes, pipes + 1, impl.MaxPipes + 1, 100000} {
			for _, x := range []int64{0, impl.MaxFlow + 1} {
				if length >= 0 && length != nodes {
					wantNoProof(t, n, repeated(length, x), impl.ErrLimit)
					wantNoErrors(t, "other levels", n, impl.Proof{Flows: make([]int64, pipes), Levels: repeated(length, x)}, impl.ErrLimit)
				}
				if length >= 0 && length != pipes {
					wantNoErrors(t, "other flows", n, impl.Proof{Flows: repeated(length, x), Levels: make([]int64, nodes)}, impl.ErrLimit)
				}
			}
		}
		for _, x := range noFlows {
			for i := range pipes {
				flows := slices.Insert(make([]int64, pipes-1), i, x)
				wantNoErrors(t, "a flow "+strconv.FormatInt(x, 10), n, impl.Proof{Flows: flows, Levels: make([]int64, nodes)}, impl.ErrLimit)
			}
			for i := range nodes {
				wantNoProof(t, n, slices.Insert(make([]int64, nodes-1), i, x), impl.ErrLimit)
			}
		}
		for _, x := range []int64{-impl.MaxSquare - 1, impl.MaxSquare + 1, math.MinInt64, math.MaxInt64} {
			for i := range nodes {
				levels := slices.Insert(make([]int64, nodes-1), i, x)
				wantNoErrors(t, "a level "+strconv.FormatInt(x, 10), n, impl.Proof{Flows: make([]int64, pipes), Levels: levels}, impl.ErrLimit)
			}
		}
	}
}

func TestNoProofsOfNetworksApart(t *testing.T) {
	for _, n := range []impl.Network{networkOf(2), networkOf(impl.MaxNodes), mixedNetwork(), twoPairs(), networkOf(4, pipe(0, 1), pipe(3, 2))} {
		flat := make([]int64, len(n.Nodes))
		wantNoProof(t, n, flat, impl.ErrState)
		wantErrors(t, "a network apart", n, impl.Proof{Flows: make([]int64, len(n.Pipes)), Levels: flat}, make([]int64, len(n.Pipes)))
		wantNoProof(t, n, repeated(len(n.Nodes), 1), impl.ErrState)
	}
}

func TestNoProofsOfInvalidNetworks(t *testing.T) {
	wrong := append(invalidNetworks(mixedNetwork()), invalidNetworks(networkOf(4, pipe(0, 1), pipe(2, 1), pipe(3, 0)))...)
	for _, n := range append(wrong, invalidNetworks(largestNetwork())...) {
		for _, length := range []int{0, 1, len(n.Nodes), len(n.Pipes), len(n.Pipes) + 1} {
			for _, x := range []int64{0, impl.MaxFlow + 1, math.MinInt64} {
				wantNoProof(t, n, repeated(length, x), impl.ErrInvalid)
				wantNoErrors(t, "an invalid network", n, impl.Proof{Flows: repeated(len(n.Pipes), x), Levels: repeated(length, x)}, impl.ErrInvalid)
			}
		}
	}
}

// resultsOfProofs are all results of chapter 12, each as a list of lists; the pipe is one of the
// network.
func resultsOfProofs(n impl.Network, supplies []int64, p impl.Proof, pipe int64) map[string]func() ([][]int64, int64) {
	number := func(x, code int64) ([][]int64, int64) { return [][]int64{{x}}, code }
	return map[string]func() ([][]int64, int64){
		"MakeProof": func() ([][]int64, int64) {
			made, code := impl.MakeProof(n, supplies, 1000)
			return [][]int64{made.Flows, made.Levels}, code
		},
		"CheckProof": func() ([][]int64, int64) { return number(impl.CheckProof(n, supplies, p)) },
		"PipeError":  func() ([][]int64, int64) { return number(impl.PipeError(n, p, pipe)) },
		"ProofError": func() ([][]int64, int64) { return number(impl.ProofError(n, p)) },
		"ProofText":  func() ([][]int64, int64) { return number(int64(len(impl.ProofText(n, p))), impl.ErrNone) },
		"SameFlows": func() ([][]int64, int64) {
			impl.SameFlows(p, impl.Proof{Flows: slices.Clone(p.Flows)})
			return [][]int64{nil}, impl.ErrNone
		},
	}
}

func TestProofsLeaveArgumentsAlone(t *testing.T) {
	for _, base := range []impl.Network{networkOf(2, pipe(0, 1), pipe(1, 0)), lineOfThree(), ringOfFour(), largestNetwork()} {
		n, memory := withMemory(base)
		flows := repeated(len(n.Pipes)+2, 6)
		supplies := append(suppliesByDefinition(n, flows[:len(n.Pipes)]), 60, 60)
		levels := append(withLevels(withCycles(base), flows[:len(n.Pipes)], 1000).Levels, 60, 60)
		p := impl.Proof{Flows: flows[:len(n.Pipes)], Levels: levels[:len(n.Nodes)]}
		wantLeftAlone(t, memory, [][]int64{flows, supplies, levels}, resultsOfProofs(n, supplies[:len(n.Nodes)], p, 0))
		// A proof that is not accepted is left alone as well.
		levels[1]++
		supplies[0]++
		results := resultsOfProofs(n, supplies[:len(n.Nodes)], p, 0)
		delete(results, "MakeProof")
		wantLeftAlone(t, memory, [][]int64{flows, supplies, levels}, results)
	}
}

func TestListsOfProofsAreNewMemory(t *testing.T) {
	n, supplies := triangle(1, 1, 1), []int64{30, 0, -30}
	p := impl.Proof{Flows: []int64{12, 12, 18}, Levels: []int64{1000, 856, 676}}
	wantNewMemory(t, resultsOfProofs(n, supplies, p, 1))
	made, code := impl.MakeProof(n, supplies, 1000)
	supplies[0], n.Pipes[0].K = 7, 9
	wantList(t, "MakeProof", made.Flows, code, p.Flows, impl.ErrNone)
	wantList(t, "MakeProof", made.Levels, code, p.Levels, impl.ErrNone)
	// With as many pipes as nodes, and all flows and levels at 0, the two lists of a proof are equal.
	made, code = impl.MakeProof(n, []int64{0, 0, 0}, 0)
	made.Flows[0] = 5
	wantList(t, "the levels beside it", made.Levels, code, []int64{0, 0, 0}, impl.ErrNone)
}
