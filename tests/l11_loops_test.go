package tests

import (
	"fmt"
	"math"
	"math/rand"
	"slices"
	"testing"

	"loop.example/g00852/impl"
)

// steps are all powers of two in 1..MaxStep.
var steps = []int64{1, 2, 4, 8, 16, 32, 64, 128, 256, 512, 1024, 2048, 4096, 8192, 16384, 32768}

// noSteps are numbers that are no steps: some of them are powers of two, or have one bit alone.
var noSteps = []int64{
	0, -1, -2, -16384, -32768, 3, 5, 6, 7, 9, 24, 100, 1023, 1025, 16383, 16385, 24576, 30000, 32767, 32769, 49152, 65536, 1 << 32,
	1 << 62, -1 << 32, math.MinInt64, math.MinInt64 + 1, math.MaxInt64,
}

// movedByDefinition returns the flows after a move, or nil if none is possible.
func movedByDefinition(n impl.Network, flows, cycle []int64, step int64) []int64 {
	if canBeImproved(n, flows, cycle, step) {
		return plusCycle(flows, cycle, step)
	}
	if canBeImproved(n, flows, cycle, -step) {
		return plusCycle(flows, cycle, -step)
	}
	return nil
}

// relaxedByDefinition goes on to the last step even if all moves have been made.
func relaxedByDefinition(c cycledNetwork, flows []int64, step int64) ([]int64, int64) {
	flows, left := slices.Clone(flows), impl.MaxMoves
	for ; step > 0; step /= 2 {
		for isMoved := true; isMoved; {
			isMoved = false
			for _, cycle := range c.basis {
				if next := movedByDefinition(c.Network, flows, cycle, step); next != nil && left > 0 {
					flows, isMoved = next, true
					left--
				}
			}
		}
	}
	return flows, int64(impl.MaxMoves - left)
}

// bestByTrial tries all numbers of times for which a cycle can be added, the one that is preferred
// first.
func bestByTrial(n impl.Network, flows, cycle []int64) []int64 {
	best := flows
	for size := int64(1); size <= 2*impl.MaxFlow; size++ {
		for _, times := range []int64{size, -size} {
			after := plusCycle(flows, cycle, times)
			if areInRange(after) && energyByDefinition(n, after) < energyByDefinition(n, best) {
				best = after
			}
		}
	}
	return best
}

// smallSupplies returns even supplies that can be met by small flows.
func smallSupplies(r *rand.Rand, n impl.Network) []int64 {
	supplies := suppliesByDefinition(n, smallFlows(r, len(n.Pipes)))
	if !areInRange(supplies) || !areInRange(forestFlowsByDefinition(n, supplies)) {
		return make([]int64, len(n.Nodes))
	}
	return supplies
}

func wantRelaxing(t *testing.T, name string, n impl.Network, flows []int64, step int64, want []int64, wantMoves int64) {
	t.Helper()
	name = fmt.Sprintf("RelaxFlows of %s with %v from %d", name, flows, step)
	got, moves, code := impl.RelaxFlows(n, flows, step)
	wantList(t, name, got, code, want, impl.ErrNone)
	wantNumber(t, name, moves, code, wantMoves, impl.ErrNone)
}

// wantPromise12 checks flows and the number of moves that have led to them.
func wantPromise12(t *testing.T, n impl.Network, flows []int64, moves int64, supplies []int64) {
	t.Helper()
	wantBalanced(t, n, flows, supplies, true)
	if moves < 0 || moves > impl.MaxMoves || moves < impl.MaxMoves && !impl.IsRelaxed(n, flows) {
		t.Errorf("after %d moves %v has the flows %v, which are not relaxed", moves, n, flows)
	}
}

// twoPairs has two components, each with two parallel pipes of the resistance 1; those of the second
// one lead against one another.
func twoPairs() impl.Network {
	return withResistances(networkOf(4, pipe(0, 1), pipe(0, 1), pipe(2, 3), pipe(3, 2)), 1, 1, 1, 1)
}

// slowNetwork has two light chords, which change the flows of two heavy pipes by each move.
func slowNetwork() impl.Network {
	return withResistances(networkOf(3, pipe(0, 2), pipe(2, 1), pipe(1, 2), pipe(0, 1)), 1000, 1, 1, 1000)
}

func TestLimitsOfLoops(t *testing.T) {
	if impl.MaxStep != 32768 || impl.MaxMoves != 5000 {
		t.Errorf("the limits are %d and %d", impl.MaxStep, impl.MaxMoves)
	}
}

func TestRelaxSomeFlows(t *testing.T) {
	even := func(size int) impl.Network { return resistant(pipe(0, 1), repeated(size, 1)...) }
	pairs, against := twoPairs(), withResistances(networkOf(2, pipe(0, 1), pipe(1, 0)), 1, 1)
	cases := []struct {
		name  string
		n     impl.Network
		flows []int64
		step  int64
		want  []int64
		moves int64
	}{
		{"a triangle", triangle(1, 1, 1), []int64{10, 10, 20}, 1, []int64{12, 12, 18}, 2},
		{"a triangle", triangle(1, 1, 1), []int64{14, 14, 16}, 1, []int64{12, 12, 18}, 2},
		{"a triangle", triangle(1, 1, 1), []int64{12, 12, 18}, 1, []int64{12, 12, 18}, 0},
		{"a triangle", triangle(1, 1, 1), []int64{11, 11, 19}, 1, []int64{12, 12, 18}, 1},
		{"a triangle", triangle(1, 1, 1), []int64{-10, -10, -20}, 1, []int64{-12, -12, -18}, 2},
		{"a triangle", triangle(1, 1, 1), []int64{0, 0, 0}, 1, []int64{0, 0, 0}, 0},
		{"a triangle", triangle(1, 1, 1), []int64{0, 0, 30}, 1, []int64{12, 12, 18}, 12},
		{"a triangle", triangle(1, 1, 1), []int64{0, 0, 30}, 2, []int64{12, 12, 18}, 6},
		{"a triangle", triangle(1, 1, 1), []int64{0, 0, 30}, 4, []int64{12, 12, 18}, 3},
		// It goes to 8, to 16, and back to 12.
		{"a triangle", triangle(1, 1, 1), []int64{0, 0, 30}, 8, []int64{12, 12, 18}, 3},
		{"a triangle", triangle(1, 1, 1), []int64{0, 0, 30}, 16, []int64{12, 12, 18}, 2},
		{"a triangle", triangle(1, 1, 1), []int64{0, 0, 30}, 32, []int64{12, 12, 18}, 2},
		{"a triangle", triangle(1, 1, 1), []int64{0, 0, 30}, 32768, []int64{12, 12, 18}, 2},
		// Adding or subtracting leaves the energy as it is, which is no move.
		{"two pipes", even(2), []int64{1, 0}, 1, []int64{1, 0}, 0}, {"two pipes", even(2), []int64{0, 1}, 1, []int64{0, 1}, 0},
		{"two pipes", even(2), []int64{-8, -7}, 1, []int64{-8, -7}, 0}, {"two pipes", even(2), []int64{2, 0}, 1, []int64{1, 1}, 1},
		// The first pass has no move, and the one with the next smaller step has.
		{"two pipes", even(2), []int64{2, 0}, 2, []int64{1, 1}, 1}, {"two pipes", even(2), []int64{0, 2}, 2, []int64{1, 1}, 1},
		{"two pipes", even(2), []int64{2, 0}, 32768, []int64{1, 1}, 1}, {"two pipes", even(2), []int64{3, 0}, 4, []int64{1, 2}, 1},
		{"two pipes", even(2), []int64{3, 0}, 1, []int64{2, 1}, 1}, {"two pipes", even(2), []int64{0, 3}, 2, []int64{2, 1}, 1},
		{"two pipes", even(2), []int64{4, 0}, 2, []int64{2, 2}, 1}, {"two pipes", even(2), []int64{5, 0}, 2, []int64{3, 2}, 1},
		{"two pipes", even(2), []int64{7, 0}, 4, []int64{3, 4}, 1}, {"two pipes", even(2), []int64{6, 0}, 4, []int64{3, 3}, 2},
		{"against one another", against, []int64{4, 4}, 1, []int64{0, 0}, 4}, {"against one another", against, []int64{-4, -4}, 2, []int64{0, 0}, 2},
		{"against one another", against, []int64{6, 3}, 4, []int64{2, -1}, 1},
		// The first chord comes first, and each one has one move in a pass.
		{"three pipes", even(3), []int64{2, 0, 0}, 1, []int64{1, 1, 0}, 1}, {"three pipes", even(3), []int64{-2, 0, 0}, 1, []int64{-1, -1, 0}, 1},
		{"three pipes", even(3), []int64{3, 0, 0}, 1, []int64{1, 1, 1}, 2}, {"three pipes", even(3), []int64{6, 0, 0}, 1, []int64{2, 2, 2}, 4},
		{"three pipes", even(3), []int64{7, 0, 0}, 1, []int64{3, 2, 2}, 4}, {"three pipes", even(3), []int64{8, 0, 0}, 1, []int64{3, 3, 2}, 5},
		{"three pipes", even(3), []int64{4, 0, 0}, 2, []int64{1, 2, 1}, 2},
		// The first chord has no move until the second one has had its own.
		{"three pipes", even(3), []int64{3, 4, 0}, 1, []int64{2, 3, 2}, 3}, {"three pipes", even(3), []int64{4, 4, 0}, 2, []int64{3, 3, 2}, 2},
		{"three pipes", even(3), []int64{-3, -4, 0}, 1, []int64{-2, -3, -2}, 3},
		{"four pipes", even(4), []int64{4, 0, 0, 0}, 1, []int64{1, 1, 1, 1}, 3}, {"four pipes", even(4), []int64{9, 0, 0, 0}, 4, []int64{3, 2, 2, 2}, 5},
		{"two pairs", pairs, []int64{4, 0, 3, 3}, 1, []int64{2, 2, 0, 0}, 5}, {"two pairs", pairs, []int64{1, 0, 5, -4}, 1, []int64{1, 0, 5, -4}, 0},
		{"two pairs", pairs, []int64{1, 2, 7, -3}, 1, []int64{1, 2, 5, -5}, 2}, {"two pairs", pairs, []int64{8, 0, 0, -8}, 4, []int64{4, 4, 4, -4}, 2},
	}
	for _, c := range cases {
		wantRelaxing(t, c.name, c.n, c.flows, c.step, c.want, c.moves)
		got, moves := relaxedByDefinition(withCycles(c.n), c.flows, c.step)
		if !slices.Equal(got, c.want) || moves != c.moves {
			t.Errorf("the definition has %v and %d for %s with %v from %d", got, moves, c.name, c.flows, c.step)
		}
	}
}

func TestNetworksWithoutChordsHaveNoMoves(t *testing.T) {
	r := rand.New(rand.NewSource(71))
	for _, n := range append(treesWithDrops(), networkOf(1), networkOf(3), networkOf(5, pipe(4, 2), pipe(1, 0)), steepPath()) {
		flows := someFlows(r, len(n.Pipes))
		for _, step := range []int64{1, 16, impl.MaxStep} {
			wantRelaxing(t, "a tree", n, flows, step, flows, 0)
		}
		supplies := smallSupplies(r, n)
		got, code := impl.SolveLoops(n, supplies)
		wantList(t, "SolveLoops of a tree", got, code, forestFlowsByDefinition(n, supplies), impl.ErrNone)
		moves, code := impl.MovesNeeded(n, supplies)
		wantNumber(t, "MovesNeeded of a tree", moves, code, 0, impl.ErrNone)
		worst, code := impl.LoopError(n, flows)
		wantNumber(t, "LoopError of a tree", worst, code, 0, impl.ErrNone)
		for chord := int64(-1); chord <= int64(len(n.Pipes)); chord++ {
			got, code := impl.RelaxChord(n, flows, chord)
			wantList(t, "RelaxChord of a tree", got, code, nil, impl.ErrNotFound)
		}
	}
}

// TestMovesWithinTheLimits has a light pipe to which a heavy one gives as much as is allowed.
func TestMovesWithinTheLimits(t *testing.T) {
	const most = impl.MaxFlow
	cases := []struct{ heavy, light, step, wantHeavy, wantLight, moves int64 }{
		{20000, most, 1, 20000, most, 0}, {20000, most - 1, 1, 19999, most, 1}, {20000, most - 2, 1, 19998, most, 2},
		{20000, most - 1, 2, 19999, most, 1}, {20000, most - 2, 2, 19998, most, 1}, {20000, most - 3, 2, 19997, most, 2},
		{20000, most - 7, 8, 19993, most, 3}, {20000, most - 8, 8, 19992, most, 1}, {20000, most - 9, 8, 19991, most, 2},
		{20000, most, impl.MaxStep, 20000, most, 0}, {20000, most - 1, impl.MaxStep, 19999, most, 1},
		{most, most, 1, most, most, 0}, {most, most - 1, 4, most - 1, most, 1}, {most, most - 4, 4, most - 4, most, 1},
		// By 32768 the light pipe comes up to its limit, or beyond it by one.
		{most, -2768, impl.MaxStep, 835, 26397, 9}, {most, -2767, impl.MaxStep, 835, 26398, 10},
	}
	for _, c := range cases {
		for _, sign := range []int64{1, -1} {
			flows, want := []int64{sign * c.heavy, sign * c.light}, []int64{sign * c.wantHeavy, sign * c.wantLight}
			wantRelaxing(t, "a heavy pipe", resistant(pipe(0, 1), impl.MaxResistance, 1), flows, c.step, want, c.moves)
			// The light pipe is in the forest here, and the chord the heavy one.
			slices.Reverse(flows)
			slices.Reverse(want)
			wantRelaxing(t, "a light pipe", resistant(pipe(0, 1), 1, impl.MaxResistance), flows, c.step, want, c.moves)
			flows[1], want[1] = -flows[1], -want[1]
			n := withResistances(networkOf(2, pipe(0, 1), pipe(1, 0)), 1, impl.MaxResistance)
			wantRelaxing(t, "a turned pipe", n, flows, c.step, want, c.moves)
		}
	}
}

// TestLoopsThatUseUpAllMoves has flow lists that need as many moves as there may be, and one less or
// one more.
func TestLoopsThatUseUpAllMoves(t *testing.T) {
	const most = impl.MaxFlow
	cases := []struct {
		flows     []int64
		step      int64
		want      []int64
		moves     int64
		isRelaxed bool
	}{
		{[]int64{9998, 0}, 1, []int64{4999, 4999}, 4999, true}, {[]int64{9999, 0}, 1, []int64{5000, 4999}, 4999, true},
		{[]int64{10000, 0}, 1, []int64{5000, 5000}, 5000, true}, {[]int64{10001, 0}, 1, []int64{5001, 5000}, 5000, true},
		{[]int64{10002, 0}, 1, []int64{5002, 5000}, 5000, false}, {[]int64{0, 10000}, 1, []int64{5000, 5000}, 5000, true},
		{[]int64{0, 10002}, 1, []int64{5000, 5002}, 5000, false}, {[]int64{-5001, 5001}, 1, []int64{-1, 1}, 5000, false},
		{[]int64{most, -most}, 1, []int64{25000, -25000}, 5000, false}, {[]int64{-most, most}, 1, []int64{-25000, 25000}, 5000, false},
		{[]int64{most, -most}, 2, []int64{20000, -20000}, 5000, false}, {[]int64{most, -most}, 4, []int64{10000, -10000}, 5000, false},
		// When all moves have been made with a step, none is left for the smaller ones.
		{[]int64{20000, 2}, 2, []int64{10001, 10001}, 5000, true}, {[]int64{20000, 0}, 2, []int64{10000, 10000}, 5000, true},
		{[]int64{20002, 0}, 2, []int64{10002, 10000}, 5000, false}, {[]int64{20003, 0}, 2, []int64{10003, 10000}, 5000, false},
		{[]int64{most, -10002}, 4, []int64{10000, 9998}, 5000, false}, {[]int64{most, -9998}, 4, []int64{10000, 10002}, 5000, false},
		// They end in the middle of a pass.
		{[]int64{most, 0, 0}, 1, []int64{25000, 2500, 2500}, 5000, false}, {[]int64{most, 0, 0, 0}, 1, []int64{25000, 1667, 1667, 1666}, 5000, false},
		{[]int64{-most, 0, 0, 0}, 2, []int64{-20000, -3334, -3334, -3332}, 5000, false},
	}
	for _, c := range cases {
		n := resistant(pipe(0, 1), repeated(len(c.flows), 1)...)
		wantRelaxing(t, "parallel pipes", n, c.flows, c.step, c.want, c.moves)
		wantRelaxed(t, " of parallel pipes", n, c.want, c.isRelaxed)
	}
}

// listsWithSteps gives each of some flow lists one of the steps, the least and the greatest more
// often than the others.
func listsWithSteps(r *rand.Rand, size int) ([][]int64, []int64) {
	lists, chosen := listsToRelax(r, size), []int64{}
	for range lists {
		chosen = append(chosen, []int64{1, impl.MaxStep, steps[r.Intn(len(steps))], steps[r.Intn(5)]}[r.Intn(4)])
	}
	return lists, chosen
}

func TestRelaxedFlowsByDefinition(t *testing.T) {
	r := rand.New(rand.NewSource(72))
	none, some, all := 0, 0, 0
	for _, c := range networksWithCycles() {
		lists, chosen := listsWithSteps(r, len(c.Pipes))
		for i, flows := range lists {
			want, moves := relaxedByDefinition(c, flows, chosen[i])
			wantRelaxing(t, "a network", c.Network, flows, chosen[i], want, moves)
			supplies := suppliesByDefinition(c.Network, flows)
			if !slices.Equal(suppliesByDefinition(c.Network, want), supplies) {
				t.Errorf("%v does not balance what %v balances", want, flows)
			}
			wantRelaxed(t, " of a network", c.Network, want, areRelaxedByDefinition(c, want))
			if moves < impl.MaxMoves {
				wantRelaxed(t, " with moves left", c.Network, want, true)
			}
			switch moves {
			case 0:
				none++
			case impl.MaxMoves:
				all++
			default:
				some++
			}
		}
	}
	if none < 400 || some < 300 || all < 50 {
		t.Errorf("only %d, %d and %d lists have been relaxed", none, some, all)
	}
}

// TestNoChordCanMoveBothWays shows that it does not matter whether adding or subtracting is tried
// first: cubes are convex, so that one of both raises the energy.
func TestNoChordCanMoveBothWays(t *testing.T) {
	r := rand.New(rand.NewSource(73))
	added, subtracted := 0, 0
	for _, c := range networksWithCycles() {
		lists, chosen := listsWithSteps(r, len(c.Pipes))
		for i, flows := range lists {
			for _, cycle := range c.basis {
				adds, subtracts := canBeImproved(c.Network, flows, cycle, chosen[i]), canBeImproved(c.Network, flows, cycle, -chosen[i])
				if adds && subtracts {
					t.Errorf("the energy of %v gets less by adding and by subtracting %v", flows, cycle)
				}
				if adds {
					added++
				} else if subtracts {
					subtracted++
				}
			}
		}
	}
	if added < 200 || subtracted < 200 {
		t.Errorf("only %d and %d moves have been tried", added, subtracted)
	}
}

// TestRelaxingAgain relaxes lists that have been relaxed, from all steps.
func TestRelaxingAgain(t *testing.T) {
	r := rand.New(rand.NewSource(74))
	for i, c := range networksWithCycles() {
		flows, moves, code := impl.RelaxFlows(c.Network, smallFlows(r, len(c.Pipes)), steps[i%len(steps)])
		if code != impl.ErrNone || moves == impl.MaxMoves {
			continue
		}
		// By convexity no greater step lowers what the step 1 does not.
		for _, step := range steps {
			wantRelaxing(t, "relaxed flows", c.Network, flows, step, flows, 0)
		}
	}
}

func wantSolved(t *testing.T, name string, n impl.Network, supplies, want []int64, wantMoves, wantCode int64) {
	t.Helper()
	name = fmt.Sprintf(" of %s with %v", name, supplies)
	flows, code := impl.SolveLoops(n, supplies)
	wantList(t, "SolveLoops"+name, flows, code, want, wantCode)
	moves, code := impl.MovesNeeded(n, supplies)
	wantNumber(t, "MovesNeeded"+name, moves, code, wantMoves, wantCode)
	if wantCode == impl.ErrNone {
		wantPromise12(t, n, flows, moves, supplies)
	}
}

func TestSolveSomeLoops(t *testing.T) {
	const most = impl.MaxSupply
	two, three := resistant(pipe(0, 1), 1, 1), resistant(pipe(0, 1), 1, 4, 9)
	cases := []struct {
		name           string
		n              impl.Network
		supplies, want []int64
		moves          int64
	}{
		{"a triangle", triangle(1, 1, 1), []int64{30, 0, -30}, []int64{12, 12, 18}, 2},
		{"a triangle", triangle(1, 1, 1), []int64{-30, 0, 30}, []int64{-12, -12, -18}, 2},
		{"a triangle", triangle(1, 1, 1), []int64{0, 0, 0}, []int64{0, 0, 0}, 0},
		{"a triangle", triangle(1, 1, 1), []int64{most, 0, -most}, []int64{12426, 12426, 17574}, 8},
		{"a triangle", triangle(1, 1, 1), []int64{most, -most, 0}, []int64{17574, -12426, 12426}, 8},
		{"a triangle", triangle(1, 2, 3), []int64{100, -40, -60}, []int64{61, 21, 39}, 5},
		{"two pipes", two, []int64{1, -1}, []int64{1, 0}, 0}, {"two pipes", two, []int64{2, -2}, []int64{1, 1}, 1},
		{"two pipes", two, []int64{most, -most}, []int64{15000, 15000}, 8},
		{"two pipes", resistant(pipe(0, 1), 1000, 1), []int64{most, -most}, []int64{920, 29080}, 7},
		{"three pipes", three, []int64{11, -11}, []int64{6, 3, 2}, 4},
		{"three pipes", three, []int64{most, -most}, []int64{16364, 8182, 5454}, 16},
		{"two pairs", twoPairs(), []int64{9, -9, -4, 4}, []int64{5, 4, -2, 2}, 3},
		{"two pairs", twoPairs(), []int64{0, 0, -4, 4}, []int64{0, 0, -2, 2}, 1},
		{"a ring", ringOfFour(), []int64{30, 0, -30, 0}, []int64{27, 27, -3, -3}, 3},
		{"a ring", ringOfFour(), []int64{10, 20, -15, -15}, []int64{6, 26, 11, -4}, 5},
		{"mixed", mixedNetwork(), []int64{10, 20, -15, -15, 0}, []int64{4, -17, -2, -13, 2, -2, 2}, 6},
		{"two rings", twoRings(), []int64{10, 20, -15, -15, 5, -5, 0}, []int64{9, -8, 4, -6, 7, 3, -5}, 11},
		{"one node", networkOf(1), []int64{0}, nil, 0}, {"nodes without pipes", networkOf(3), []int64{0, 0, 0}, nil, 0},
		{"a tree", networkOf(3, pipe(0, 1), pipe(2, 1)), []int64{7, -9, 2}, []int64{7, 2}, 0},
		// The moves of the two chords undo one another's, and come to an end or not.
		{"a slow network", slowNetwork(), []int64{8000, 0, -8000}, []int64{4000, -2828, 1172, 4000}, 2347},
		{"a slow network", slowNetwork(), []int64{20000, 0, -20000}, []int64{10001, -5527, 4472, 9999}, 4746},
		{"a slow network", slowNetwork(), []int64{16384, 0, -16384}, []int64{8193, -4434, 3757, 8191}, impl.MaxMoves},
		{"a slow network", slowNetwork(), []int64{most, 0, -most}, []int64{15002, -7986, 7012, 14998}, impl.MaxMoves},
		{"a slow network", slowNetwork(), []int64{-most, 0, most}, []int64{-15002, 7986, -7012, -14998}, impl.MaxMoves},
	}
	for _, c := range cases {
		wantSolved(t, c.name, c.n, c.supplies, c.want, c.moves, impl.ErrNone)
		wantRelaxed(t, " of "+c.name, c.n, c.want, c.moves < impl.MaxMoves)
	}
}

func TestSolvedLoopsByDefinition(t *testing.T) {
	r := rand.New(rand.NewSource(75))
	counts := map[int64]int{}
	for i, c := range networksWithCycles() {
		n := c.Network
		if i%3 == 0 {
			n = withResistances(n, repeated(len(n.Pipes), 1)...)
		}
		uneven := smallSupplies(r, n)
		uneven[r.Intn(len(uneven))]++
		for _, supplies := range [][]int64{make([]int64, len(n.Nodes)), smallSupplies(r, n), evenSupplies(r, n), evenSupplies(r, n), uneven} {
			start := forestFlowsByDefinition(n, supplies)
			want, moves := []int64(nil), int64(0)
			isEven := areEvenByDefinition(n, supplies)
			code := firstFailure(failure{!isEven, impl.ErrState}, failure{!areInRange(start), impl.ErrRange})
			if code == impl.ErrNone {
				want, moves = relaxedByDefinition(cycledNetwork{n, c.forest, c.chords, c.basis}, start, impl.MaxStep)
			}
			wantSolved(t, "a network", n, supplies, want, moves, code)
			counts[code]++
		}
	}
	if counts[impl.ErrNone] < 500 || counts[impl.ErrState] < 100 || counts[impl.ErrRange] < 50 {
		t.Errorf("only %v supplies have been tried", counts)
	}
}

func TestRelaxSomeChords(t *testing.T) {
	const most = impl.MaxFlow
	two, heavy, three := resistant(pipe(0, 1), 1, 1), resistant(pipe(0, 1), 1000, 1), resistant(pipe(0, 1), 1, 1, 1)
	cases := []struct {
		n     impl.Network
		chord int64
		flows []int64
		want  []int64
	}{
		{triangle(1, 1, 1), 1, []int64{0, 0, 30}, []int64{12, 12, 18}}, {triangle(1, 1, 1), 1, []int64{12, 12, 18}, []int64{12, 12, 18}},
		{triangle(1, 1, 1), 1, []int64{-12, -12, 42}, []int64{12, 12, 18}}, {triangle(1, 1, 1), 1, []int64{42, 42, -12}, []int64{12, 12, 18}},
		{triangle(1, 1, 1), 1, []int64{0, 0, 0}, []int64{0, 0, 0}}, {triangle(1, 1, 1), 1, []int64{7, 7, -7}, []int64{0, 0, 0}},
		{ringOfFour(), 2, []int64{30, 30, 0, 0}, []int64{27, 27, -3, -3}}, {resistant(pipe(0, 1), 1, 4), 1, []int64{9, 0}, []int64{6, 3}},
		// The least energy is reached at two numbers: the one that is nearer to 0 counts.
		{two, 1, []int64{1, 0}, []int64{1, 0}}, {two, 1, []int64{0, 1}, []int64{0, 1}}, {two, 1, []int64{-1, 0}, []int64{-1, 0}},
		{two, 1, []int64{0, -1}, []int64{0, -1}}, {two, 1, []int64{4, 1}, []int64{3, 2}}, {two, 1, []int64{1, 4}, []int64{2, 3}},
		{two, 1, []int64{5, 0}, []int64{3, 2}}, {two, 1, []int64{0, 5}, []int64{2, 3}}, {two, 1, []int64{-4, -1}, []int64{-3, -2}},
		{two, 1, []int64{-1, -4}, []int64{-2, -3}}, {two, 1, []int64{3, -2}, []int64{1, 0}}, {two, 1, []int64{-2, 3}, []int64{0, 1}},
		{two, 1, []int64{most, most - 1}, []int64{most, most - 1}}, {two, 1, []int64{most - 1, most}, []int64{most - 1, most}},
		{two, 1, []int64{most, -most}, []int64{0, 0}}, {two, 1, []int64{-most, most}, []int64{0, 0}}, {two, 1, []int64{most, 1 - most}, []int64{1, 0}},
		{two, 1, []int64{1 - most, most}, []int64{0, 1}}, {two, 1, []int64{most, most}, []int64{most, most}},
		// The least energy is reached only at an end of what is allowed.
		{heavy, 1, []int64{20000, most - 10}, []int64{19990, most}}, {heavy, 1, []int64{-20000, 10 - most}, []int64{-19990, -most}},
		{heavy, 1, []int64{20000, most - 1}, []int64{19999, most}}, {heavy, 1, []int64{20000, most}, []int64{20000, most}},
		{heavy, 1, []int64{-20000, -most}, []int64{-20000, -most}}, {resistant(pipe(0, 1), 1, 1000), 1, []int64{most - 10, 20000}, []int64{most, 19990}},
		{triangle(1, 1000, 1), 1, []int64{most - 10, -20000, 0}, []int64{most, -19990, -10}},
		{triangle(1, 1000, 1), 1, []int64{10 - most, 20000, 0}, []int64{-most, 19990, 10}},
		{triangle(1, 1000, 1), 1, []int64{0, -20000, 10 - most}, []int64{10, -19990, -most}},
		{triangle(1, 1000, 1), 1, []int64{0, 20000, most - 10}, []int64{-10, 19990, most}},
		// The other chords keep their flows.
		{three, 1, []int64{6, 0, 0}, []int64{3, 3, 0}}, {three, 2, []int64{6, 0, 0}, []int64{3, 0, 3}}, {three, 2, []int64{5, 9, 0}, []int64{3, 9, 2}},
		{twoPairs(), 1, []int64{4, 0, 3, 3}, []int64{2, 2, 3, 3}}, {twoPairs(), 3, []int64{4, 0, 3, 3}, []int64{4, 0, 0, 0}},
		{slowNetwork(), 1, []int64{15002, -7986, 7012, 14998}, []int64{15001, -7987, 7012, 14999}},
	}
	for _, c := range cases {
		got, code := impl.RelaxChord(c.n, c.flows, c.chord)
		wantList(t, fmt.Sprintf("RelaxChord of %v with %v", c.n.Pipes, c.flows), got, code, c.want, impl.ErrNone)
	}
}

// TestRelaxedChordsByTrial tries all numbers, for flows of which many are near the limits.
func TestRelaxedChordsByTrial(t *testing.T) {
	r := rand.New(rand.NewSource(76))
	moved := 0
	for _, base := range []impl.Network{triangle(), networkOf(2, pipe(0, 1), pipe(1, 0)), resistant(pipe(1, 0), 1, 1, 1), ringOfFour(), twoRings()} {
		for i := range 60 {
			n := copyOf(base)
			for k := range n.Pipes {
				n.Pipes[k].K = []int64{1, 1 + r.Int63n(3), impl.MaxResistance}[r.Intn(3)]
			}
			c, flows := withCycles(n), smallFlows(r, len(n.Pipes))
			if i >= 50 {
				flows = someFlows(r, len(n.Pipes))
			} else if i >= 25 {
				// All are so near to one limit that few numbers are allowed.
				for k := range flows {
					flows[k] = []int64{impl.MaxFlow, -impl.MaxFlow}[r.Intn(2)]
					flows[k] -= flows[k] / impl.MaxFlow * r.Int63n(40)
				}
			}
			chosen := r.Intn(len(c.chords))
			want := bestByTrial(n, flows, c.basis[chosen])
			got, code := impl.RelaxChord(n, flows, c.chords[chosen])
			wantList(t, fmt.Sprintf("RelaxChord of %v with %v", n.Pipes, flows), got, code, want, impl.ErrNone)
			if !slices.Equal(want, flows) {
				moved++
			}
		}
	}
	if moved < 100 {
		t.Errorf("only %d flow lists have been changed", moved)
	}
}

// wantBest checks a list in which the cycle of one chord has been added to another list: as the
// energy is convex, no number is better if none of its neighbours is.
func wantBest(t *testing.T, n impl.Network, cycle []int64, chord int64, before, after []int64) {
	t.Helper()
	amount := after[chord] - before[chord]
	if !areInRange(after) || !slices.Equal(after, plusCycle(before, cycle, amount)) {
		t.Fatalf("RelaxChord(%v, %v, %d) returned %v", n, before, chord, after)
	}
	energy := energyByDefinition(n, after)
	for _, times := range []int64{1, -1} {
		next := plusCycle(after, cycle, times)
		isNearer := times*amount < 0
		other := energyByDefinition(n, next)
		if areInRange(next) && (other < energy || other == energy && isNearer) {
			t.Errorf("RelaxChord(%v, %v, %d) returned %v, and not %v", n, before, chord, after, next)
		}
	}
}

func TestRelaxedChordsAreBest(t *testing.T) {
	r := rand.New(rand.NewSource(77))
	for _, c := range networksWithCycles() {
		for _, flows := range listsToRelax(r, len(c.Pipes)) {
			isEach := true
			for i, chord := range c.chords {
				got, code := impl.RelaxChord(c.Network, flows, chord)
				if code != impl.ErrNone {
					t.Fatalf("RelaxChord(%v, %v, %d) returned the code %d", c.Network, flows, chord, code)
				}
				wantBest(t, c.Network, c.basis[i], chord, flows, got)
				again, code := impl.RelaxChord(c.Network, got, chord)
				wantList(t, "RelaxChord again", again, code, got, impl.ErrNone)
				isEach = isEach && slices.Equal(got, flows)
			}
			// A list is relaxed exactly if no chord has a better number than 0.
			wantRelaxed(t, " of a network", c.Network, flows, isEach)
		}
	}
}

func TestErrorsOfSomeLoops(t *testing.T) {
	four := resistant(pipe(0, 1), 1, 1, 1, 1)
	cases := []struct {
		n     impl.Network
		flows []int64
		want  int64
	}{
		{networkOf(1), nil, 0}, {networkOf(2, pipe(0, 1)), []int64{30000}, 0}, {triangle(1, 1, 1), []int64{0, 0, 0}, 0},
		{triangle(1, 1, 1), []int64{0, 0, 30}, 900}, {triangle(1, 1, 1), []int64{0, 0, -30}, 900},
		{triangle(1, 1, 1), []int64{12, 12, 18}, 36}, {triangle(1, 1, 1), []int64{-12, -12, -18}, 36}, {triangle(1, 1, 1), []int64{13, 13, 17}, 49},
		{four, []int64{5, 5, 5, 5}, 0}, {four, []int64{5, 7, 1, 5}, 24}, {four, []int64{5, 1, 7, 5}, 24}, {four, []int64{5, -5, 7, 1}, 50},
		{four, []int64{5, 4, 6, 6}, 11}, {four, []int64{5, 4, 3, 2}, 21}, {four, []int64{1, 2, 3, 4}, 15},
		{mixedNetwork(), []int64{3, -2, 1, 4, -5, 2, -1}, 134}, {twoRings(), []int64{2, 1, -1, 0, 3, -2, -1}, 71},
		{withResistances(largestNetwork(), repeated(impl.MaxPipes, impl.MaxResistance)...), repeated(impl.MaxPipes, impl.MaxFlow), impl.MaxNodes * mostDrop},
		{withResistances(largestNetwork(), repeated(impl.MaxPipes, impl.MaxResistance)...), repeated(impl.MaxPipes, -impl.MaxFlow), impl.MaxNodes * mostDrop},
	}
	for _, c := range cases {
		got, code := impl.LoopError(c.n, c.flows)
		wantNumber(t, fmt.Sprintf("LoopError of %v with %v", c.n.Pipes, c.flows), got, code, c.want, impl.ErrNone)
	}
}

func TestLoopErrorsByDefinition(t *testing.T) {
	r := rand.New(rand.NewSource(78))
	signs := map[bool]int{}
	for _, c := range networksWithCycles() {
		for _, flows := range listsToRelax(r, len(c.Pipes)) {
			want := int64(0)
			residuals := residualsByDefinition(c, flows)
			for _, x := range residuals {
				want = max(want, x, -x)
			}
			got, code := impl.LoopError(c.Network, flows)
			wantNumber(t, "LoopError", got, code, want, impl.ErrNone)
			if want > 0 {
				signs[slices.Contains(residuals, want)]++
			}
		}
	}
	if signs[true] < 200 || signs[false] < 200 {
		t.Errorf("only %v loop errors have been compared", signs)
	}
}

// startByDefinition returns the flow list that SolveStep relaxes, or its error: the circulation of
// the flows through the chords is added to the forest flows.
func startByDefinition(c cycledNetwork, flows, supplies []int64) ([]int64, int64) {
	amounts := []int64{}
	for _, chord := range c.chords {
		amounts = append(amounts, flows[chord])
	}
	balanced, wanted := suppliesByDefinition(c.Network, flows), forestFlowsByDefinition(c.Network, supplies)
	start := sumsOfLists(wanted, circulationByDefinition(c.Network, amounts))
	isInRange := areInRange(balanced) && areInRange(wanted) && areInRange(start)
	isInRange = isInRange && areInRange(forestFlowsByDefinition(c.Network, balanced))
	code := firstFailure(failure{!areEvenByDefinition(c.Network, supplies), impl.ErrState}, failure{!isInRange, impl.ErrRange})
	if code != impl.ErrNone {
		return nil, code
	}
	return start, code
}

func wantStep(t *testing.T, name string, n impl.Network, flows, supplies, want []int64, wantCode int64) {
	t.Helper()
	name = fmt.Sprintf("SolveStep of %s with %v to %v", name, flows, supplies)
	got, code := impl.SolveStep(n, flows, supplies)
	wantList(t, name, got, code, want, wantCode)
	if wantCode == impl.ErrNone {
		wantBalanced(t, n, got, supplies, true)
	}
}

func TestSolveSomeSteps(t *testing.T) {
	const most = impl.MaxFlow
	two, three := resistant(pipe(0, 1), 1, 1), resistant(pipe(0, 1), 1, 1, 1)
	cases := []struct {
		name                  string
		n                     impl.Network
		flows, supplies, want []int64
	}{
		{"a triangle", triangle(1, 1, 1), []int64{12, 12, 18}, []int64{33, 0, -33}, []int64{14, 14, 19}},
		{"a triangle", triangle(1, 1, 1), []int64{12, 12, 18}, []int64{30, 0, -30}, []int64{12, 12, 18}},
		{"a triangle", triangle(1, 1, 1), []int64{12, 12, 18}, []int64{0, 0, 0}, []int64{0, 0, 0}},
		{"a triangle", triangle(1, 1, 1), []int64{0, 0, 30}, []int64{30, 0, -30}, []int64{12, 12, 18}},
		{"a triangle", triangle(1, 1, 1), []int64{1, 5, 7}, []int64{-30, 0, 30}, []int64{-12, -12, -18}},
		// The flows through the chords are kept at first: two moves are left, or none.
		{"two pipes", two, []int64{3, 9}, []int64{14, -14}, []int64{7, 7}}, {"two pipes", two, []int64{3, 9}, []int64{19, -19}, []int64{10, 9}},
		{"two pipes", two, []int64{3, 9}, []int64{17, -17}, []int64{8, 9}}, {"two pipes", two, []int64{5, 5}, []int64{15, -15}, []int64{8, 7}},
		{"two pipes", two, []int64{9, 3}, []int64{5, -5}, []int64{2, 3}},
		// All moves are used up.
		{"two pipes", two, []int64{0, 0}, []int64{most, -most}, []int64{25000, 5000}}, {"two pipes", two, []int64{9, -9}, []int64{-most, most}, []int64{-24991, -5009}},
		// From a greater step than 1 the flows would be 1, 2, 1.
		{"three pipes", three, []int64{0, 0, 0}, []int64{4, -4}, []int64{2, 1, 1}}, {"three pipes", three, []int64{5, 0, 0}, []int64{4, -4}, []int64{2, 1, 1}},
		{"two pairs", twoPairs(), []int64{5, 4, -2, 2}, []int64{12, -12, 0, 0}, []int64{6, 6, 0, 0}},
		{"two pairs", twoPairs(), []int64{5, 4, -2, 2}, []int64{9, -9, 1, -1}, []int64{5, 4, 1, 0}},
		{"a tree", networkOf(3, pipe(0, 1), pipe(2, 1)), []int64{7, 2}, []int64{1, -9, 8}, []int64{1, 8}},
		{"one node", networkOf(1), nil, []int64{0}, nil},
		// The flows and the forest flows alone would add up to more than is allowed.
		{"one pipe", networkOf(2, pipe(0, 1)), []int64{most}, []int64{most, -most}, []int64{most}},
		{"one pipe", networkOf(2, pipe(0, 1)), []int64{-most}, []int64{-most, most}, []int64{-most}},
		{"two pipes", two, []int64{20000, 10000}, []int64{most, -most}, []int64{15000, 15000}},
		// Here the forest flows of both would do so, and here the flows minus those of what they balance.
		{"one pipe", networkOf(2, pipe(0, 1)), []int64{-most}, []int64{most, -most}, []int64{most}},
		{"two pipes", two, []int64{-20000, 10000}, []int64{20001, -20001}, []int64{10001, 10000}},
		{"three pipes", three, []int64{-10000, 20000, 20000}, []int64{most, -most}, []int64{-5000, 17500, 17500}},
	}
	for _, c := range cases {
		wantStep(t, c.name, c.n, c.flows, c.supplies, c.want, impl.ErrNone)
	}
}

// joinedLine has two pipes between its middle nodes, so that more can flow there than in the forest.
func joinedLine() impl.Network {
	return withResistances(networkOf(4, pipe(0, 1), pipe(1, 2), pipe(1, 2), pipe(2, 3)), 1, 1, 1, 1)
}

func TestStepsAtTheLimits(t *testing.T) {
	const most = impl.MaxFlow
	two, three := resistant(pipe(0, 1), 1, 1), resistant(pipe(0, 1), 1, 1, 1)
	line, star := networkOf(4, pipe(0, 1), pipe(1, 2), pipe(2, 3)), networkOf(3, pipe(1, 0), pipe(2, 0))
	zero := []int64{0, 0, 0, 0}
	cases := []struct {
		name            string
		n               impl.Network
		flows, supplies []int64
		code            int64
	}{
		{"two pairs", twoPairs(), zero, []int64{5, -5, 3, -3}, impl.ErrNone}, {"two pairs", twoPairs(), zero, []int64{5, -4, 3, -4}, impl.ErrState},
		{"two pairs", twoPairs(), zero, []int64{5, -4, 3, -3}, impl.ErrState}, {"two pairs", twoPairs(), zero, []int64{most, most, -most, -most}, impl.ErrState},
		{"one node", networkOf(1), nil, []int64{1}, impl.ErrState},
		// What the flows balance.
		{"a star", star, []int64{15000, 15000}, []int64{0, 0, 0}, impl.ErrNone}, {"a star", star, []int64{15000, 15001}, []int64{0, 0, 0}, impl.ErrRange},
		{"a star", star, []int64{-15000, -15000}, []int64{0, 0, 0}, impl.ErrNone}, {"a star", star, []int64{-15000, -15001}, []int64{0, 0, 0}, impl.ErrRange},
		{"two pipes", two, []int64{15000, 15001}, []int64{30000, -30000}, impl.ErrRange}, {"two pipes", two, []int64{most, most}, []int64{0, 0}, impl.ErrRange},
		{"two pipes", two, []int64{15000, 15001}, []int64{1, 0}, impl.ErrState},
		// The forest flows of the supplies.
		{"a line", line, []int64{0, 0, 0}, []int64{20000, 10000, 0, -most}, impl.ErrNone}, {"a line", line, []int64{0, 0, 0}, []int64{20000, 10001, -1, -most}, impl.ErrRange},
		{"a line", line, []int64{0, 0, 0}, []int64{-20000, -10001, 1, most}, impl.ErrRange}, {"a line", line, []int64{most, 9, 9}, []int64{20000, 10001, -1, -most}, impl.ErrRange},
		// They would be within the limits if the other chord flows were added.
		{"a joined line", joinedLine(), []int64{0, -5, 5, 0}, []int64{20000, 10001, -1, -most}, impl.ErrRange},
		// The forest flows of what the flows balance.
		{"a joined line", joinedLine(), []int64{15000, 15000, 15000, 15000}, zero, impl.ErrNone},
		{"a joined line", joinedLine(), []int64{15000, 15001, 15000, 15000}, zero, impl.ErrRange},
		{"a joined line", joinedLine(), []int64{15000, 15000, 15001, 15000}, zero, impl.ErrRange},
		{"a joined line", joinedLine(), []int64{-15000, -15001, -15000, -15000}, zero, impl.ErrRange},
		// The sum of all of them.
		{"two pipes", two, []int64{0, -most}, []int64{0, 0}, impl.ErrNone}, {"two pipes", two, []int64{0, -most}, []int64{1, -1}, impl.ErrRange},
		{"two pipes", two, []int64{0, most}, []int64{-1, 1}, impl.ErrRange}, {"two pipes", two, []int64{most, -most}, []int64{1, -1}, impl.ErrRange},
		{"two pipes", two, []int64{0, -most}, []int64{-1, 1}, impl.ErrNone}, {"two pipes", two, []int64{0, -10000}, []int64{20001, -20001}, impl.ErrRange},
		{"three pipes", three, []int64{-10000, 20000, 20000}, []int64{10000, -10000}, impl.ErrNone},
		{"three pipes", three, []int64{-10000, 20000, 20000}, []int64{9999, -9999}, impl.ErrRange},
	}
	for _, c := range cases {
		got, code := impl.SolveStep(c.n, c.flows, c.supplies)
		wantCode(t, fmt.Sprintf("SolveStep of %s with %v to %v", c.name, c.flows, c.supplies), got, code, c.code)
		if _, want := startByDefinition(withCycles(c.n), c.flows, c.supplies); want != c.code {
			t.Errorf("the definition has the code %d for %s with %v to %v", want, c.name, c.flows, c.supplies)
		}
	}
}

func TestStepsByDefinition(t *testing.T) {
	r := rand.New(rand.NewSource(79))
	counts := map[int64]int{}
	for _, c := range networksWithCycles() {
		n := c.Network
		uneven := smallSupplies(r, n)
		uneven[r.Intn(len(uneven))]--
		for i, flows := range listsToRelax(r, len(n.Pipes)) {
			// What a flow list balances is always even.
			if !areEvenByDefinition(n, suppliesByDefinition(n, flows)) {
				t.Errorf("what %v balances is not even", flows)
			}
			other := [][]int64{make([]int64, len(n.Nodes)), evenSupplies(r, n), uneven}[i%3]
			for _, supplies := range [][]int64{smallSupplies(r, n), other} {
				want, code := startByDefinition(c, flows, supplies)
				if code == impl.ErrNone {
					want, _ = relaxedByDefinition(c, want, 1)
				}
				wantStep(t, "a network", n, flows, supplies, want, code)
				counts[code]++
			}
		}
	}
	if counts[impl.ErrNone] < 500 || counts[impl.ErrState] < 300 || counts[impl.ErrRange] < 500 {
		t.Errorf("only %v steps have been tried", counts)
	}
}

// TestStepsFromSolvedLoops goes from solved loops to other supplies, and to the same ones.
func TestStepsFromSolvedLoops(t *testing.T) {
	r := rand.New(rand.NewSource(80))
	for _, c := range networksWithCycles() {
		supplies := smallSupplies(r, c.Network)
		flows, code := impl.SolveLoops(c.Network, supplies)
		if moves, _ := impl.MovesNeeded(c.Network, supplies); code == impl.ErrNone && moves < impl.MaxMoves {
			wantStep(t, "a network", c.Network, flows, supplies, flows, impl.ErrNone)
			wantStep(t, "a network", c.Network, make([]int64, len(flows)), make([]int64, len(supplies)), make([]int64, len(flows)), impl.ErrNone)
		}
	}
}

// wantNoLoops checks flows that no function with them relaxes, whatever the other arguments are.
func wantNoLoops(t *testing.T, n impl.Network, flows []int64, want int64) {
	t.Helper()
	for _, step := range slices.Concat(steps, noSteps) {
		got, moves, code := impl.RelaxFlows(n, flows, step)
		wantList(t, "RelaxFlows", got, code, nil, want)
		wantNumber(t, "RelaxFlows", moves, code, 0, want)
	}
	for chord := int64(-1); chord <= int64(len(n.Pipes)); chord++ {
		got, code := impl.RelaxChord(n, flows, chord)
		wantList(t, "RelaxChord", got, code, nil, want)
	}
	worst, code := impl.LoopError(n, flows)
	wantNumber(t, "LoopError", worst, code, 0, want)
	for _, x := range []int64{0, 1, impl.MaxSupply + 1} {
		got, code := impl.SolveStep(n, flows, repeated(len(n.Nodes), x))
		wantList(t, "SolveStep", got, code, nil, want)
	}
}

// wantNoSolution checks supplies for which no loops are solved.
func wantNoSolution(t *testing.T, n impl.Network, supplies []int64, want int64) {
	t.Helper()
	wantSolved(t, "a network", n, supplies, nil, 0, want)
	for _, x := range []int64{0, 1, impl.MaxFlow} {
		got, code := impl.SolveStep(n, repeated(len(n.Pipes), x), supplies)
		wantList(t, "SolveStep", got, code, nil, want)
	}
}

func TestListsWithoutLoops(t *testing.T) {
	for _, n := range []impl.Network{networkOf(1), networkOf(3), networkOf(2, pipe(0, 1)), mixedNetwork(), twoRings(), largestNetwork()} {
		nodes, pipes := len(n.Nodes), len(n.Pipes)
		for _, length := range []int{0, 1, nodes - 1, nodes, nodes + 1, pipes - 1, pipes, pipes + 1, impl.MaxPipes + 1, 100000} {
			for _, x := range []int64{0, impl.MaxFlow + 1} {
				if length >= 0 && length != pipes {
					wantNoLoops(t, n, repeated(length, x), impl.ErrLimit)
				}
				if length >= 0 && length != nodes {
					wantNoSolution(t, n, repeated(length, x), impl.ErrLimit)
				}
			}
		}
		// noFlows are also beyond -MaxSupply..MaxSupply.
		for _, x := range noFlows {
			for i := range pipes {
				wantNoLoops(t, n, slices.Insert(make([]int64, pipes-1), i, x), impl.ErrLimit)
			}
			for i := range nodes {
				wantNoSolution(t, n, slices.Insert(make([]int64, nodes-1), i, x), impl.ErrLimit)
			}
		}
	}
}

func TestNoLoopsOfInvalidNetworks(t *testing.T) {
	wrong := append(invalidNetworks(mixedNetwork()), invalidNetworks(networkOf(4, pipe(0, 1), pipe(2, 1), pipe(3, 0)))...)
	for _, n := range append(wrong, invalidNetworks(largestNetwork())...) {
		for _, length := range []int{0, 1, len(n.Nodes), len(n.Pipes), len(n.Pipes) + 1} {
			for _, x := range []int64{0, impl.MaxFlow + 1, math.MinInt64} {
				wantNoLoops(t, n, repeated(length, x), impl.ErrInvalid)
				wantNoSolution(t, n, repeated(length, x), impl.ErrInvalid)
			}
		}
	}
}

func TestNumbersThatAreNoSteps(t *testing.T) {
	for _, n := range []impl.Network{networkOf(1), networkOf(2, pipe(0, 1)), triangle(1, 1, 1), mixedNetwork(), largestNetwork()} {
		flows := repeated(len(n.Pipes), 50)
		for _, step := range noSteps {
			got, moves, code := impl.RelaxFlows(n, flows, step)
			wantList(t, fmt.Sprintf("RelaxFlows from %d", step), got, code, nil, impl.ErrRange)
			wantNumber(t, fmt.Sprintf("RelaxFlows from %d", step), moves, code, 0, impl.ErrRange)
		}
		for _, step := range steps {
			got, moves, code := impl.RelaxFlows(n, flows, step)
			want, wantMoves := relaxedByDefinition(withCycles(n), flows, step)
			wantList(t, fmt.Sprintf("RelaxFlows from %d", step), got, code, want, impl.ErrNone)
			wantNumber(t, fmt.Sprintf("RelaxFlows from %d", step), moves, code, wantMoves, impl.ErrNone)
		}
	}
	// Between the powers of two there are no steps.
	for step := int64(-10); step <= 2*impl.MaxStep+10; step++ {
		_, _, code := impl.RelaxFlows(networkOf(1), nil, step)
		wantNumber(t, fmt.Sprintf("RelaxFlows from %d", step), 0, code, 0, firstFailure(failure{!slices.Contains(steps, step), impl.ErrRange}))
	}
}

// suppliesOfFour are supplies of networks with four nodes, and behind them lists that are none.
var suppliesOfFour = [][]int64{
	{0, 0, 0, 0}, {1, 2, -3, 0}, {1, 2, -1, -2}, {9, -9, 30, -30}, {impl.MaxSupply, -impl.MaxSupply, impl.MaxSupply, -impl.MaxSupply},
	{1, 0, 0, 0}, {impl.MaxSupply, impl.MaxSupply, impl.MaxSupply, impl.MaxSupply}, {impl.MaxSupply, 1, -1, -impl.MaxSupply},
	{-impl.MaxSupply, -1, impl.MaxSupply, 1}, {1, impl.MaxSupply, -impl.MaxSupply, -1}, {0, 0, 0}, {0, 0, 0, 0, 0}, nil,
	{impl.MaxSupply + 1, -impl.MaxSupply - 1, 0, 0}, {0, -impl.MaxSupply - 1, impl.MaxSupply, 1}, {math.MinInt64, math.MinInt64, 0, 0},
}

// TestErrorsOfLoopsInOrder takes all combinations of arguments that are right and wrong.
func TestErrorsOfLoopsInOrder(t *testing.T) {
	chords := map[string]int64{"tree": -1, "ring": 2, "apart": 1, "invalid": -1}
	for name, n := range networksOfFour() {
		invalid := failure{name == "invalid", impl.ErrInvalid}
		for i, flows := range flowsOfFour(len(n.Pipes)) {
			limit := failure{i > 2, impl.ErrLimit}
			worst, code := impl.LoopError(n, flows)
			wantCode(t, "LoopError", withoutZero(worst), code, firstFailure(invalid, limit))
			for _, chord := range []int64{0, 1, 2, 3, 4, -1, math.MinInt64, math.MaxInt64} {
				got, code := impl.RelaxChord(n, flows, chord)
				missing := failure{chord < 0 || chord != chords[name], impl.ErrNotFound}
				wantCode(t, "RelaxChord", got, code, firstFailure(invalid, limit, missing))
			}
			for _, step := range slices.Concat(steps, noSteps) {
				got, moves, code := impl.RelaxFlows(n, flows, step)
				want := firstFailure(invalid, limit, failure{!slices.Contains(steps, step), impl.ErrRange})
				wantCode(t, "RelaxFlows", append(withoutZero(moves), got...), code, want)
			}
			for k, supplies := range suppliesOfFour {
				got, code := impl.SolveStep(n, flows, supplies)
				want := firstFailure(invalid, failure{i > 2 || k > 9, impl.ErrLimit})
				if want == impl.ErrNone {
					_, want = startByDefinition(withCycles(n), flows, supplies)
				}
				wantCode(t, "SolveStep", got, code, want)
			}
		}
		for k, supplies := range suppliesOfFour {
			want := firstFailure(invalid, failure{k > 9, impl.ErrLimit})
			if want == impl.ErrNone {
				_, want = startByDefinition(withCycles(n), make([]int64, len(n.Pipes)), supplies)
			}
			got, code := impl.SolveLoops(n, supplies)
			wantCode(t, "SolveLoops", got, code, want)
			moves, code := impl.MovesNeeded(n, supplies)
			wantCode(t, "MovesNeeded", withoutZero(moves), code, want)
			_, other := impl.ForestFlows(n, supplies)
			wantNumber(t, "ForestFlows", 0, other, 0, code)
		}
	}
}

// resultsOfLoops are all results of chapter 11, each as a list of lists; the chord is one of the
// network.
func resultsOfLoops(n impl.Network, flows, supplies []int64, chord int64) map[string]func() ([][]int64, int64) {
	list := func(list []int64, code int64) ([][]int64, int64) { return [][]int64{list}, code }
	number := func(x, code int64) ([][]int64, int64) { return [][]int64{{x}}, code }
	relaxed := func(list []int64, moves, code int64) ([][]int64, int64) { return [][]int64{list, {moves}}, code }
	return map[string]func() ([][]int64, int64){
		"RelaxFlows":  func() ([][]int64, int64) { return relaxed(impl.RelaxFlows(n, flows, 1)) },
		"from 32768":  func() ([][]int64, int64) { return relaxed(impl.RelaxFlows(n, flows, impl.MaxStep)) },
		"SolveLoops":  func() ([][]int64, int64) { return list(impl.SolveLoops(n, supplies)) },
		"MovesNeeded": func() ([][]int64, int64) { return number(impl.MovesNeeded(n, supplies)) },
		"RelaxChord":  func() ([][]int64, int64) { return list(impl.RelaxChord(n, flows, chord)) },
		"LoopError":   func() ([][]int64, int64) { return number(impl.LoopError(n, flows)) },
		"SolveStep":   func() ([][]int64, int64) { return list(impl.SolveStep(n, flows, supplies)) },
	}
}

func TestLoopsLeaveArgumentsAlone(t *testing.T) {
	for _, base := range []impl.Network{networkOf(2, pipe(0, 1), pipe(1, 0)), mixedNetwork(), twoRings(), largestNetwork()} {
		n, memory := withMemory(base)
		chord, flows := chordsByDefinition(n)[0], repeated(len(n.Pipes)+2, 60)
		supplies := append(suppliesByDefinition(n, repeated(len(n.Pipes), 7)), 60, 60)
		wantLeftAlone(t, memory, [][]int64{flows, supplies}, resultsOfLoops(n, flows[:len(n.Pipes)], supplies[:len(n.Nodes)], chord))
		// A step that is not possible leaves nothing behind either.
		full, before := repeated(len(n.Pipes), impl.MaxFlow), copyOf(n)
		supplies[0]++
		_, code := impl.SolveStep(n, full, supplies[:len(n.Nodes)])
		wantList(t, "SolveStep", full, code, repeated(len(n.Pipes), impl.MaxFlow), impl.ErrState)
		wantNetwork(t, "SolveStep", n, code, before, impl.ErrState)
	}
}

func TestListsOfLoopsAreNewMemory(t *testing.T) {
	n, flows := mixedNetwork(), []int64{3, -2, 1, 4, -5, 2, -1}
	wantNewMemory(t, resultsOfLoops(n, flows, []int64{10, 20, -15, -15, 0}, 6))
	// Each result is equal to the flows, and has to stay as it is when these change.
	n, flows = triangle(1, 1, 1), []int64{12, 12, 18}
	relaxed, _, _ := impl.RelaxFlows(n, flows, impl.MaxStep)
	one, _ := impl.RelaxChord(n, flows, 1)
	next, code := impl.SolveStep(n, flows, []int64{30, 0, -30})
	flows[0], flows[1], flows[2] = -7, -7, -7
	for _, list := range [][]int64{relaxed, one, next} {
		wantList(t, "a function of loops", list, code, []int64{12, 12, 18}, impl.ErrNone)
		list[0], list[1], list[2] = 9, 9, 9
		wantList(t, "the flows behind it", flows, code, []int64{-7, -7, -7}, impl.ErrNone)
	}
}
