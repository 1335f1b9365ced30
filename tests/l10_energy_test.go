package tests

import (
	"fmt"
	"math"
	"math/big"
	"math/rand"
	"slices"
	"sync"
	"testing"

	"loop.example/g00852/impl"
)

// mostEnergy is the energy of the greatest flow through the greatest resistance.
const mostEnergy = mostDrop * impl.MaxFlow

// cycledNetwork is a network together with what the definitions of chapters 4 and 5 say of it.
type cycledNetwork struct {
	impl.Network
	forest []int64
	chords []int64
	basis  [][]int64
}

func withCycles(n impl.Network) cycledNetwork {
	return cycledNetwork{n, forestByDefinition(n), chordsByDefinition(n), basisByDefinition(n)}
}

// networksWithCycles are networks of all kinds, with resistances of all sizes: a part of those of
// chapter 7, as many lists are tried for each chord.
var networksWithCycles = sync.OnceValue(func() []cycledNetwork {
	list := []cycledNetwork{}
	for i, n := range networksWithDrops() {
		if i < 6 || i%3 == 0 {
			list = append(list, withCycles(n))
		}
	}
	return list
})

// energies are what chapter 10 says of a flow list, with one residual and one bound for each chord;
// worst is 0 if there are no chords.
type energies struct {
	energy            int64
	residuals, bounds []int64
	worst             int64
	isRelaxed         bool
}

func energyByDefinition(n impl.Network, flows []int64) int64 {
	var energy int64
	for i, p := range n.Pipes {
		energy += max(p.K*flows[i]*flows[i]*flows[i], -p.K*flows[i]*flows[i]*flows[i])
	}
	return energy
}

// residualsByDefinition compares the drop of each chord with the levels of the forest at its ends.
func residualsByDefinition(c cycledNetwork, flows []int64) []int64 {
	residuals := []int64{}
	for _, chord := range c.chords {
		p := c.Pipes[chord]
		levels := levelsByDefinition(c.Network, c.forest, flows, p.To, 0)
		residuals = append(residuals, dropByDefinition(p, flows[chord])-levels[p.From])
	}
	return residuals
}

func boundsByDefinition(c cycledNetwork, flows []int64) []int64 {
	bounds := make([]int64, len(c.basis))
	for i, cycle := range c.basis {
		for k, p := range c.Pipes {
			if cycle[k] != 0 {
				bounds[i] += p.K + 3*p.K*max(flows[k], -flows[k])
			}
		}
	}
	return bounds
}

func plusCycle(flows, cycle []int64, times int64) []int64 {
	list := slices.Clone(flows)
	for i := range list {
		list[i] += times * cycle[i]
	}
	return list
}

// canBeImproved reports whether adding a cycle lowers the energy, and is allowed.
func canBeImproved(n impl.Network, flows, cycle []int64, times int64) bool {
	after := plusCycle(flows, cycle, times)
	return areInRange(after) && energyByDefinition(n, after) < energyByDefinition(n, flows)
}

func areRelaxedByDefinition(c cycledNetwork, flows []int64) bool {
	for _, cycle := range c.basis {
		if canBeImproved(c.Network, flows, cycle, 1) || canBeImproved(c.Network, flows, cycle, -1) {
			return false
		}
	}
	return true
}

func energiesByDefinition(c cycledNetwork, flows []int64) energies {
	want := energies{energy: energyByDefinition(c.Network, flows), isRelaxed: areRelaxedByDefinition(c, flows)}
	want.residuals, want.bounds = residualsByDefinition(c, flows), boundsByDefinition(c, flows)
	greatest := int64(-1)
	for i, x := range want.residuals {
		if max(x, -x) > greatest {
			greatest, want.worst = max(x, -x), c.chords[i]
		}
	}
	return want
}

// relaxedByTrial adds cycles as long as they lower the energy, many times at once at first. It
// gives up after many of them.
func relaxedByTrial(c cycledNetwork, flows []int64) []int64 {
	tries := 0
	for step := int64(1 << 15); step > 0; step /= 2 {
		for isChanged := true; isChanged && tries < 3000; tries++ {
			isChanged = false
			for _, cycle := range c.basis {
				for _, times := range []int64{step, -step} {
					if canBeImproved(c.Network, flows, cycle, times) {
						flows, isChanged = plusCycle(flows, cycle, times), true
					}
				}
			}
		}
	}
	return flows
}

// listsToRelax are flow lists of all sizes for a network.
func listsToRelax(r *rand.Rand, size int) [][]int64 {
	tiny := []int64{}
	for range size {
		tiny = append(tiny, r.Int63n(7)-3)
	}
	return [][]int64{
		make([]int64, size), repeated(size, 1), repeated(size, impl.MaxFlow), repeated(size, -impl.MaxFlow),
		tiny, smallFlows(r, size), someFlows(r, size),
	}
}

func wantEnergies(t *testing.T, name string, c cycledNetwork, flows []int64, want energies) {
	t.Helper()
	n, name := c.Network, fmt.Sprintf(" of %s with %v", name, flows)
	energy, code := impl.EnergyOf(n, flows)
	wantNumber(t, "EnergyOf"+name, energy, code, want.energy, impl.ErrNone)
	residuals, code := impl.ResidualsOf(n, flows)
	wantList(t, "ResidualsOf"+name, residuals, code, want.residuals, impl.ErrNone)
	for i, chord := range c.chords {
		residual, code := impl.ResidualOf(n, flows, chord)
		wantNumber(t, "ResidualOf"+name, residual, code, want.residuals[i], impl.ErrNone)
		bound, code := impl.ResidualBound(n, flows, chord)
		wantNumber(t, "ResidualBound"+name, bound, code, want.bounds[i], impl.ErrNone)
	}
	wantRelaxed(t, name, n, flows, want.isRelaxed)
	worst, code := impl.WorstResidual(n, flows)
	if len(c.chords) == 0 {
		wantNumber(t, "WorstResidual"+name, worst, code, 0, impl.ErrNotFound)
	} else {
		wantNumber(t, "WorstResidual"+name, worst, code, want.worst, impl.ErrNone)
	}
}

func wantRelaxed(t *testing.T, name string, n impl.Network, flows []int64, want bool) {
	t.Helper()
	if got := impl.IsRelaxed(n, flows); got != want {
		t.Errorf("IsRelaxed%s with %v returned %v", name, flows, got)
	}
}

// resistant returns pipes with the same ends and with the given resistances.
func resistant(p impl.Pipe, list ...int64) impl.Network {
	return withResistances(networkOf(2, slices.Repeat([]impl.Pipe{p}, len(list))...), list...)
}

// triangle has the cycle 1, 1, -1 of the chord 1.
func triangle(resistances ...int64) impl.Network {
	return withResistances(networkOf(3, pipe(0, 1), pipe(1, 2), pipe(0, 2)), resistances...)
}

func TestEnergiesOfNetworksWithoutChords(t *testing.T) {
	const most = impl.MaxFlow
	tree := networkOf(4, pipe(0, 1), pipe(2, 1), pipe(3, 0))
	cases := []struct {
		name  string
		n     impl.Network
		flows []int64
		want  int64
	}{
		{"one node", networkOf(1), nil, 0}, {"nodes without pipes", networkOf(3), []int64{}, 0},
		{"one pipe", resistant(pipe(0, 1), 7), []int64{0}, 0}, {"one pipe", resistant(pipe(0, 1), 7), []int64{1}, 7},
		{"one pipe", resistant(pipe(0, 1), 7), []int64{-1}, 7}, {"one pipe", resistant(pipe(1, 0), 7), []int64{-10}, 7000},
		{"one pipe", resistant(pipe(0, 1), 1), []int64{most}, 27000000000000},
		{"one pipe", resistant(pipe(0, 1), 1), []int64{-most}, 27000000000000},
		{"one pipe", resistant(pipe(0, 1), impl.MaxResistance), []int64{most}, mostEnergy},
		{"one pipe", resistant(pipe(0, 1), impl.MaxResistance), []int64{-most}, mostEnergy},
		{"one pipe", resistant(pipe(0, 1), impl.MaxResistance), []int64{1 - most}, 26997300089999000},
		{"a tree", tree, []int64{2, -3, 4}, 254}, {"a tree", tree, []int64{0, 0, -4}, 192},
		{"a tree", tree, []int64{most, -most, most}, 162000000000000},
		{"two trees", networkOf(5, pipe(4, 2), pipe(1, 0)), []int64{-5, 2}, 141},
		{"a steep path", steepPath(), repeated(impl.MaxNodes-1, -most), (impl.MaxNodes - 1) * mostEnergy},
	}
	for _, c := range cases {
		// Without chords there is nothing that could be improved.
		wantEnergies(t, c.name, withCycles(c.n), c.flows, energies{energy: c.want, isRelaxed: true})
	}
}

func TestEnergiesOfNetworksWithChords(t *testing.T) {
	three, four := networkOf(2, pipe(1, 0), pipe(0, 1), pipe(1, 0)), resistant(pipe(0, 1), 1, 1, 1, 1)
	cases := []struct {
		name  string
		n     impl.Network
		flows []int64
		want  energies
	}{
		{"a triangle", triangle(1, 1, 1), []int64{0, 0, 30}, energies{27000, []int64{-900}, []int64{93}, 1, false}},
		{"a triangle", triangle(1, 1, 1), []int64{12, 12, 18}, energies{9288, []int64{-36}, []int64{129}, 1, true}},
		{"a triangle", triangle(1, 1, 1), []int64{-12, -12, -18}, energies{9288, []int64{36}, []int64{129}, 1, true}},
		{"a triangle", triangle(1, 1, 1), []int64{10, 10, 20}, energies{10000, []int64{-200}, []int64{123}, 1, false}},
		{"a triangle", triangle(1, 1, 1), []int64{13, 13, 17}, energies{9307, []int64{49}, []int64{132}, 1, false}},
		{"a triangle", triangle(1, 1, 1), []int64{0, 0, 0}, energies{0, []int64{0}, []int64{3}, 1, true}},
		{"a triangle", triangle(2, 3, 5), []int64{1, -1, 1}, energies{10, []int64{-6}, []int64{40}, 1, true}},
		{"parallel pipes", resistant(pipe(0, 1), 1, 2), []int64{4, 3}, energies{118, []int64{2}, []int64{33}, 1, true}},
		{"parallel pipes", resistant(pipe(0, 1), 1, 2), []int64{3, 4}, energies{155, []int64{23}, []int64{36}, 1, false}},
		{"pipes against one another", networkOf(2, pipe(0, 1), pipe(1, 0)), []int64{4, 3}, energies{118, []int64{34}, []int64{33}, 1, false}},
		{"pipes against one another", networkOf(2, pipe(0, 1), pipe(1, 0)), []int64{4, -3}, energies{118, []int64{-2}, []int64{33}, 1, true}},
		// The energy stays as it is if the cycle is added or subtracted once.
		{"equal pipes", resistant(pipe(0, 1), 1, 1), []int64{1, 0}, energies{1, []int64{-1}, []int64{5}, 1, true}},
		{"equal pipes", resistant(pipe(0, 1), 1, 1), []int64{0, 1}, energies{1, []int64{1}, []int64{5}, 1, true}},
		{"equal pipes", resistant(pipe(0, 1), 5, 5), []int64{-8, -7}, energies{4275, []int64{75}, []int64{235}, 1, true}},
		// Adding the cycle of the second chord once leads from the first list to the other one.
		{"three pipes", three, []int64{5, -3, 2}, energies{203, []int64{7, -13}, []int64{36, 37}, 2, false}},
		{"three pipes", three, []int64{4, -3, 3}, energies{199, []int64{-2, 11}, []int64{33, 43}, 2, true}},
		{"mixed", mixedNetwork(), []int64{3, -2, 1, 4, -5, 2, -1}, energies{
			982, []int64{12, -134, 33, 65}, []int64{22, 90, 52, 94}, 4, false,
		}},
		{"two rings", twoRings(), []int64{2, 1, -1, 0, 3, -2, -1}, energies{203, []int64{1, -71, 38}, []int64{23, 100, 78}, 5, false}},
		{"two rings", twoRings(), make([]int64, 7), energies{0, []int64{0, 0, 0}, []int64{8, 13, 12}, 0, true}},
		{"a ring", ringOfFour(), []int64{1, 1, 1, 1}, energies{1111, []int64{1111}, []int64{4444}, 2, false}},
		{"a ring", ringOfFour(), []int64{9, -9, 0, 1}, energies{9019, []int64{271}, []int64{4408}, 2, true}},
		// Residuals that are equal, and equal but for their signs.
		{"four pipes", four, []int64{5, 5, 5, 5}, energies{500, []int64{0, 0, 0}, []int64{32, 32, 32}, 1, true}},
		{"four pipes", four, []int64{5, 7, 1, 5}, energies{594, []int64{24, -24, 0}, []int64{38, 20, 32}, 1, false}},
		{"four pipes", four, []int64{5, 1, 7, 5}, energies{594, []int64{-24, 24, 0}, []int64{20, 38, 32}, 1, false}},
		{"four pipes", four, []int64{5, -5, 7, 1}, energies{594, []int64{-50, 24, -24}, []int64{32, 38, 20}, 1, false}},
		{"four pipes", four, []int64{5, 6, 1, 7}, energies{685, []int64{11, -24, 24}, []int64{35, 20, 38}, 2, false}},
		{"four pipes", four, []int64{5, 6, 7, 1}, energies{685, []int64{11, 24, -24}, []int64{35, 38, 20}, 2, false}},
		{"four pipes", four, []int64{5, 4, 6, 6}, energies{621, []int64{-9, 11, 11}, []int64{29, 35, 35}, 2, true}},
	}
	for _, c := range cases {
		n := withCycles(c.n)
		wantEnergies(t, c.name, n, c.flows, c.want)
		if got := energiesByDefinition(n, c.flows); fmt.Sprint(got) != fmt.Sprint(c.want) {
			t.Errorf("the definition has %v for %s with %v, not %v", got, c.name, c.flows, c.want)
		}
	}
}

func TestEnergiesByDefinition(t *testing.T) {
	r := rand.New(rand.NewSource(61))
	signs := map[int]int{}
	for _, c := range networksWithCycles() {
		lists := listsToRelax(r, len(c.Pipes))
		for _, cycle := range c.basis {
			// All drops along a cycle are added up: its residual is the greatest one there can be.
			lists = append(lists, plusCycle(make([]int64, len(c.Pipes)), cycle, []int64{impl.MaxFlow, -impl.MaxFlow}[r.Intn(2)]))
		}
		for _, flows := range lists {
			want := energiesByDefinition(c, flows)
			wantEnergies(t, "a network", c, flows, want)
			for _, x := range want.residuals {
				signs[min(max(int(x), -1), 1)]++
			}
		}
	}
	if signs[-1] < 1000 || signs[0] < 1000 || signs[1] < 1000 {
		t.Errorf("only %v residuals have been compared", signs)
	}
}

// TestExactEnergies compares with numbers of any size.
func TestExactEnergies(t *testing.T) {
	r := rand.New(rand.NewSource(62))
	for _, c := range networksWithCycles() {
		n := withResistances(c.Network, repeated(len(c.Pipes), impl.MaxResistance)...)
		for _, flows := range [][]int64{someFlows(r, len(n.Pipes)), repeated(len(n.Pipes), impl.MaxFlow-r.Int63n(3))} {
			want := new(big.Int)
			for i, q := range flows {
				cube := new(big.Int).Exp(big.NewInt(q), big.NewInt(3), nil)
				want.Add(want, cube.Mul(cube.Abs(cube), big.NewInt(n.Pipes[i].K)))
			}
			got, code := impl.EnergyOf(n, flows)
			if code != impl.ErrNone || want.Cmp(big.NewInt(got)) != 0 {
				t.Errorf("EnergyOf(%v, %v) returned %d and the code %d, not %v", n, flows, got, code, want)
			}
		}
	}
}

// TestOppositeFlows turns all flows round, which changes nothing but the signs of the residuals.
func TestOppositeFlows(t *testing.T) {
	r := rand.New(rand.NewSource(63))
	for _, c := range networksWithCycles() {
		for _, flows := range listsToRelax(r, len(c.Pipes)) {
			zero := make([]int64, len(flows))
			opposite := differencesOfLists(zero, flows)
			energy, _ := impl.EnergyOf(c.Network, flows)
			got, code := impl.EnergyOf(c.Network, opposite)
			wantNumber(t, "EnergyOf", got, code, energy, impl.ErrNone)
			residuals, _ := impl.ResidualsOf(c.Network, flows)
			list, code := impl.ResidualsOf(c.Network, opposite)
			wantList(t, "ResidualsOf", list, code, differencesOfLists(make([]int64, len(residuals)), residuals), impl.ErrNone)
			wantRelaxed(t, " of a network", c.Network, opposite, impl.IsRelaxed(c.Network, flows))
		}
	}
}

func TestEnergyChangesAtTheLimits(t *testing.T) {
	const most, state, none = impl.MaxFlow, impl.ErrState, impl.ErrNone
	const cube, inner = most * most * most, (most - 1) * (most - 1) * (most - 1)
	cases := []struct {
		flows              []int64
		amount, want, code int64
	}{
		{[]int64{0, 0, 30}, 12, 9288 - 27000, none}, {[]int64{12, 12, 18}, -12, 27000 - 9288, none}, {[]int64{12, 12, 18}, 0, 0, none},
		{[]int64{12, 12, 18}, 1, 19, none}, {[]int64{12, 12, 18}, -1, 233, none}, {[]int64{13, 13, 17}, -1, -19, none},
		{[]int64{0, 0, 0}, 0, 0, none}, {[]int64{0, 0, 0}, 1, 3, none}, {[]int64{0, 0, 0}, -1, 3, none},
		{[]int64{1, 1, -1}, -2, 0, none}, {[]int64{5, -6, 7}, 6, 1331 + 0 + 1 - 125 - 216 - 343, none},
		{[]int64{0, 0, 0}, most, 3 * cube, none}, {[]int64{0, 0, 0}, -most, 3 * cube, none},
		{[]int64{-most, -most, most}, most, -3 * cube, none}, {[]int64{most, most, -most}, -most, -3 * cube, none},
		{[]int64{most, most, -most}, 0, 0, none}, {[]int64{most, most, -most}, -1, 3*inner - 3*cube, none},
		{[]int64{most, most, -most}, 1, 0, state}, {[]int64{-most, -most, most}, -1, 0, state},
		// Each element is taken to its limit, and beyond it by one.
		{[]int64{most - 1, 0, 0}, 1, cube - inner + 2, none}, {[]int64{most - 1, 0, 0}, 2, 0, state},
		{[]int64{0, most - 1, 0}, 1, cube - inner + 2, none}, {[]int64{0, most - 1, 0}, 2, 0, state},
		{[]int64{0, 0, 1 - most}, 1, cube - inner + 2, none}, {[]int64{0, 0, 1 - most}, 2, 0, state},
		{[]int64{1 - most, 0, 0}, -1, cube - inner + 2, none}, {[]int64{1 - most, 0, 0}, -2, 0, state},
		{[]int64{0, 1 - most, 0}, -1, cube - inner + 2, none}, {[]int64{0, 1 - most, 0}, -2, 0, state},
		{[]int64{0, 0, most - 1}, -1, cube - inner + 2, none}, {[]int64{0, 0, most - 1}, -2, 0, state},
		{[]int64{1, 0, 0}, most - 1, cube + 2*inner - 1, none}, {[]int64{1, 0, 0}, most, 0, state}, {[]int64{0, 0, -1}, most, 0, state},
		{[]int64{0, -1, 0}, -most, 0, state}, {[]int64{most, most, -most}, most, 0, state}, {[]int64{most, 0, 0}, 1, 0, state},
	}
	for _, c := range cases {
		for k := int64(1); k <= impl.MaxResistance; k += 333 {
			got, code := impl.EnergyChange(triangle(k, k, k), c.flows, 1, c.amount)
			// The change is that of one resistance, as all three are equal.
			wantNumber(t, fmt.Sprintf("EnergyChange(%v, %d)", c.flows, c.amount), got, code, k*c.want, c.code)
		}
	}
	// With these flows some of the amounts would lead to flows that are allowed, and others would not.
	for _, flows := range [][]int64{{0, 0, 0}, {most, most, -most}, {-most, -most, most}, {most, 0, 0}} {
		for _, amount := range noFlows {
			got, code := impl.EnergyChange(triangle(1, 2, 3), flows, 1, amount)
			wantNumber(t, "EnergyChange", got, code, 0, impl.ErrRange)
		}
	}
}

func TestEnergyChangesByDefinition(t *testing.T) {
	r := rand.New(rand.NewSource(64))
	counts := map[int64]int{}
	for _, c := range networksWithCycles() {
		for i, chord := range c.chords {
			for _, flows := range listsToRelax(r, len(c.Pipes)) {
				amounts := []int64{0, 1, -1, impl.MaxFlow, -impl.MaxFlow}
				for _, amount := range append(amounts, r.Int63n(2001)-1000, r.Int63n(2*impl.MaxFlow+1)-impl.MaxFlow) {
					after, want, wantCode := plusCycle(flows, c.basis[i], amount), int64(0), int64(impl.ErrState)
					if areInRange(after) {
						want, wantCode = energyByDefinition(c.Network, after)-energyByDefinition(c.Network, flows), impl.ErrNone
						checkSum(t, c.Network, flows, chord, amount)
					}
					got, code := impl.EnergyChange(c.Network, flows, chord, amount)
					wantNumber(t, "EnergyChange", got, code, want, wantCode)
					counts[code]++
				}
			}
		}
	}
	if counts[impl.ErrNone] < 5000 || counts[impl.ErrState] < 5000 {
		t.Errorf("only %v changes have been compared", counts)
	}
}

// checkSum compares a change with the energies of two lists, and with the change back again.
func checkSum(t *testing.T, n impl.Network, flows []int64, chord, amount int64) {
	t.Helper()
	before, _ := impl.EnergyOf(n, flows)
	list, _ := impl.AddCycle(n, flows, chord, amount)
	after, _ := impl.EnergyOf(n, list)
	change, code := impl.EnergyChange(n, flows, chord, amount)
	wantNumber(t, "EnergyChange", change, code, after-before, impl.ErrNone)
	change, code = impl.EnergyChange(n, list, chord, -amount)
	wantNumber(t, "EnergyChange back", change, code, before-after, impl.ErrNone)
}

// TestRelaxedListsByTrial tries all amounts for one chord: as the energy first falls and then rises
// with the amount, a list is relaxed if no amount lowers it.
func TestRelaxedListsByTrial(t *testing.T) {
	r := rand.New(rand.NewSource(65))
	counts := map[bool]int{}
	for _, base := range []impl.Network{triangle(), networkOf(2, pipe(0, 1), pipe(1, 0)), resistant(pipe(1, 0), 1, 1), ringOfFour()} {
		for range 300 {
			n, flows := copyOf(base), []int64{}
			for i := range n.Pipes {
				n.Pipes[i].K = 1 + r.Int63n(4)
				flows = append(flows, r.Int63n(21)-10)
			}
			c := withCycles(n)
			want := true
			for amount := int64(-25); amount <= 25; amount++ {
				after := plusCycle(flows, c.basis[0], amount)
				want = want && energyByDefinition(n, after) >= energyByDefinition(n, flows)
			}
			wantRelaxed(t, fmt.Sprintf(" of %v", n.Pipes), n, flows, want)
			counts[want]++
		}
	}
	if counts[true] < 50 || counts[false] < 500 {
		t.Errorf("only %v lists have been tried", counts)
	}
}

// TestImprovedOnlyBeyondTheLimits has one pipe that is taken to its limit or beyond, and one whose
// flow could be made less with it.
func TestImprovedOnlyBeyondTheLimits(t *testing.T) {
	cycle := []int64{1, 1, -1}
	for full := range cycle {
		for heavy := range cycle {
			for _, times := range []int64{1, -1} {
				if full == heavy {
					continue
				}
				resistances, flows := repeated(3, 1), repeated(3, 0)
				resistances[heavy], flows[heavy] = impl.MaxResistance, -20000*times*cycle[heavy]
				n := triangle(resistances...)
				flows[full] = times * cycle[full] * impl.MaxFlow
				wantRelaxed(t, " at the limit", n, flows, true)
				// Three times the residual would be over its bound, which relaxed lists keep within the limits alone.
				residual, _ := impl.ResidualOf(n, flows, 1)
				bound, _ := impl.ResidualBound(n, flows, 1)
				if 3*max(residual, -residual) <= bound {
					t.Errorf("%v has the residual %d and the bound %d", flows, residual, bound)
				}
				flows[full] -= times * cycle[full]
				wantRelaxed(t, " within the limit", n, flows, false)
			}
		}
	}
	// The first chord could be improved only beyond the limit, and the second one is relaxed or not.
	n := resistant(pipe(0, 1), impl.MaxResistance, 1, 1)
	wantRelaxed(t, " of three pipes", n, []int64{20000, impl.MaxFlow, impl.MaxFlow}, true)
	wantRelaxed(t, " of three pipes", n, []int64{20000, impl.MaxFlow, impl.MaxFlow - 1}, false)
	wantRelaxed(t, " of three pipes", n, []int64{20000, impl.MaxFlow - 1, impl.MaxFlow}, false)
}

// TestEachCycleHasToBeRelaxed has two chords, each with a pipe of its own to go back.
func TestEachCycleHasToBeRelaxed(t *testing.T) {
	n := withResistances(networkOf(3, pipe(0, 1), pipe(0, 1), pipe(1, 2), pipe(2, 1)), 1, 1, 1, 1)
	relaxed := [][]int64{{5, 5}, {5, 4}, {4, 5}, {0, 0}, {1, 0}, {-3, -2}}
	others := [][]int64{{5, 3}, {3, 5}, {2, 0}, {-2, 0}, {0, 2}, {0, -2}, {1, -1}, {-1, 1}}
	for i, a := range slices.Concat(relaxed, others) {
		for k, b := range slices.Concat(relaxed, others) {
			flows := []int64{a[0], a[1], b[0], -b[1]}
			wantRelaxed(t, " of two pairs", n, flows, i < len(relaxed) && k < len(relaxed))
		}
	}
}

// wantPromise11 checks a list of which all elements are within -MaxFlow + 1..MaxFlow - 1.
func wantPromise11(t *testing.T, c cycledNetwork, flows []int64) {
	t.Helper()
	for _, chord := range c.chords {
		residual, code := impl.ResidualOf(c.Network, flows, chord)
		bound, other := impl.ResidualBound(c.Network, flows, chord)
		isKept := 3*max(residual, -residual) <= bound
		if code != impl.ErrNone || other != impl.ErrNone || !isKept && impl.IsRelaxed(c.Network, flows) {
			t.Errorf("%v has the flows %v, the residual %d of %d and the bound %d", c.Network, flows, residual, chord, bound)
		}
	}
}

func areInside(flows []int64) bool {
	return !slices.ContainsFunc(flows, func(q int64) bool { return max(q, -q) >= impl.MaxFlow })
}

// TestResidualsOfRelaxedListsKeepTheirBounds checks promise 11 with lists that have been relaxed
// here, and with their neighbours, of which many are not relaxed.
func TestResidualsOfRelaxedListsKeepTheirBounds(t *testing.T) {
	r := rand.New(rand.NewSource(66))
	relaxed, neighbours := map[bool]int{}, map[bool]int{} // those that were so from the start, and those that still are
	for _, c := range networksWithCycles() {
		if len(c.chords) == 0 {
			continue
		}
		for _, start := range listsToRelax(r, len(c.Pipes)) {
			flows := relaxedByTrial(c, start)
			want := areRelaxedByDefinition(c, flows)
			wantRelaxed(t, " of a network", c.Network, flows, want)
			if !want || !areInside(flows) {
				continue
			}
			wantPromise11(t, c, flows)
			relaxed[slices.Equal(flows, start)]++
			for _, cycle := range c.basis {
				next := plusCycle(flows, cycle, []int64{1, -1}[r.Intn(2)])
				isRelaxed := areRelaxedByDefinition(c, next)
				wantRelaxed(t, " of a network", c.Network, next, isRelaxed)
				wantPromise11(t, c, next)
				neighbours[isRelaxed]++
			}
		}
	}
	if relaxed[false] < 200 || relaxed[true] < 50 || neighbours[false] < 1000 {
		t.Errorf("only %v and %v lists have been tried", relaxed, neighbours)
	}
}

func TestEnergiesOfTheGreatestSizes(t *testing.T) {
	const most, size = impl.MaxFlow, impl.MaxPipes
	parallel := withCycles(resistant(pipe(0, 1), repeated(size, impl.MaxResistance)...))
	full, bound := repeated(size, most), int64(2*impl.MaxResistance*(3*most+1))
	want := energies{size * mostEnergy, repeated(size-1, 0), repeated(size-1, bound), 1, true}
	wantEnergies(t, "parallel pipes", parallel, full, want)
	// The first pipe flows against all others; taking the flow off any pair would lower the energy.
	full[0] = -most
	want = energies{size * mostEnergy, repeated(size-1, 2*mostDrop), repeated(size-1, bound), 1, false}
	wantEnergies(t, "parallel pipes", parallel, full, want)
	got, code := impl.EnergyChange(parallel.Network, full, size-1, -most)
	wantNumber(t, "EnergyChange", got, code, -2*mostEnergy, impl.ErrNone)
	got, code = impl.EnergyChange(parallel.Network, full, size-1, 1)
	wantNumber(t, "EnergyChange", got, code, 0, impl.ErrState)

	// The chord 12 goes round the whole ring, and the chord 36, beside it, all but one pipe of it.
	ring := withCycles(withResistances(largestNetwork(), repeated(size, impl.MaxResistance)...))
	full = repeated(size, most)
	residuals, bounds := repeated(size-impl.MaxNodes+1, 0), repeated(size-impl.MaxNodes+1, bound)
	residuals[0], bounds[0] = impl.MaxNodes*mostDrop, impl.MaxNodes*bound/2
	residuals[13], bounds[13] = residuals[0], bounds[0]
	wantEnergies(t, "a ring", ring, full, energies{size * mostEnergy, residuals, bounds, 12, false})
	got, code = impl.EnergyChange(ring.Network, full, 36, -most)
	wantNumber(t, "EnergyChange", got, code, -impl.MaxNodes*mostEnergy, impl.ErrNone)
	got, code = impl.EnergyChange(ring.Network, make([]int64, size), 12, -most)
	wantNumber(t, "EnergyChange", got, code, impl.MaxNodes*mostEnergy, impl.ErrNone)
}

func TestEnergiesOfNoChord(t *testing.T) {
	for _, n := range []impl.Network{networkOf(1), networkOf(2, pipe(1, 0)), mixedNetwork(), twoRings(), largestNetwork()} {
		pipes := int64(len(n.Pipes))
		for _, chord := range slices.Concat(noIndices, []int64{pipes, pipes + 1}, forestByDefinition(n)) {
			wantNoChord(t, n, make([]int64, pipes), chord, impl.ErrNotFound)
			wantNoChord(t, n, repeated(int(pipes), impl.MaxFlow), chord, impl.ErrNotFound)
		}
	}
}

// wantNoChord checks the functions with a chord, whatever the amount is.
func wantNoChord(t *testing.T, n impl.Network, flows []int64, chord, want int64) {
	t.Helper()
	got, code := impl.ResidualOf(n, flows, chord)
	wantNumber(t, "ResidualOf", got, code, 0, want)
	got, code = impl.ResidualBound(n, flows, chord)
	wantNumber(t, "ResidualBound", got, code, 0, want)
	for _, amount := range []int64{0, 1, -impl.MaxFlow, impl.MaxFlow + 1, math.MinInt64} {
		got, code := impl.EnergyChange(n, flows, chord, amount)
		wantNumber(t, "EnergyChange", got, code, 0, want)
	}
}

// wantNoEnergy checks lists without an energy, whatever the other arguments are.
func wantNoEnergy(t *testing.T, n impl.Network, flows []int64, want int64) {
	t.Helper()
	got, code := impl.EnergyOf(n, flows)
	wantNumber(t, "EnergyOf", got, code, 0, want)
	got, code = impl.WorstResidual(n, flows)
	wantNumber(t, "WorstResidual", got, code, 0, want)
	list, code := impl.ResidualsOf(n, flows)
	wantList(t, "ResidualsOf", list, code, nil, want)
	wantRelaxed(t, " without an energy", n, flows, false)
	for chord := int64(-1); chord <= int64(len(n.Pipes)); chord++ {
		wantNoChord(t, n, flows, chord, want)
	}
	for _, chord := range noIndices {
		wantNoChord(t, n, flows, chord, want)
	}
}

func TestListsWithoutEnergy(t *testing.T) {
	for _, n := range []impl.Network{networkOf(1), networkOf(2, pipe(0, 1)), mixedNetwork(), twoRings(), largestNetwork()} {
		pipes := len(n.Pipes)
		for _, length := range []int{0, pipes - 1, pipes + 1, len(n.Nodes), impl.MaxPipes + 1, 100000} {
			if length >= 0 && length != pipes {
				wantNoEnergy(t, n, make([]int64, length), impl.ErrLimit)
				wantNoEnergy(t, n, repeated(length, impl.MaxFlow+1), impl.ErrLimit)
			}
		}
		for i := range n.Pipes {
			for _, x := range noFlows {
				flows := make([]int64, pipes)
				flows[i] = x
				wantNoEnergy(t, n, flows, impl.ErrLimit)
			}
			for _, x := range []int64{0, 1, -1, impl.MaxFlow, -impl.MaxFlow} {
				flows := make([]int64, pipes)
				flows[i] = x
				got, code := impl.EnergyOf(n, flows)
				wantNumber(t, "EnergyOf", got, code, n.Pipes[i].K*x*x*max(x, -x), impl.ErrNone)
			}
		}
	}
}

func TestNoEnergyOfInvalidNetworks(t *testing.T) {
	wrong := append(invalidNetworks(mixedNetwork()), invalidNetworks(networkOf(4, pipe(0, 1), pipe(2, 1), pipe(3, 0)))...)
	for _, n := range append(wrong, invalidNetworks(largestNetwork())...) {
		for _, length := range []int{0, 1, len(n.Pipes), len(n.Pipes) + 1} {
			for _, x := range []int64{0, impl.MaxFlow + 1, math.MinInt64} {
				wantNoEnergy(t, n, repeated(length, x), impl.ErrInvalid)
			}
		}
	}
}

// TestErrorsOfEnergyInOrder takes all combinations of arguments that are right and wrong.
func TestErrorsOfEnergyInOrder(t *testing.T) {
	chords := map[string]int64{"tree": -1, "ring": 2, "apart": 1, "invalid": -1}
	amounts := append([]int64{0, 1, -1, impl.MaxFlow, -impl.MaxFlow}, noFlows...)
	for name, n := range networksOfFour() {
		for i, flows := range flowsOfFour(len(n.Pipes)) {
			invalid, limit := failure{name == "invalid", impl.ErrInvalid}, failure{i > 2, impl.ErrLimit}
			none := failure{name == "tree", impl.ErrNotFound}
			energy, code := impl.EnergyOf(n, flows)
			wantCode(t, "EnergyOf", withoutZero(energy), code, firstFailure(invalid, limit))
			list, code := impl.ResidualsOf(n, flows)
			wantCode(t, "ResidualsOf", list, code, firstFailure(invalid, limit))
			worst, code := impl.WorstResidual(n, flows)
			wantCode(t, "WorstResidual", withoutZero(worst), code, firstFailure(invalid, limit, none))
			for _, chord := range []int64{0, 1, 2, 3, 4, -1, math.MinInt64, math.MaxInt64} {
				missing := failure{chord < 0 || chord != chords[name], impl.ErrNotFound}
				residual, code := impl.ResidualOf(n, flows, chord)
				wantCode(t, "ResidualOf", withoutZero(residual), code, firstFailure(invalid, limit, missing))
				bound, code := impl.ResidualBound(n, flows, chord)
				wantCode(t, "ResidualBound", withoutZero(bound), code, firstFailure(invalid, limit, missing))
				for k, amount := range amounts {
					// All elements of a flow list are equal here, and those of a cycle are 1.
					beyond := failure{i <= 2 && !areInRange([]int64{flows[0] + amount}), impl.ErrState}
					want := firstFailure(invalid, limit, missing, failure{k > 4, impl.ErrRange}, beyond)
					change, code := impl.EnergyChange(n, flows, chord, amount)
					wantCode(t, "EnergyChange", withoutZero(change), code, want)
				}
			}
		}
	}
}

// resultsOfEnergy are all results of chapter 10, each as a list of lists; the chord is one of the
// network.
func resultsOfEnergy(n impl.Network, flows []int64, chord int64) map[string]func() ([][]int64, int64) {
	number := func(x, code int64) ([][]int64, int64) { return [][]int64{{x}}, code }
	return map[string]func() ([][]int64, int64){
		"EnergyOf":      func() ([][]int64, int64) { return number(impl.EnergyOf(n, flows)) },
		"EnergyChange":  func() ([][]int64, int64) { return number(impl.EnergyChange(n, flows, chord, 3)) },
		"no change":     func() ([][]int64, int64) { return number(impl.EnergyChange(n, flows, chord, 0)) },
		"ResidualOf":    func() ([][]int64, int64) { return number(impl.ResidualOf(n, flows, chord)) },
		"ResidualBound": func() ([][]int64, int64) { return number(impl.ResidualBound(n, flows, chord)) },
		"WorstResidual": func() ([][]int64, int64) { return number(impl.WorstResidual(n, flows)) },
		"ResidualsOf": func() ([][]int64, int64) {
			list, code := impl.ResidualsOf(n, flows)
			return [][]int64{list}, code
		},
		"IsRelaxed": func() ([][]int64, int64) {
			if impl.IsRelaxed(n, flows) {
				return number(1, impl.ErrNone)
			}
			return number(0, impl.ErrNone)
		},
	}
}

func TestEnergyLeavesArgumentsAlone(t *testing.T) {
	for _, base := range []impl.Network{networkOf(2, pipe(0, 1), pipe(1, 0)), mixedNetwork(), twoRings(), largestNetwork()} {
		n, memory := withMemory(base)
		chord, flows := chordsByDefinition(n)[0], repeated(len(n.Pipes)+2, 6)
		wantLeftAlone(t, memory, [][]int64{flows}, resultsOfEnergy(n, flows[:len(n.Pipes)], chord))
		// A change that is not possible leaves nothing behind either.
		full := repeated(len(n.Pipes), impl.MaxFlow)
		got, code := impl.EnergyChange(n, full, chord, impl.MaxFlow)
		wantNumber(t, "EnergyChange", got, code, 0, impl.ErrState)
		wantList(t, "EnergyChange", full, code, repeated(len(n.Pipes), impl.MaxFlow), impl.ErrState)
	}
}

func TestResidualsAreNewMemory(t *testing.T) {
	n, flows := mixedNetwork(), []int64{3, -2, 1, 4, -5, 2, -1}
	wantNewMemory(t, resultsOfEnergy(n, flows, 6))
	// The residuals are equal to the flows behind the first one, and have to stay when these change.
	n, flows = resistant(pipe(0, 1), 1, 1, 1), []int64{0, 1, 1}
	residuals, code := impl.ResidualsOf(n, flows)
	flows[1], flows[2] = -7, -7
	wantList(t, "ResidualsOf", residuals, code, []int64{1, 1}, impl.ErrNone)
	residuals[0], residuals[1] = 9, 9
	wantList(t, "the flows behind ResidualsOf", flows, code, []int64{0, -7, -7}, impl.ErrNone)
}
