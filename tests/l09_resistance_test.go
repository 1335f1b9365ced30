package tests

import (
	"fmt"
	"math"
	"math/big"
	"math/rand"
	"slices"
	"testing"

	"loop.example/g00852/impl"
)

// noResistances are numbers outside of 1..MaxResistance; sums of some of them are within it again.
var noResistances = []int64{
	0, -1, -impl.MaxResistance, impl.MaxResistance + 1, 2 * impl.MaxResistance, 1 << 32, -1 << 32,
	math.MinInt64, math.MinInt64 + 1, math.MaxInt64,
}

// noDrops are numbers outside of 0..MaxSquare; divided by a resistance, some of them are within it.
var noDrops = []int64{
	-1, -2, -999, -impl.MaxSquare, math.MinInt64, math.MinInt64 + 1, impl.MaxSquare + 1, 2 * impl.MaxSquare, math.MaxInt64,
}

// noAmounts are numbers outside of 0..MaxFlow.
var noAmounts = []int64{
	-1, -2, -impl.MaxFlow, impl.MaxFlow + 1, 2 * impl.MaxFlow, 1 << 32, -1 << 32, math.MinInt64, math.MinInt64 + 1, math.MaxInt64,
}

// drives reports whether a drop drives at least q through a resistance.
func drives(drop, k, q int64) bool {
	product := new(big.Int).Mul(big.NewInt(q), big.NewInt(q))
	return product.Mul(product, big.NewInt(k)).Cmp(big.NewInt(drop)) <= 0
}

// wantDriven checks that a flow is the greatest one that a drop drives.
func wantDriven(t *testing.T, k, drop int64) {
	t.Helper()
	q, code := impl.FlowFor(k, drop)
	if code != impl.ErrNone || q < 0 || !drives(drop, k, q) || drives(drop, k, q+1) {
		t.Errorf("FlowFor(%d, %d) returned %d and the code %d", k, drop, q, code)
	}
}

// splitByDefinition gives out the flow unit by unit, each to the resistance that needs the least
// drop for one more, the first one of several. It returns the parts, and the drop of the last unit.
func splitByDefinition(list []int64, flow int64) ([]int64, int64) {
	parts, last := make([]int64, len(list)), int64(0)
	for range flow {
		best, least := 0, int64(math.MaxInt64)
		for i, k := range list {
			if drop := k * (parts[i] + 1) * (parts[i] + 1); drop < least {
				best, least = i, drop
			}
		}
		parts[best]++
		last = least
	}
	return parts, last
}

// flowByDefinition counts, for each resistance, the flows that a small drop drives.
func flowByDefinition(list []int64, drop int64) int64 {
	var driven int64
	for _, k := range list {
		for q := int64(1); k*q*q <= drop; q++ {
			driven++
		}
	}
	return driven
}

func totalOf(list []int64) int64 {
	var total int64
	for _, x := range list {
		total += x
	}
	return total
}

func someResistance(r *rand.Rand) int64 {
	return []int64{1, 2, impl.MaxResistance, 1 + r.Int63n(10), 1 + r.Int63n(impl.MaxResistance)}[r.Intn(5)]
}

// someLists are lists of parallel resistances of all lengths: any ones, equal ones, and ones with
// factors that are squares, so that one drop drives one more through several of them.
func someLists(r *rand.Rand) [][]int64 {
	lists := [][]int64{}
	for size := 1; size <= impl.MaxParallel; size++ {
		lists = append(lists, repeated(size, 1), repeated(size, impl.MaxResistance), repeated(size, someResistance(r)))
		for range 6 {
			some, squares, factor := []int64{}, []int64{}, 1+r.Int63n(10)
			for range size {
				root := 1 + r.Int63n(10)
				some, squares = append(some, someResistance(r)), append(squares, factor*root*root)
			}
			lists = append(lists, some, squares)
		}
	}
	return lists
}

// wantSplit checks the least drop and the parts of a flow, and that the parts add up to it, that
// the drop drives it, and that a smaller one does not.
func wantSplit(t *testing.T, list []int64, flow, wantDrop int64, want []int64) {
	t.Helper()
	call := fmt.Sprintf("(%v, %d)", list, flow)
	drop, code := impl.DropFor(list, flow)
	wantNumber(t, "DropFor"+call, drop, code, wantDrop, impl.ErrNone)
	parts, code := impl.SplitFlow(list, flow)
	wantList(t, "SplitFlow"+call, parts, code, want, impl.ErrNone)
	if totalOf(parts) != flow {
		t.Errorf("SplitFlow%s returned %v, which add up to %d", call, parts, totalOf(parts))
	}
	if driven, code := impl.ParallelFlow(list, drop); code != impl.ErrNone || driven < flow {
		t.Errorf("DropFor%s returned %d, which drives %d, with the code %d", call, drop, driven, code)
	}
	if driven, code := impl.ParallelFlow(list, drop-1); drop > 0 && (code != impl.ErrNone || driven >= flow) {
		t.Errorf("DropFor%s returned %d, and one less drives %d, with the code %d", call, drop, driven, code)
	}
}

func TestLimitOfParallelResistances(t *testing.T) {
	if impl.MaxParallel != 8 {
		t.Errorf("the limit is %d", impl.MaxParallel)
	}
}

func TestResistancesInSeries(t *testing.T) {
	const most = impl.MaxResistance
	cases := []struct {
		list []int64
		want int64
	}{
		{[]int64{1}, 1}, {[]int64{most}, most}, {[]int64{1, 2, 3}, 6}, {[]int64{3, 2, 1}, 6}, {[]int64{7, 7}, 14},
		// The sum may be greater than a resistance can be.
		{[]int64{most, 1}, most + 1}, {[]int64{1, most - 1}, most}, {[]int64{most, most}, 2 * most},
		{repeated(impl.MaxParallel, 1), impl.MaxParallel}, {repeated(impl.MaxParallel, most), impl.MaxParallel * most},
		{[]int64{1, 10, 100, 1000, 1, 10, 100, 1000}, 2222},
	}
	for _, c := range cases {
		got, code := impl.SeriesOf(c.list)
		wantNumber(t, "SeriesOf", got, code, c.want, impl.ErrNone)
	}
	for _, list := range someLists(rand.New(rand.NewSource(51))) {
		got, code := impl.SeriesOf(list)
		wantNumber(t, "SeriesOf", got, code, totalOf(list), impl.ErrNone)
	}
}

func TestFlowsOfSomeDrops(t *testing.T) {
	const square, most = impl.MaxSquare, impl.MaxResistance
	cases := []struct{ k, drop, want int64 }{
		{3, 50, 4}, {1, 0, 0}, {most, 0, 0}, {1, 1, 1}, {2, 1, 0}, {most, 1, 0}, {2, 2, 1}, {2, 7, 1}, {2, 8, 2},
		{3, 47, 3}, {3, 48, 4}, {3, 49, 4}, {3, 74, 4}, {3, 75, 5}, {most, most - 1, 0}, {most, most, 1}, {most, 3999, 1}, {most, 4000, 2},
		{1, square, impl.MaxFactor}, {1, square - 1, impl.MaxFactor - 1}, {2, square, 707106781}, {3, square, 577350269},
		{most, square, 31622776}, {most, square - 1, 31622776}, {1, 900000000, impl.MaxFlow}, {most, mostDrop, impl.MaxFlow},
		{most, mostDrop - 1, impl.MaxFlow - 1},
		{999, square, 31638599}, {250, square, 63245553}, {10, square - 1, 316227766},
	}
	for _, c := range cases {
		got, code := impl.FlowFor(c.k, c.drop)
		wantNumber(t, "FlowFor", got, code, c.want, impl.ErrNone)
		got, code = impl.ParallelFlow([]int64{c.k}, c.drop)
		wantNumber(t, "ParallelFlow of one resistance", got, code, c.want, impl.ErrNone)
	}
}

// TestFlowsAtSquares takes, for all resistances, drops that are k times a square, one less and one more.
func TestFlowsAtSquares(t *testing.T) {
	r := rand.New(rand.NewSource(52))
	for k := int64(1); k <= impl.MaxResistance; k++ {
		top := new(big.Int).Sqrt(big.NewInt(impl.MaxSquare / k)).Int64()
		for _, q := range []int64{1, 2, impl.MaxFlow, top - 1, top, 1 + r.Int63n(top), 1 + r.Int63n(impl.MaxFlow)} {
			drop := k * q * q
			got, code := impl.FlowFor(k, drop)
			wantNumber(t, "FlowFor of k times a square", got, code, q, impl.ErrNone)
			got, code = impl.FlowFor(k, drop-1)
			wantNumber(t, "FlowFor of one less", got, code, q-1, impl.ErrNone)
			if drop < impl.MaxSquare {
				got, code = impl.FlowFor(k, drop+1)
				wantNumber(t, "FlowFor of one more", got, code, q, impl.ErrNone)
			}
		}
	}
}

func TestFlowsAreTheGreatestThatAreDriven(t *testing.T) {
	r := rand.New(rand.NewSource(53))
	for range 5000 {
		k := someResistance(r)
		wantDriven(t, k, r.Int63n(1<<uint(1+r.Intn(59))))
		wantDriven(t, k, r.Int63n(impl.MaxSquare+1))
		wantDriven(t, k, impl.MaxSquare-r.Int63n(100))
	}
	for drop := range int64(200) {
		for k := int64(1); k <= impl.MaxResistance; k += 1 + k/20 {
			wantDriven(t, k, drop)
		}
	}
}

func TestParallelFlowsOfSomeDrops(t *testing.T) {
	const most = impl.MaxResistance
	cases := []struct {
		list       []int64
		drop, want int64
	}{
		{[]int64{1, 4}, 36, 9}, {[]int64{4, 1}, 36, 9}, {[]int64{1, 4}, 35, 7}, {[]int64{1, 4}, 0, 0}, {[]int64{1, 4}, 1, 1},
		{[]int64{2, 4}, 1, 0},
		{[]int64{3, 3}, 50, 8}, {[]int64{3, 3, 3}, 47, 9}, {[]int64{1, most}, most - 1, 31}, {[]int64{1, most}, most, 32},
		// Each flow is rounded down by itself, and not their sum.
		{[]int64{2, 2, 2}, 1, 0}, {[]int64{1, 1}, 3, 2}, {repeated(impl.MaxParallel, most), most - 1, 0},
		{repeated(impl.MaxParallel, 1), impl.MaxSquare, 8 * impl.MaxFactor},
		{repeated(impl.MaxParallel, 1), impl.MaxSquare - 1, 8*impl.MaxFactor - 8},
		{repeated(impl.MaxParallel, most), impl.MaxSquare, 8 * 31622776}, {[]int64{1, 2, 3, most}, impl.MaxSquare, 2316079826},
	}
	for _, c := range cases {
		got, code := impl.ParallelFlow(c.list, c.drop)
		wantNumber(t, "ParallelFlow", got, code, c.want, impl.ErrNone)
	}
}

func TestParallelFlowsByDefinition(t *testing.T) {
	r := rand.New(rand.NewSource(54))
	for _, list := range someLists(r) {
		for _, drop := range []int64{0, 1, r.Int63n(100), r.Int63n(10000), r.Int63n(1000000)} {
			got, code := impl.ParallelFlow(list, drop)
			wantNumber(t, "ParallelFlow", got, code, flowByDefinition(list, drop), impl.ErrNone)
		}
		for _, drop := range []int64{impl.MaxSquare, impl.MaxSquare - 1, r.Int63n(impl.MaxSquare + 1)} {
			var want int64
			for _, k := range list {
				want += new(big.Int).Sqrt(big.NewInt(drop / k)).Int64()
			}
			got, code := impl.ParallelFlow(list, drop)
			wantNumber(t, "ParallelFlow of a great drop", got, code, want, impl.ErrNone)
		}
	}
}

func TestSplitFlows(t *testing.T) {
	const most, flow = impl.MaxResistance, impl.MaxFlow
	cases := []struct {
		list       []int64
		flow, drop int64
		want       []int64
	}{
		// A drop of 35 drives 5 and 2; the two units that are left go to both.
		{[]int64{1, 4}, 9, 36, []int64{6, 3}}, {[]int64{1, 4}, 8, 36, []int64{6, 2}}, {[]int64{4, 1}, 8, 36, []int64{3, 5}},
		{[]int64{1, 4}, 7, 25, []int64{5, 2}}, {[]int64{1, 4}, 0, 0, []int64{0, 0}}, {[]int64{1, 4}, 1, 1, []int64{1, 0}},
		{[]int64{4, 1}, 1, 1, []int64{0, 1}},
		{[]int64{5}, 0, 0, []int64{0}}, {[]int64{5}, 1, 5, []int64{1}}, {[]int64{5}, 2, 20, []int64{2}}, {[]int64{3}, 4, 48, []int64{4}},
		// What is left goes to the first ones of equal resistances.
		{[]int64{3, 3, 3}, 1, 3, []int64{1, 0, 0}}, {[]int64{3, 3, 3}, 2, 3, []int64{1, 1, 0}}, {[]int64{3, 3, 3}, 3, 3, []int64{1, 1, 1}},
		{[]int64{3, 3, 3}, 4, 12, []int64{2, 1, 1}}, {[]int64{3, 3, 3}, 5, 12, []int64{2, 2, 1}},
		// The drop 36 drives one more through the first, the third and the last one, but not through the second one.
		{[]int64{4, 5, 9, 36}, 6, 36, []int64{3, 2, 1, 0}}, {[]int64{4, 5, 9, 36}, 7, 36, []int64{3, 2, 2, 0}},
		{[]int64{4, 5, 9, 36}, 8, 36, []int64{3, 2, 2, 1}},
		{[]int64{5, 36, 9, 4}, 6, 36, []int64{2, 1, 1, 2}}, {[]int64{5, 36, 9, 4}, 7, 36, []int64{2, 1, 2, 2}},
		{[]int64{1, most}, 31, 961, []int64{31, 0}}, {[]int64{1, most}, 32, most, []int64{31, 1}}, {[]int64{most, 1}, 33, 1024, []int64{1, 32}},
		{[]int64{1}, flow, 900000000, []int64{flow}}, {[]int64{1}, flow - 1, 899940001, []int64{flow - 1}},
		{[]int64{most}, flow, mostDrop, []int64{flow}}, {[]int64{most}, 1, most, []int64{1}},
		{repeated(2, most), flow, mostDrop / 4, repeated(2, flow/2)}, {repeated(2, most), flow - 1, mostDrop / 4, []int64{flow / 2, flow/2 - 1}},
		{repeated(impl.MaxParallel, most), 0, 0, repeated(impl.MaxParallel, 0)},
		{repeated(impl.MaxParallel, most), flow, 14062500000, repeated(impl.MaxParallel, 3750)},
		{repeated(impl.MaxParallel, 1), flow, 14062500, repeated(impl.MaxParallel, 3750)},
		{repeated(impl.MaxParallel, 1), flow - 3, 14062500, append(repeated(5, 3750), repeated(3, 3749)...)},
	}
	for _, c := range cases {
		wantSplit(t, c.list, c.flow, c.drop, c.want)
	}
}

// TestLeastDropsByTrial tries all drops from 0 on.
func TestLeastDropsByTrial(t *testing.T) {
	lists := [][]int64{
		{1}, {7}, {1, 1}, {1, 4}, {2, 8, 18}, {3, 5, 7, 9}, {10, 1, 10, 1}, {1, impl.MaxResistance}, repeated(impl.MaxParallel, 3),
	}
	for _, list := range lists {
		var drop int64
		for flow := range int64(60) {
			for flowByDefinition(list, drop) < flow {
				drop++
			}
			got, code := impl.DropFor(list, flow)
			wantNumber(t, "DropFor", got, code, drop, impl.ErrNone)
		}
	}
}

func TestSplitFlowsByDefinition(t *testing.T) {
	r := rand.New(rand.NewSource(55))
	for _, list := range someLists(r) {
		flows := []int64{0, 1, 2, 3, int64(len(list)), r.Int63n(20), r.Int63n(100), r.Int63n(1000), impl.MaxFlow - 1, impl.MaxFlow}
		for _, flow := range append(flows, r.Int63n(impl.MaxFlow+1)) {
			parts, drop := splitByDefinition(list, flow)
			wantSplit(t, list, flow, drop, parts)
		}
	}
}

// TestUnitsThatAreLeft counts how many units are left for how many resistances through which the
// drop drives one more, and checks that only the first ones of these get them.
func TestUnitsThatAreLeft(t *testing.T) {
	r := rand.New(rand.NewSource(56))
	counts := map[string]int{}
	for range 20 {
		for _, list := range someLists(r) {
			flow := 1 + r.Int63n(100)
			drop, code := impl.DropFor(list, flow)
			parts, splitCode := impl.SplitFlow(list, flow)
			if code != impl.ErrNone || splitCode != impl.ErrNone || len(parts) != len(list) {
				t.Fatalf("DropFor and SplitFlow(%v, %d) returned %d, %v and the codes %d and %d", list, flow, drop, parts, code, splitCode)
			}
			got, more := []bool{}, 0
			for i, k := range list {
				before, next := flowByDefinition([]int64{k}, drop-1), flowByDefinition([]int64{k}, drop)
				if next == before && parts[i] != before || parts[i] < before || parts[i] > before+1 {
					t.Fatalf("SplitFlow(%v, %d) returned %v with the drop %d", list, flow, parts, drop)
				}
				if next > before {
					got, more = append(got, parts[i] > before), more+1
				}
			}
			left := slices.Index(append(got, false), false)
			if slices.Contains(got[left:], true) || left == 0 {
				t.Fatalf("SplitFlow(%v, %d) returned %v, with %v for the units that are left", list, flow, parts, got)
			}
			counts[fmt.Sprint(more > 1, left < more)]++
		}
	}
	if counts["true true"] < 200 || counts["true false"] < 200 || counts["false false"] < 200 {
		t.Errorf("only %v flows have been tried", counts)
	}
}

func TestBestResistances(t *testing.T) {
	const most, flow = impl.MaxResistance, impl.MaxFlow
	cases := []struct{ flow, drop, want, code int64 }{
		{4, 50, 3, impl.ErrNone}, {4, 48, 3, impl.ErrNone}, {4, 47, 2, impl.ErrNone}, {5, 50, 2, impl.ErrNone}, {7, 50, 1, impl.ErrNone},
		{7, 49, 1, impl.ErrNone},
		// A drop that drives the flow through no resistance, not even through 1.
		{7, 48, 0, impl.ErrNotFound}, {8, 50, 0, impl.ErrNotFound}, {1, 0, 0, impl.ErrNotFound}, {flow, 0, 0, impl.ErrNotFound},
		{flow, 899999999, 0, impl.ErrNotFound},
		{flow, 1, 0, impl.ErrNotFound}, {2, 3, 0, impl.ErrNotFound}, {2, 4, 1, impl.ErrNone},
		// A flow of 0 is driven through all resistances.
		{0, 0, most, impl.ErrNone}, {0, 1, most, impl.ErrNone}, {0, impl.MaxSquare, most, impl.ErrNone},
		{1, 1, 1, impl.ErrNone}, {1, 2, 2, impl.ErrNone}, {1, most - 1, most - 1, impl.ErrNone}, {1, most, most, impl.ErrNone},
		// The drop would be enough for a greater resistance.
		{1, most + 1, most, impl.ErrNone}, {1, impl.MaxSquare, most, impl.ErrNone}, {4, 50000, most, impl.ErrNone},
		{flow, impl.MaxSquare, most, impl.ErrNone},
		{flow, 900000000, 1, impl.ErrNone}, {flow, mostDrop, most, impl.ErrNone}, {flow, mostDrop - 1, most - 1, impl.ErrNone},
		{flow, mostDrop + 1, most, impl.ErrNone},
		{flow - 1, mostDrop, most, impl.ErrNone}, {flow - 1, 899940000999, most - 1, impl.ErrNone},
		{flow - 1, 899940000, 0, impl.ErrNotFound}, {flow - 1, 899940001, 1, impl.ErrNone},
	}
	for _, c := range cases {
		got, code := impl.BestResistance(c.flow, c.drop)
		wantNumber(t, fmt.Sprintf("BestResistance(%d, %d)", c.flow, c.drop), got, code, c.want, c.code)
	}
}

// TestBestResistancesByTrial tries all resistances, the greatest one first.
func TestBestResistancesByTrial(t *testing.T) {
	r := rand.New(rand.NewSource(57))
	counts := map[int64]int{}
	for range 3000 {
		flow := min(r.Int63n(1<<uint(1+r.Intn(15))), impl.MaxFlow)
		drop := r.Int63n(flow*flow*[]int64{1, 3, 30, 1200}[r.Intn(4)] + 1)
		if r.Intn(3) == 0 {
			// Right at a resistance, one less, and one more.
			drop = max(flow*flow*(1+r.Int63n(impl.MaxResistance))+r.Int63n(3)-1, 0)
		}
		var want, wantCode int64 = impl.MaxResistance, impl.ErrNone
		for want > 0 && want*flow*flow > drop {
			want--
		}
		if want == 0 {
			wantCode = impl.ErrNotFound
		}
		got, code := impl.BestResistance(flow, drop)
		wantNumber(t, fmt.Sprintf("BestResistance(%d, %d)", flow, drop), got, code, want, wantCode)
		counts[min(got, 1)+got/impl.MaxResistance]++
	}
	if counts[0] < 300 || counts[1] < 1000 || counts[2] < 100 {
		t.Errorf("only %v resistances have been tried", counts)
	}
}

// listWithCode is a list of resistances, and its error.
type listWithCode struct {
	list []int64
	code int64
}

// listsWithCodes are lists that are right, and lists with each error, also of both.
func listsWithCodes() []listWithCode {
	const most, size = impl.MaxResistance, impl.MaxParallel
	lists := []listWithCode{
		{[]int64{1}, impl.ErrNone}, {[]int64{most}, impl.ErrNone}, {[]int64{1, most, 7}, impl.ErrNone},
		{repeated(size, 1), impl.ErrNone}, {repeated(size, most), impl.ErrNone}, {nil, impl.ErrLimit}, {[]int64{}, impl.ErrLimit},
	}
	for _, length := range []int{size + 1, size + 2, 2 * size, 100000} {
		for _, k := range []int64{1, most, 0, most + 1, math.MinInt64} {
			lists = append(lists, listWithCode{repeated(length, k), impl.ErrLimit})
		}
	}
	for _, k := range noResistances {
		lists = append(lists, listWithCode{[]int64{k}, impl.ErrRange}, listWithCode{repeated(size, k), impl.ErrRange})
		for i := range size {
			list := repeated(size, 3)
			list[i] = k
			lists = append(lists, listWithCode{list, impl.ErrRange}, listWithCode{list[:i+1], impl.ErrRange})
		}
	}
	return lists
}

// TestErrorsOfResistancesInOrder takes all combinations of lists and numbers that are right and wrong.
func TestErrorsOfResistancesInOrder(t *testing.T) {
	drops := append([]int64{0, 1, impl.MaxSquare}, noDrops...)
	flows := append([]int64{0, 1, impl.MaxFlow}, noAmounts...)
	for _, c := range listsWithCodes() {
		wrong := failure{c.code != impl.ErrNone, c.code}
		got, code := impl.SeriesOf(c.list)
		wantCode(t, "SeriesOf", withoutZero(got), code, firstFailure(wrong))
		for i, drop := range drops {
			want := firstFailure(wrong, failure{i > 2, impl.ErrRange})
			got, code := impl.ParallelFlow(c.list, drop)
			wantCode(t, "ParallelFlow", withoutZero(got), code, want)
		}
		for i, flow := range flows {
			want := firstFailure(wrong, failure{i > 2, impl.ErrRange})
			got, code := impl.DropFor(c.list, flow)
			wantCode(t, "DropFor", withoutZero(got), code, want)
			parts, code := impl.SplitFlow(c.list, flow)
			wantCode(t, "SplitFlow", parts, code, want)
		}
	}
}

func TestErrorsOfSingleResistances(t *testing.T) {
	drops := append([]int64{0, 1, impl.MaxSquare}, noDrops...)
	for i, drop := range drops {
		for _, k := range []int64{1, 2, impl.MaxResistance} {
			got, code := impl.FlowFor(k, drop)
			wantCode(t, "FlowFor", withoutZero(got), code, firstFailure(failure{i > 2, impl.ErrRange}))
		}
		for _, k := range noResistances {
			got, code := impl.FlowFor(k, drop)
			wantNumber(t, "FlowFor", got, code, 0, impl.ErrRange)
		}
		for k, flow := range append([]int64{0, 1, impl.MaxFlow}, noAmounts...) {
			outside, none := failure{i > 2 || k > 2, impl.ErrRange}, failure{drop < flow*flow, impl.ErrNotFound}
			got, code := impl.BestResistance(flow, drop)
			wantCode(t, "BestResistance", withoutZero(got), code, firstFailure(outside, none))
		}
	}
}

// resultsOfResistances are all results of chapter 9 for a list, each as a list of lists.
func resultsOfResistances(list []int64) map[string]func() ([][]int64, int64) {
	number := func(x, code int64) ([][]int64, int64) { return [][]int64{{x}}, code }
	split := func(flow int64) ([][]int64, int64) {
		parts, code := impl.SplitFlow(list, flow)
		return [][]int64{parts}, code
	}
	return map[string]func() ([][]int64, int64){
		"SeriesOf":             func() ([][]int64, int64) { return number(impl.SeriesOf(list)) },
		"ParallelFlow":         func() ([][]int64, int64) { return number(impl.ParallelFlow(list, 5000)) },
		"DropFor":              func() ([][]int64, int64) { return number(impl.DropFor(list, 100)) },
		"SplitFlow":            func() ([][]int64, int64) { return split(100) },
		"SplitFlow of nothing": func() ([][]int64, int64) { return split(0) },
		"SplitFlow of all":     func() ([][]int64, int64) { return split(impl.MaxFlow) },
	}
}

func TestResistancesAreLeftAlone(t *testing.T) {
	for size := 1; size <= impl.MaxParallel; size++ {
		memory := []int64{9, 4, 1, 1000, 3, 2, 500, 7, 6, 5}
		wantLeftAlone(t, impl.Network{}, [][]int64{memory}, resultsOfResistances(memory[:size]))
	}
	// The resistances are not in order, and one wrong number is among them.
	memory := []int64{9, 4, 0, 1, 77}
	for range 2 {
		impl.SeriesOf(memory[:4])
		impl.ParallelFlow(memory[:4], 5)
		impl.DropFor(memory[:4], 5)
		impl.SplitFlow(memory[:4], 5)
	}
	if !slices.Equal(memory, []int64{9, 4, 0, 1, 77}) {
		t.Errorf("a list that is wrong is now %v", memory)
	}
}

func TestPartsOfFlowsAreNewMemory(t *testing.T) {
	wantNewMemory(t, resultsOfResistances([]int64{9, 4, 1, 1000}))
	// The parts are equal to the resistances, and have to stay when these change.
	list := []int64{1, 1, 1}
	parts, code := impl.SplitFlow(list, 3)
	list[0], list[2] = -7, -7
	wantList(t, "SplitFlow", parts, code, []int64{1, 1, 1}, impl.ErrNone)
	parts[1] = -7
	if list[1] != 1 {
		t.Error("a change of the parts has changed the resistances")
	}
}
