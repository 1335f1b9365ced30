package tests

import (
	"math"
	"math/big"
	"math/rand"
	"regexp"
	"slices"
	"strings"
	"testing"

	"loop.example/g00852/impl"
)

// tooLarge are numbers of which each is, with either sign, outside of -MaxSquare..MaxSquare.
var tooLarge = []int64{impl.MaxSquare + 1, 2 * impl.MaxSquare, math.MaxInt64 - 1, math.MaxInt64}

// noDivisors are numbers outside of 1..MaxFactor.
var noDivisors = []int64{0, -1, -2, -impl.MaxFactor, impl.MaxFactor + 1, math.MinInt64, math.MaxInt64}

// noFactors are numbers outside of -MaxFactor..MaxFactor.
var noFactors = []int64{
	impl.MaxFactor + 1, -impl.MaxFactor - 1, impl.MaxSquare, -impl.MaxSquare, math.MinInt64, math.MaxInt64,
}

func someDividends(r *rand.Rand) []int64 {
	list := []int64{0, 1, 2, 3, 7, 999, impl.MaxFactor - 1, impl.MaxFactor, impl.MaxFactor + 1, impl.MaxSquare - 1, impl.MaxSquare}
	for range 200 {
		list = append(list, r.Int63n(1<<uint(1+r.Intn(59))), r.Int63n(impl.MaxSquare+1))
	}
	for _, a := range slices.Clone(list) {
		list = append(list, -a)
	}
	return list
}

func someDivisors(r *rand.Rand) []int64 {
	list := []int64{1, 2, 3, 4, 10, 1000, 999999999, impl.MaxFactor}
	for range 40 {
		list = append(list, 1+r.Int63n(1<<uint(1+r.Intn(29))), 1+r.Int63n(impl.MaxFactor))
	}
	return list
}

func someFactors(r *rand.Rand) []int64 {
	list := []int64{0, 1, 2, 3, 5, 1000, 999999999, impl.MaxFactor}
	for range 30 {
		list = append(list, r.Int63n(1<<uint(1+r.Intn(29))), r.Int63n(impl.MaxFactor+1))
	}
	for _, a := range slices.Clone(list) {
		list = append(list, -a)
	}
	return list
}

// floorOf divides mathematical integers; big.Int.Div rounds down for a positive divisor.
func floorOf(a *big.Int, b int64) int64 {
	return new(big.Int).Div(a, big.NewInt(b)).Int64()
}

func wantNumber(t *testing.T, call string, got, code, want, wantCode int64) {
	t.Helper()
	if got != want || code != wantCode {
		t.Errorf("%s returned %d and the code %d, not %d and %d", call, got, code, want, wantCode)
	}
}

func TestErrorCodesAndLimits(t *testing.T) {
	codes := []int64{
		impl.ErrNone, impl.ErrInvalid, impl.ErrRange, impl.ErrLimit,
		impl.ErrNotFound, impl.ErrState, impl.ErrSyntax, impl.ErrInfeasible,
	}
	if !slices.Equal(codes, []int64{0, 1, 2, 3, 4, 5, 6, 7}) {
		t.Errorf("the error codes are %v", codes)
	}
	limits := []int64{impl.MaxFactor, impl.MaxSquare, impl.MaxWeights}
	if !slices.Equal(limits, []int64{1000000000, 1000000000000000000, 64}) {
		t.Errorf("the limits are %v", limits)
	}
}

func TestFloorDivRoundsDown(t *testing.T) {
	cases := []struct{ a, b, want int64 }{
		{0, 1, 0}, {0, impl.MaxFactor, 0}, {7, 2, 3}, {-7, 2, -4}, {6, 3, 2}, {-6, 3, -2},
		{1, impl.MaxFactor, 0}, {-1, impl.MaxFactor, -1}, {-1, 1, -1}, {-1, 2, -1},
		{impl.MaxSquare, 1, impl.MaxSquare}, {-impl.MaxSquare, 1, -impl.MaxSquare},
		{impl.MaxSquare, impl.MaxFactor, impl.MaxFactor}, {-impl.MaxSquare, impl.MaxFactor, -impl.MaxFactor},
		{impl.MaxSquare - 1, impl.MaxFactor, 999999999}, {1 - impl.MaxSquare, impl.MaxFactor, -impl.MaxFactor},
		{impl.MaxSquare, 3, 333333333333333333}, {-impl.MaxSquare, 3, -333333333333333334},
	}
	for _, c := range cases {
		got, code := impl.FloorDiv(c.a, c.b)
		wantNumber(t, "FloorDiv", got, code, c.want, impl.ErrNone)
	}
}

func TestNearestDivRoundsTheMiddleUp(t *testing.T) {
	cases := []struct{ a, b, want int64 }{
		{0, 1, 0}, {1, 2, 1}, {3, 2, 2}, {-1, 2, 0}, {-3, 2, -1}, {-5, 2, -2},
		{4, 10, 0}, {5, 10, 1}, {6, 10, 1}, {-4, 10, 0}, {-5, 10, 0}, {-6, 10, -1}, {-15, 10, -1}, {-16, 10, -2},
		{1, 3, 0}, {2, 3, 1}, {-1, 3, 0}, {-2, 3, -1}, {-4, 3, -1}, {-5, 3, -2}, {7, 1, 7}, {-7, 1, -7},
		{499999999, impl.MaxFactor, 0}, {500000000, impl.MaxFactor, 1}, {-500000000, impl.MaxFactor, 0}, {-500000001, impl.MaxFactor, -1},
		{impl.MaxSquare, 1, impl.MaxSquare}, {-impl.MaxSquare, 1, -impl.MaxSquare},
		{impl.MaxSquare, impl.MaxFactor, impl.MaxFactor}, {-impl.MaxSquare, impl.MaxFactor, -impl.MaxFactor},
		{impl.MaxSquare - 1, 2, impl.MaxSquare / 2}, {1 - impl.MaxSquare, 2, 1 - impl.MaxSquare/2},
	}
	for _, c := range cases {
		got, code := impl.NearestDiv(c.a, c.b)
		wantNumber(t, "NearestDiv", got, code, c.want, impl.ErrNone)
	}
}

func TestQuotientsKeepTheirBounds(t *testing.T) {
	r := rand.New(rand.NewSource(1))
	divisors := someDivisors(r)
	for _, a := range someDividends(r) {
		for _, b := range divisors {
			down, code := impl.FloorDiv(a, b)
			if rest := a - down*b; code != impl.ErrNone || rest < 0 || rest >= b {
				t.Fatalf("FloorDiv(%d, %d) returned %d and the code %d", a, b, down, code)
			}
			near, code := impl.NearestDiv(a, b)
			if rest := 2 * (a - near*b); code != impl.ErrNone || rest < -b || rest >= b {
				t.Fatalf("NearestDiv(%d, %d) returned %d and the code %d", a, b, near, code)
			}
		}
	}
}

func TestQuotientsRejectNumbersOutOfRange(t *testing.T) {
	functions := map[string]func(int64, int64) (int64, int64){"FloorDiv": impl.FloorDiv, "NearestDiv": impl.NearestDiv}
	for name, divide := range functions {
		for _, a := range append(slices.Clone(tooLarge), math.MinInt64) {
			for _, b := range []int64{1, 2, impl.MaxFactor, 0} {
				got, code := divide(a, b)
				wantNumber(t, name, got, code, 0, impl.ErrRange)
				got, code = divide(-a, b)
				wantNumber(t, name, got, code, 0, impl.ErrRange)
			}
		}
		for _, b := range noDivisors {
			for _, a := range []int64{0, 1, -1, impl.MaxSquare, -impl.MaxSquare} {
				got, code := divide(a, b)
				wantNumber(t, name, got, code, 0, impl.ErrRange)
			}
		}
	}
}

func TestMulDivRoundsDown(t *testing.T) {
	cases := []struct{ a, b, c, want int64 }{
		{0, 0, 1, 0}, {7, 3, 4, 5}, {-7, 3, 4, -6}, {7, -3, 4, -6}, {-7, -3, 4, 5}, {2, 2, 4, 1}, {-2, 2, 4, -1},
		{-1, 1, impl.MaxFactor, -1}, {1, 1, impl.MaxFactor, 0},
		{impl.MaxFactor, impl.MaxFactor, 1, impl.MaxSquare}, {-impl.MaxFactor, impl.MaxFactor, 1, -impl.MaxSquare},
		{-impl.MaxFactor, -impl.MaxFactor, impl.MaxFactor, impl.MaxFactor},
		{impl.MaxFactor, -impl.MaxFactor, 7, -142857142857142858},
	}
	for _, c := range cases {
		got, code := impl.MulDiv(c.a, c.b, c.c)
		wantNumber(t, "MulDiv", got, code, c.want, impl.ErrNone)
	}
}

func TestMulDivIsExact(t *testing.T) {
	r := rand.New(rand.NewSource(2))
	factors, divisors := someFactors(r), someDivisors(r)
	for _, a := range factors {
		for _, b := range factors {
			product := new(big.Int).Mul(big.NewInt(a), big.NewInt(b))
			c := divisors[r.Intn(len(divisors))]
			got, code := impl.MulDiv(a, b, c)
			wantNumber(t, "MulDiv", got, code, floorOf(product, c), impl.ErrNone)
		}
	}
}

func TestMulDivRejectsNumbersOutOfRange(t *testing.T) {
	for _, x := range noFactors {
		for _, y := range []int64{0, 1, -impl.MaxFactor} {
			got, code := impl.MulDiv(x, y, 1)
			wantNumber(t, "MulDiv", got, code, 0, impl.ErrRange)
			got, code = impl.MulDiv(y, x, impl.MaxFactor)
			wantNumber(t, "MulDiv", got, code, 0, impl.ErrRange)
		}
	}
	for _, c := range noDivisors {
		got, code := impl.MulDiv(6, -3, c)
		wantNumber(t, "MulDiv", got, code, 0, impl.ErrRange)
	}
}

func TestRootOfIsTheGreatestRoot(t *testing.T) {
	roots := []int64{1, 2, 3, 4, 5, 10, 1000, 31622, 31623, 46340, 46341, 94906266, 999999998, 999999999, impl.MaxFactor}
	r := rand.New(rand.NewSource(3))
	for range 2000 {
		roots = append(roots, 1+r.Int63n(impl.MaxFactor))
	}
	for _, root := range roots {
		square := root * root
		got, code := impl.RootOf(square)
		wantNumber(t, "RootOf a square", got, code, root, impl.ErrNone)
		got, code = impl.RootOf(square - 1)
		wantNumber(t, "RootOf one less than a square", got, code, root-1, impl.ErrNone)
		if root < impl.MaxFactor {
			got, code = impl.RootOf(square + 2*root)
			wantNumber(t, "RootOf one less than the next square", got, code, root, impl.ErrNone)
		}
	}
	for n := range int64(5000) {
		root, code := impl.RootOf(n)
		if code != impl.ErrNone || root < 0 || root*root > n || (root+1)*(root+1) <= n {
			t.Fatalf("RootOf(%d) returned %d and the code %d", n, root, code)
		}
	}
}

func TestSignedSquareKeepsTheSign(t *testing.T) {
	cases := []struct{ q, want int64 }{
		{0, 0}, {1, 1}, {-1, -1}, {5, 25}, {-5, -25}, {30000, 900000000}, {-30000, -900000000},
		{impl.MaxFactor, impl.MaxSquare}, {-impl.MaxFactor, -impl.MaxSquare},
		{999999999, 999999998000000001}, {-999999999, -999999998000000001},
	}
	for _, c := range cases {
		got, code := impl.SignedSquare(c.q)
		wantNumber(t, "SignedSquare", got, code, c.want, impl.ErrNone)
	}
}

func TestSignedRootRoundsTowardZero(t *testing.T) {
	cases := []struct{ x, want int64 }{
		{0, 0}, {1, 1}, {-1, -1}, {3, 1}, {-3, -1}, {24, 4}, {25, 5}, {26, 5}, {-24, -4}, {-25, -5}, {-26, -5},
		{impl.MaxSquare, impl.MaxFactor}, {-impl.MaxSquare, -impl.MaxFactor},
		{impl.MaxSquare - 1, 999999999}, {1 - impl.MaxSquare, -999999999},
	}
	for _, c := range cases {
		got, code := impl.SignedRoot(c.x)
		wantNumber(t, "SignedRoot", got, code, c.want, impl.ErrNone)
	}
}

func TestSignedRootUndoesSignedSquare(t *testing.T) {
	for _, q := range someFactors(rand.New(rand.NewSource(4))) {
		square, code := impl.SignedSquare(q)
		if code != impl.ErrNone {
			t.Fatalf("SignedSquare(%d) returned the code %d", q, code)
		}
		got, code := impl.SignedRoot(square)
		wantNumber(t, "SignedRoot of SignedSquare", got, code, q, impl.ErrNone)
	}
}

func TestRootsAndSquaresRejectNumbersOutOfRange(t *testing.T) {
	for _, n := range append([]int64{-1, -2, -impl.MaxSquare, math.MinInt64}, tooLarge...) {
		got, code := impl.RootOf(n)
		wantNumber(t, "RootOf", got, code, 0, impl.ErrRange)
	}
	for _, q := range noFactors {
		got, code := impl.SignedSquare(q)
		wantNumber(t, "SignedSquare", got, code, 0, impl.ErrRange)
	}
	for _, x := range append([]int64{math.MinInt64}, tooLarge...) {
		got, code := impl.SignedRoot(x)
		wantNumber(t, "SignedRoot", got, code, 0, impl.ErrRange)
		got, code = impl.SignedRoot(-x)
		wantNumber(t, "SignedRoot", got, code, 0, impl.ErrRange)
	}
}

func repeated(n int, w int64) []int64 {
	return slices.Repeat([]int64{w}, n)
}

func TestSharesOfOrdinaryTotals(t *testing.T) {
	cases := []struct {
		total         int64
		weights, want []int64
	}{
		{10, []int64{1, 1, 1}, []int64{4, 3, 3}},
		{11, []int64{1, 1, 1}, []int64{4, 4, 3}},
		{7, []int64{0, 3, 1}, []int64{0, 5, 2}},
		{0, []int64{0, 3, 1}, []int64{0, 0, 0}},
		{5, []int64{9}, []int64{5}},
		{1, []int64{0, 0, 1}, []int64{0, 0, 1}},
		{1, []int64{2, 3}, []int64{0, 1}},
		{1, []int64{2, 2, 2}, []int64{1, 0, 0}},
		// Equal remainders, first of all elements and then of those behind a smaller one.
		{2, []int64{1, 1, 1, 1}, []int64{1, 1, 0, 0}},
		{2, []int64{1, 3, 3, 3}, []int64{0, 1, 1, 0}},
		{3, []int64{1, 0, 1, 0}, []int64{2, 0, 1, 0}},
		// The greatest remainder is not that of the greatest weight.
		{3, []int64{5, 3, 2}, []int64{1, 1, 1}},
		{impl.MaxFactor, []int64{impl.MaxFactor, 0}, []int64{impl.MaxFactor, 0}},
		{impl.MaxFactor, []int64{impl.MaxFactor, 1}, []int64{999999999, 1}},
		{impl.MaxFactor, repeated(3, impl.MaxFactor), []int64{333333334, 333333333, 333333333}},
		{impl.MaxFactor, repeated(impl.MaxWeights, impl.MaxFactor), repeated(impl.MaxWeights, 15625000)},
		{63, repeated(impl.MaxWeights, 1), append(repeated(63, 1), 0)},
	}
	for _, c := range cases {
		got, code := impl.SharesOf(c.total, c.weights)
		if code != impl.ErrNone || !slices.Equal(got, c.want) {
			t.Errorf("SharesOf(%d, %v) returned %v and the code %d, not %v", c.total, c.weights, got, code, c.want)
		}
	}
}

// sharesByDefinition gives out the units that are left one by one.
func sharesByDefinition(total int64, weights []int64) []int64 {
	whole := new(big.Int)
	for _, w := range weights {
		whole.Add(whole, big.NewInt(w))
	}
	shares, remainders := make([]int64, len(weights)), make([]*big.Int, len(weights))
	left := total
	for i, w := range weights {
		product := new(big.Int).Mul(big.NewInt(total), big.NewInt(w))
		quotient, remainder := new(big.Int).DivMod(product, whole, new(big.Int))
		shares[i], remainders[i] = quotient.Int64(), remainder
		left -= shares[i]
	}
	for ; left > 0; left-- {
		best := 0
		for i := range remainders {
			if remainders[i].Cmp(remainders[best]) > 0 {
				best = i
			}
		}
		shares[best]++
		remainders[best] = big.NewInt(-1)
	}
	return shares
}

func someWeights(r *rand.Rand) []int64 {
	top := []int64{1, 2, 3, 10, 1000, impl.MaxFactor}[r.Intn(6)]
	weights := make([]int64, 1+r.Intn(impl.MaxWeights))
	for i := range weights {
		weights[i] = r.Int63n(top + 1)
	}
	weights[r.Intn(len(weights))] = top
	return weights
}

// checkExactShares checks promise 1: the sum, and for each share the distance from total * w / s.
func checkExactShares(t *testing.T, total int64, weights, shares []int64) {
	t.Helper()
	var whole, given int64
	for i := range weights {
		whole += weights[i]
		given += shares[i]
	}
	if given != total {
		t.Fatalf("the shares %v of %d for %v add up to %d", shares, total, weights, given)
	}
	for i, w := range weights {
		exact := new(big.Int).Mul(big.NewInt(total), big.NewInt(w))
		scaled := new(big.Int).Mul(big.NewInt(shares[i]), big.NewInt(whole))
		if scaled.Sub(scaled, exact).CmpAbs(big.NewInt(whole)) >= 0 {
			t.Fatalf("share %d of %v of %d for %v is not within 1 of the exact one", i, shares, total, weights)
		}
	}
}

func TestSharesAddUpAndAreClose(t *testing.T) {
	r := rand.New(rand.NewSource(5))
	for range 3000 {
		weights := someWeights(r)
		total := r.Int63n([]int64{1, 10, 100, 10000, impl.MaxFactor}[r.Intn(5)] + 1)
		shares, code := impl.SharesOf(total, weights)
		if code != impl.ErrNone || len(shares) != len(weights) {
			t.Fatalf("SharesOf(%d, %v) returned %v and the code %d", total, weights, shares, code)
		}
		checkExactShares(t, total, weights, shares)
		if want := sharesByDefinition(total, weights); !slices.Equal(shares, want) {
			t.Fatalf("SharesOf(%d, %v) returned %v, not %v", total, weights, shares, want)
		}
	}
}

func TestSharesOfErrorsAndTheirOrder(t *testing.T) {
	tooMany := repeated(impl.MaxWeights+1, 1)
	cases := []struct {
		total   int64
		weights []int64
		want    int64
	}{
		{1, nil, impl.ErrLimit},
		{1, []int64{}, impl.ErrLimit},
		{-1, nil, impl.ErrLimit},
		{1, tooMany, impl.ErrLimit},
		{impl.MaxFactor + 1, tooMany, impl.ErrLimit},
		{1, append(slices.Clone(tooMany), -1), impl.ErrLimit},
		{1, repeated(impl.MaxWeights+1, 0), impl.ErrLimit},
		{-1, []int64{1}, impl.ErrRange},
		{impl.MaxFactor + 1, []int64{1}, impl.ErrRange},
		{math.MinInt64, []int64{1}, impl.ErrRange},
		{math.MaxInt64, []int64{1}, impl.ErrRange},
		{1, []int64{1, -1}, impl.ErrRange},
		{1, []int64{impl.MaxFactor + 1, 1}, impl.ErrRange},
		{1, []int64{1, math.MinInt64}, impl.ErrRange},
		{1, []int64{math.MaxInt64, 1}, impl.ErrRange},
		{-1, []int64{0, 0}, impl.ErrRange},
		{0, []int64{0, 0, -1}, impl.ErrRange},
		{1, []int64{0}, impl.ErrState},
		{0, []int64{0, 0}, impl.ErrState},
		{impl.MaxFactor, repeated(impl.MaxWeights, 0), impl.ErrState},
	}
	for _, c := range cases {
		got, code := impl.SharesOf(c.total, c.weights)
		if len(got) != 0 || code != c.want {
			t.Errorf("SharesOf(%d, %v) returned %v and the code %d, not the code %d", c.total, c.weights, got, code, c.want)
		}
	}
}

func TestSharesOfLeavesItsArgumentAlone(t *testing.T) {
	memory := []int64{3, 1, 2, 77, 78}
	shares, _ := impl.SharesOf(100, memory[:3])
	if !slices.Equal(memory, []int64{3, 1, 2, 77, 78}) {
		t.Errorf("SharesOf changed its argument, or what lies behind it, to %v", memory)
	}
	if !slices.Equal(shares, []int64{50, 17, 33}) {
		t.Fatalf("SharesOf returned %v", shares)
	}
	shares[0] = 0
	again, _ := impl.SharesOf(100, memory[:3])
	if memory[0] != 3 || !slices.Equal(again, []int64{50, 17, 33}) {
		t.Errorf("the result shares memory: the argument is %v, and the next result %v", memory, again)
	}
}

func TestThousandthsAndTheirTexts(t *testing.T) {
	cases := []struct {
		n    int64
		text string
	}{
		{0, "0.000"}, {1, "0.001"}, {-1, "-0.001"}, {50, "0.050"}, {-50, "-0.050"}, {100, "0.100"}, {-100, "-0.100"},
		{999, "0.999"}, {-999, "-0.999"}, {1000, "1.000"}, {-1000, "-1.000"}, {1001, "1.001"}, {-1001, "-1.001"},
		{1999, "1.999"}, {12345, "12.345"}, {-12345, "-12.345"}, {1000000, "1000.000"}, {10203040, "10203.040"},
		{impl.MaxSquare, "1000000000000000.000"}, {-impl.MaxSquare, "-1000000000000000.000"},
		{impl.MaxSquare - 1, "999999999999999.999"}, {1 - impl.MaxSquare, "-999999999999999.999"},
	}
	for _, c := range cases {
		if got := impl.ThousandthsText(c.n); got != c.text {
			t.Errorf("ThousandthsText(%d) returned %q, not %q", c.n, got, c.text)
		}
		if got, ok := impl.ReadThousandths(c.text); !ok || got != c.n {
			t.Errorf("ReadThousandths(%q) returned %d and %v, not %d", c.text, got, ok, c.n)
		}
	}
}

func TestThousandthsTextRejectsNumbersOutOfRange(t *testing.T) {
	for _, n := range append([]int64{math.MinInt64}, tooLarge...) {
		if got, minus := impl.ThousandthsText(n), impl.ThousandthsText(-n); got != "" || minus != "" {
			t.Errorf("ThousandthsText of %d, with either sign, returned %q and %q", n, got, minus)
		}
	}
}

func TestThousandthsAreRecoveredFromTheirTexts(t *testing.T) {
	numbers := someDividends(rand.New(rand.NewSource(6)))
	for n := int64(-3000); n <= 3000; n++ {
		numbers = append(numbers, n)
	}
	for _, n := range slices.Compact(slices.Sorted(slices.Values(numbers))) {
		text := impl.ThousandthsText(n)
		if got, ok := impl.ReadThousandths(text); !ok || got != n {
			t.Fatalf("%d has the text %q, and ReadThousandths returned %d and %v", n, text, got, ok)
		}
	}
}

func TestReadThousandthsRejectsOtherTexts(t *testing.T) {
	texts := []string{
		"", "0", "1", "-", ".", "-.", "x", "1000", "-0.000", "+0.000", "+1.000", "--1.000", "1-.000", "1.-000", "-1.-00",
		"0.00", "0.0000", "0.", ".000", ".050", "-.050", "1.5", "1.50", "1.5000", "1.0005",
		"00.000", "01.000", "-01.000", "00.050", "0001.000", "1.000.000", "1..000", "1.0.00", "1,000",
		" 1.000", "1.000 ", "1. 000", "1.000\n", "\n1.000", "1.000\x00", "1.0a0", "a.000", "0x1.000", "1_0.000", "1.0_0",
		"1e3.000", "1.0e3", "NaN", "Inf", "\xff1.000", "\u0661.000", "1.00\u0660", "\u22121.000",
		// Beyond the range: by one, by the wraparound of 64 bits, and by far.
		"1000000000000000.001", "-1000000000000000.001", "1000000000000001.000", "-1000000000000001.000",
		"9223372036854775.807", "9223372036854775.808", "-9223372036854775.808", "-9223372036854775.809",
		"18446744073709551.615", "18446744073709551.616", "18446744073709551.617", "18446744073709552.616",
		"1" + strings.Repeat("0", 100) + ".000", strings.Repeat("0", 100) + "1.000", "1." + strings.Repeat("0", 100),
	}
	for _, s := range texts {
		if got, ok := impl.ReadThousandths(s); ok || got != 0 {
			t.Errorf("ReadThousandths(%q) returned %d and %v", s, got, ok)
		}
	}
}

// TestReadThousandthsOfAllShortTexts compares with the grammar, for all texts of up to seven of a few bytes.
func TestReadThousandthsOfAllShortTexts(t *testing.T) {
	grammar := regexp.MustCompile(`^-?(0|[1-9][0-9]*)\.[0-9]{3}$`)
	texts := []string{""}
	for len(texts) > 0 {
		s := texts[len(texts)-1]
		texts = texts[:len(texts)-1]
		want := grammar.MatchString(s) && s != "-0.000"
		got, ok := impl.ReadThousandths(s)
		if ok != want || !ok && got != 0 || ok && impl.ThousandthsText(got) != s {
			t.Fatalf("ReadThousandths(%q) returned %d and %v", s, got, ok)
		}
		for _, b := range []string{"-", "+", ".", "0", "1", "9"} {
			if len(s) < 7 {
				texts = append(texts, s+b)
			}
		}
	}
}
