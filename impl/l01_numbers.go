package impl

import (
	"cmp"
	"slices"
	"strconv"
	"strings"
)

// The error codes that all chapters share.
const (
	ErrNone = iota
	ErrInvalid
	ErrRange
	ErrLimit
	ErrNotFound
	ErrState
	ErrSyntax
	ErrInfeasible
)

// The limits of chapter 1.
const (
	MaxFactor  = 1000000000
	MaxSquare  = 1000000000000000000
	MaxWeights = 64
)

// FloorDiv returns a / b, rounded down, and ErrNone. It returns 0 and ErrRange if a is not in
// -MaxSquare..MaxSquare or b is not in 1..MaxFactor.
func FloorDiv(a int64, b int64) (int64, int64) {
	if !inRange(a, -MaxSquare, MaxSquare) || !inRange(b, 1, MaxFactor) {
		return 0, ErrRange
	}
	return floorQuotient(a, b), ErrNone
}

// NearestDiv returns a / b, rounded to the nearest integer, and up if it lies in the middle, and
// ErrNone. Errors as for FloorDiv.
func NearestDiv(a int64, b int64) (int64, int64) {
	if !inRange(a, -MaxSquare, MaxSquare) || !inRange(b, 1, MaxFactor) {
		return 0, ErrRange
	}
	// Adding a half before rounding down sends the middle up; doubling keeps the half an integer.
	return floorQuotient(2*a+b, 2*b), ErrNone
}

// MulDiv returns a * b / c, rounded down, and ErrNone. It returns 0 and ErrRange if a or b is not
// a factor, or c is not in 1..MaxFactor.
func MulDiv(a int64, b int64, c int64) (int64, int64) {
	if !isFactor(a) || !isFactor(b) || !inRange(c, 1, MaxFactor) {
		return 0, ErrRange
	}
	return floorQuotient(a*b, c), ErrNone
}

// RootOf returns the greatest integer whose square is at most n, and ErrNone. It returns 0 and
// ErrRange if n is not in 0..MaxSquare.
func RootOf(n int64) (int64, int64) {
	if !inRange(n, 0, MaxSquare) {
		return 0, ErrRange
	}
	low, high := int64(0), minimum(n, MaxFactor)
	for low < high {
		// Rounded up, so that the interval shrinks even if it holds only two numbers.
		middle := (low + high + 1) / 2
		if middle*middle <= n {
			low = middle
		} else {
			high = middle - 1
		}
	}
	return low, ErrNone
}

// SignedSquare returns q times its absolute value, and ErrNone. It returns 0 and ErrRange if q is
// not a factor.
func SignedSquare(q int64) (int64, int64) {
	if !isFactor(q) {
		return 0, ErrRange
	}
	return q * absolute(q), ErrNone
}

// SignedRoot returns RootOf x if x is not negative, and otherwise minus RootOf -x, and ErrNone.
// It returns 0 and ErrRange if x is not in -MaxSquare..MaxSquare.
func SignedRoot(x int64) (int64, int64) {
	if !inRange(x, -MaxSquare, MaxSquare) {
		return 0, ErrRange
	}
	root, code := RootOf(absolute(x))
	if x < 0 {
		root = -root
	}
	return root, code
}

// SharesOf returns the shares of a total, and ErrNone.
//
// Errors, in this order: ErrLimit if there are no weights or more than MaxWeights; ErrRange if
// total is not in 0..MaxFactor or a weight not in 0..MaxFactor; ErrState if all weights are 0.
func SharesOf(total int64, weights []int64) ([]int64, int64) {
	if code := checkShares(total, weights); code != ErrNone {
		return nil, code
	}
	whole := sum(weights)
	shares := make([]int64, len(weights))
	remainders := make([]int64, len(weights))
	for i, w := range weights {
		shares[i] = total * w / whole
		remainders[i] = total * w % whole
	}
	left := total - sum(shares)
	for _, i := range byRemainder(remainders)[:left] {
		shares[i]++
	}
	return shares, ErrNone
}

// ThousandthsText returns the text of a number of thousandths. It returns "" if n is not in
// -MaxSquare..MaxSquare.
func ThousandthsText(n int64) string {
	if !inRange(n, -MaxSquare, MaxSquare) {
		return ""
	}
	sign := ""
	if n < 0 {
		sign = "-"
	}
	size := absolute(n)
	// The 1 in front keeps the zeros of the fraction, and is cut off again.
	fraction := strconv.FormatInt(1000+size%1000, 10)[1:]
	return sign + strconv.FormatInt(size/1000, 10) + "." + fraction
}

// ReadThousandths returns the number of thousandths with the text s, and true, or 0 and false if
// there is none.
func ReadThousandths(s string) (int64, bool) {
	whole, fraction, _ := strings.Cut(s, ".")
	n, err := strconv.ParseInt(whole+fraction, 10, 64)
	// ParseInt reads more than the texts of numbers; only a text that comes back is one of them.
	if err != nil || ThousandthsText(n) != s {
		return 0, false
	}
	return n, true
}

type integer interface {
	~int | ~int64
}

func minimum[T integer](a, b T) T {
	if b < a {
		return b
	}
	return a
}

func sum[T integer](values []T) T {
	var total T
	for _, v := range values {
		total += v
	}
	return total
}

func inRange(x, low, high int64) bool {
	return low <= x && x <= high
}

func areInRange(low, high int64, values ...int64) bool {
	for _, x := range values {
		if !inRange(x, low, high) {
			return false
		}
	}
	return true
}

func isFactor(x int64) bool {
	return inRange(x, -MaxFactor, MaxFactor)
}

func absolute(x int64) int64 {
	if x < 0 {
		return -x
	}
	return x
}

// floorQuotient expects a positive b.
func floorQuotient(a, b int64) int64 {
	q := a / b
	if a%b < 0 {
		// Go rounds toward zero, which is up for negative numbers.
		q--
	}
	return q
}

func checkShares(total int64, weights []int64) int64 {
	if len(weights) == 0 || len(weights) > MaxWeights {
		return ErrLimit
	}
	if !inRange(total, 0, MaxFactor) || !areInRange(0, MaxFactor, weights...) {
		return ErrRange
	}
	if sum(weights) == 0 {
		return ErrState
	}
	return ErrNone
}

// byRemainder returns the indices of the remainders, the greatest remainder first.
func byRemainder(remainders []int64) []int {
	order := make([]int, len(remainders))
	for i := range order {
		order[i] = i
	}
	// Stable, so that the smaller of two indices with equal remainders comes first.
	slices.SortStableFunc(order, func(i, j int) int {
		return cmp.Compare(remainders[j], remainders[i])
	})
	return order
}
