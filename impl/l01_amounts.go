package impl

import (
	"cmp"
	"math/bits"
	"slices"
	"strconv"
)

// Error codes of all chapters.
const (
	ErrNone = iota
	ErrInvalid
	ErrRange
	ErrLimit
	ErrNotFound
	ErrState
	ErrSyntax
)

// Limits of chapter 1.
const (
	MaxValue  = 1000000000000
	MaxAmount = 1000000000
	MaxParts  = 12
)

// IsAmount reports whether n is an amount.
func IsAmount(n int64) bool { return n >= 0 && n <= MaxAmount }

// ShareOut returns the parts of an amount that is shared out, and ErrNone. Errors, in this order:
// ErrRange if total or a weight is no amount, or there are more than MaxParts weights; ErrState
// if all weights are 0, or there are none.
func ShareOut(total int64, weights []int64) ([]int64, int64) {
	if code := checkShares(total, weights); code != ErrNone {
		return nil, code
	}
	parts, rests := roundedShares(total, weights)
	left := total - sumOf(parts)
	for _, i := range byGreatestRest(rests)[:left] {
		parts[i]++
	}
	return parts, ErrNone
}

// IsFairShare reports whether there are as many parts as weights, their sum is the total, and
// each one differs by less than 1 from total * w / sum, and returns ErrNone. Errors: those of
// ShareOut; ErrRange, first, also if a part is no amount.
func IsFairShare(total int64, weights []int64, parts []int64) (bool, int64) {
	if !areAmounts(parts) {
		return false, ErrRange
	}
	if code := checkShares(total, weights); code != ErrNone {
		return false, code
	}
	if len(parts) != len(weights) || sumOf(parts) != total {
		return false, ErrNone
	}
	downs, rests := roundedShares(total, weights)
	for i, part := range parts {
		// An exact share without a rest leaves no room above it: one more would differ by 1.
		up := part == downs[i]+1 && rests[i] > 0
		if part != downs[i] && !up {
			return false, ErrNone
		}
	}
	return true, ErrNone
}

// ProportionOf returns the nearest integer to amount * num / den, and ErrNone. Errors, in this
// order: ErrRange if one of the three is no amount; ErrState if den is 0; ErrLimit if the result
// is no amount.
func ProportionOf(amount int64, num int64, den int64) (int64, int64) {
	if !areAmounts([]int64{amount, num, den}) {
		return 0, ErrRange
	}
	if den == 0 {
		return 0, ErrState
	}
	return nearestAmount(amount, num, den)
}

// SumAmounts returns the sum of amounts, and ErrNone. Errors: ErrRange if one is no amount;
// ErrLimit if the sum is none.
func SumAmounts(list []int64) (int64, int64) {
	if !areAmounts(list) {
		return 0, ErrRange
	}
	sum := sumOf(list)
	if !IsAmount(sum) {
		return 0, ErrLimit
	}
	return sum, ErrNone
}

// AmountText returns the units of a value in decimal, a dot, and two digits for the hundredths,
// with a minus sign before it if n is negative, and ErrNone. Errors: ErrRange if n is no value.
func AmountText(n int64) (string, int64) {
	if n < -MaxValue || n > MaxValue {
		return "", ErrRange
	}
	sign := ""
	if n < 0 {
		// The units of -5 are 0, which has no sign of its own.
		sign, n = "-", -n
	}
	return sign + strconv.FormatInt(n/100, 10) + "." + twoDigits(n%100), ErrNone
}

// ReadAmount returns the value with the AmountText s, and ErrNone. It returns 0 and ErrSyntax if
// there is none.
func ReadAmount(s string) (int64, int64) {
	dot := len(s) - 3
	if dot < 0 {
		return 0, ErrSyntax
	}
	n, err := strconv.ParseInt(s[:dot]+s[dot+1:], 10, 64)
	if err != nil {
		return 0, ErrSyntax
	}
	// Writing n again rejects all that ParseInt lets pass: zeros in front, signs, any byte as the
	// dot. A number that is no value is written as the empty text, which s is not.
	if text, _ := AmountText(n); text != s {
		return 0, ErrSyntax
	}
	return n, ErrNone
}

// TakeDown returns how much of an amount each of a list of amounts gets if they are paid in
// order, each one in full as long as the amount lasts, and ErrNone. Errors: ErrRange if the
// amount or one of the list is no amount, or the list has more than MaxParts elements.
func TakeDown(amount int64, parts []int64) ([]int64, int64) {
	if !IsAmount(amount) || len(parts) > MaxParts || !areAmounts(parts) {
		return nil, ErrRange
	}
	paid := make([]int64, len(parts))
	for i, part := range parts {
		paid[i] = leastOf(amount, part)
		amount -= paid[i]
	}
	return paid, ErrNone
}

// integer lets sums be taken of the defined types of later layers too.
type integer interface {
	~int | ~int64
}

func sumOf[T integer](list []T) T {
	var sum T
	for _, n := range list {
		sum += n
	}
	return sum
}

func leastOf[T cmp.Ordered](first, second T) T {
	if second < first {
		return second
	}
	return first
}

// nearestAmount returns the nearest integer to amount * num / den, and ErrNone, or ErrLimit if that
// is no amount. Only the product may be greater than int64 allows: no number is negative, den is not
// 0, and amount and den can be doubled.
func nearestAmount(amount, num, den int64) (int64, int64) {
	// Doubled, so that the half that is added stays an integer.
	double := 2 * uint64(den)
	high, low := bits.Mul64(2*uint64(amount), uint64(num))
	low, carry := bits.Add64(low, uint64(den), 0)
	high += carry
	if high >= double {
		// Div64 would panic, because its result would not fit into 64 bits.
		return 0, ErrLimit
	}
	result, _ := bits.Div64(high, low, double)
	if result > MaxAmount {
		return 0, ErrLimit
	}
	return int64(result), ErrNone
}

// twoDigits writes a number from 0 to 99.
func twoDigits(n int64) string { return strconv.FormatInt(100+n, 10)[1:] }

func areAmounts(list []int64) bool {
	for _, n := range list {
		if !IsAmount(n) {
			return false
		}
	}
	return true
}

func checkShares(total int64, weights []int64) int64 {
	if !IsAmount(total) || len(weights) > MaxParts || !areAmounts(weights) {
		return ErrRange
	}
	if sumOf(weights) == 0 {
		return ErrState
	}
	return ErrNone
}

// roundedShares returns the shares rounded down, and the remainders that this leaves.
func roundedShares(total int64, weights []int64) (downs, rests []int64) {
	sum := sumOf(weights)
	downs = make([]int64, len(weights))
	rests = make([]int64, len(weights))
	for i, weight := range weights {
		downs[i] = total * weight / sum
		rests[i] = total * weight % sum
	}
	return downs, rests
}

// byGreatestRest returns the indices of rests; the sort is stable because the first ones of equal
// remainders come first.
func byGreatestRest(rests []int64) []int {
	order := make([]int, len(rests))
	for i := range order {
		order[i] = i
	}
	slices.SortStableFunc(order, func(a, b int) int { return cmp.Compare(rests[b], rests[a]) })
	return order
}
