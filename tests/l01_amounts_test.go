package tests

import (
	"fmt"
	"math"
	"math/big"
	"math/rand/v2"
	"slices"
	"testing"

	"loop.example/g01010/impl"
)

// The constants fit into every integer type as long as they are untyped, as the chapter lists them.
const (
	_ int8    = impl.ErrSyntax
	_ uint64  = impl.MaxValue
	_ float64 = impl.MaxAmount
)

func TestConstantsOfAmounts(t *testing.T) {
	codes := []int64{impl.ErrNone, impl.ErrInvalid, impl.ErrRange, impl.ErrLimit, impl.ErrNotFound, impl.ErrState, impl.ErrSyntax}
	for i, code := range codes {
		if code != int64(i) {
			t.Errorf("error code %d has the value %d", i, code)
		}
	}
	if impl.MaxValue != 1000000000000 || impl.MaxAmount != 1000000000 || impl.MaxParts != 12 {
		t.Error("a limit has another value")
	}
}

func TestIsAmount(t *testing.T) {
	for _, n := range []int64{0, 1, 205, impl.MaxAmount - 1, impl.MaxAmount} {
		if !impl.IsAmount(n) {
			t.Errorf("%d is an amount", n)
		}
	}
	for _, n := range notAmounts {
		if impl.IsAmount(n) {
			t.Errorf("%d is no amount", n)
		}
	}
}

func TestShareOut(t *testing.T) {
	const most = impl.MaxAmount
	for _, c := range []struct {
		total   int64
		weights []int64
		want    []int64
	}{
		{100, []int64{1, 1, 1}, []int64{34, 33, 33}},
		{101, []int64{1, 1, 1}, []int64{34, 34, 33}},
		{102, []int64{1, 1, 1}, []int64{34, 34, 34}},
		{0, []int64{3, 0, 5}, []int64{0, 0, 0}},
		{7, []int64{5}, []int64{7}},
		{most, []int64{most}, []int64{most}},
		{1, []int64{0, 1}, []int64{0, 1}},
		// Remainders 1, 2 and 3 of 6: the last weight is first.
		{1, []int64{1, 2, 3}, []int64{0, 0, 1}},
		{10, []int64{1, 2, 4}, []int64{1, 3, 6}},
		// Remainders 2, 6, 2, 6 and 0 of 8: the first two with 6 get one each.
		{2, []int64{1, 3, 1, 3, 0}, []int64{0, 1, 0, 1, 0}},
		{1, []int64{1, 3, 1, 3, 0}, []int64{0, 1, 0, 0, 0}},
		{3, []int64{0, 2, 0, 2}, []int64{0, 2, 0, 1}},
		{5, repeated(1, 12), []int64{1, 1, 1, 1, 1, 0, 0, 0, 0, 0, 0, 0}},
		{most, repeated(most, 12), append(repeated(83333334, 4), repeated(83333333, 8)...)},
		{most, []int64{most, 1}, []int64{999999999, 1}},
		{most - 1, []int64{1, most, most}, []int64{1, 499999999, 499999999}},
	} {
		got, code := impl.ShareOut(c.total, c.weights)
		wantInts(t, fmt.Sprint("ShareOut ", c.total, c.weights), got, code, c.want, impl.ErrNone)
	}
}

// badShares are the totals and weights that are errors, with their codes.
func badShares() []shareCase {
	cases := []shareCase{
		{0, nil, impl.ErrState},
		{5, []int64{}, impl.ErrState},
		{5, []int64{0}, impl.ErrState},
		{5, repeated(0, impl.MaxParts), impl.ErrState},
		{5, repeated(0, impl.MaxParts+1), impl.ErrRange},
		{5, repeated(1, impl.MaxParts+1), impl.ErrRange},
		{5, repeated(1, 100000), impl.ErrRange},
	}
	for _, n := range notAmounts {
		cases = append(cases,
			shareCase{n, []int64{1, 2}, impl.ErrRange},
			shareCase{n, []int64{0, 0}, impl.ErrRange},
			shareCase{n, nil, impl.ErrRange},
			shareCase{5, []int64{n}, impl.ErrRange},
			shareCase{5, []int64{0, 0, n}, impl.ErrRange},
			shareCase{5, []int64{1, n, 1}, impl.ErrRange})
	}
	return cases
}

type shareCase struct {
	total   int64
	weights []int64
	code    int64
}

func TestShareOutErrors(t *testing.T) {
	for _, c := range badShares() {
		got, code := impl.ShareOut(c.total, c.weights)
		wantInts(t, fmt.Sprintf("ShareOut %d of %d weights", c.total, len(c.weights)), got, code, nil, c.code)
	}
}

// TestSharesAddUp is promise 2.
func TestSharesAddUp(t *testing.T) {
	for total := range int64(14) {
		for n := range int64(5 * 5 * 5 * 5) {
			checkShareOut(t, total, []int64{n % 5, n / 5 % 5, n / 25 % 5, n / 125})
		}
	}
	random := fixedRandom()
	for range 20000 {
		checkShareOut(t, anyAmount(random), anyAmounts(random, 1+random.IntN(impl.MaxParts)))
		// Small weights have many equal remainders.
		small := anyAmounts(random, 1+random.IntN(impl.MaxParts))
		for i := range small {
			small[i] %= 4
		}
		checkShareOut(t, random.Int64N(40), small)
	}
}

// anyAmount returns a small amount, one near the limit, or any other one, each as often.
func anyAmount(random *rand.Rand) int64 {
	switch random.IntN(3) {
	case 0:
		return random.Int64N(4)
	case 1:
		return impl.MaxAmount - random.Int64N(4)
	}
	return random.Int64N(impl.MaxAmount + 1)
}

func anyAmounts(random *rand.Rand, count int) []int64 {
	list := make([]int64, count)
	for i := range list {
		list[i] = anyAmount(random)
	}
	return list
}

func checkShareOut(t *testing.T, total int64, weights []int64) {
	t.Helper()
	sum := int64(0)
	for _, w := range weights {
		sum += w
	}
	parts, code := impl.ShareOut(total, weights)
	if sum == 0 {
		wantInts(t, fmt.Sprint("ShareOut ", total, weights), parts, code, nil, impl.ErrState)
		return
	}
	wantInts(t, fmt.Sprint("ShareOut ", total, weights), parts, code, shares(total, weights, sum), impl.ErrNone)
	given := int64(0)
	for _, p := range parts {
		given += p
	}
	if given != total {
		t.Fatalf("ShareOut %d %v: the parts %v add up to %d", total, weights, parts, given)
	}
	if fair, code := impl.IsFairShare(total, weights, parts); !fair || code != impl.ErrNone {
		t.Fatalf("IsFairShare %d %v %v: got %t, code %d", total, weights, parts, fair, code)
	}
}

// shares follows the words of the chapter, in integers without limits.
func shares(total int64, weights []int64, sum int64) []int64 {
	parts := make([]int64, len(weights))
	rests := make([]*big.Int, len(weights))
	left := total
	for i, w := range weights {
		product := new(big.Int).Mul(big.NewInt(total), big.NewInt(w))
		part, rest := new(big.Int).QuoRem(product, big.NewInt(sum), new(big.Int))
		parts[i], rests[i] = part.Int64(), rest
		left -= parts[i]
	}
	for ; left > 0; left-- {
		best := 0
		for i, rest := range rests {
			if rest.Cmp(rests[best]) > 0 {
				best = i
			}
		}
		parts[best]++
		rests[best] = big.NewInt(-1)
	}
	return parts
}

func TestIsFairShare(t *testing.T) {
	const most = impl.MaxAmount
	for _, c := range []struct {
		total   int64
		weights []int64
		parts   []int64
		want    bool
	}{
		{100, []int64{1, 1, 1}, []int64{34, 33, 33}, true},
		{100, []int64{1, 1, 1}, []int64{33, 34, 33}, true},
		{100, []int64{1, 1, 1}, []int64{33, 33, 34}, true},
		{100, []int64{1, 1, 1}, []int64{33, 33, 33}, false},
		{100, []int64{1, 1, 1}, []int64{34, 34, 33}, false},
		{100, []int64{1, 1, 1}, []int64{35, 33, 32}, false},
		{100, []int64{1, 1, 1}, []int64{34, 34, 32}, false},
		{101, []int64{1, 1, 1}, []int64{35, 33, 33}, false},
		{100, []int64{1, 1, 1}, []int64{34, 33}, false},
		{67, []int64{1, 1, 1}, []int64{34, 33}, false},
		{100, []int64{1, 1, 1}, []int64{34, 33, 33, 0}, false},
		{100, []int64{1, 1, 1}, nil, false},
		{0, []int64{1, 1, 1}, nil, false},
		{0, []int64{1, 0}, []int64{0, 0}, true},
		// A part that differs by exactly 1 is not fair, upwards and downwards.
		{4, []int64{1, 1}, []int64{2, 2}, true},
		{4, []int64{1, 1}, []int64{3, 1}, false},
		{4, []int64{1, 1}, []int64{1, 3}, false},
		{1, []int64{1, 0}, []int64{0, 1}, false},
		{2, []int64{1, 1, 0}, []int64{1, 0, 1}, false},
		// 3/8 and 5/8 differ by less than 1 from 0 and from 1, whichever is nearer.
		{1, []int64{3, 5}, []int64{1, 0}, true},
		{1, []int64{3, 5}, []int64{0, 1}, true},
		{5, []int64{3, 5}, []int64{3, 2}, false},
		{5, []int64{3, 5}, []int64{0, 5}, false},
		{most, repeated(most, 12), append(repeated(83333333, 8), repeated(83333334, 4)...), true},
		{most, repeated(most, 12), append([]int64{most}, repeated(0, 11)...), false},
		{most, []int64{0, most}, []int64{0, most}, true},
		{most, []int64{0, most}, []int64{most, 0}, false},
		{most, []int64{most}, []int64{most - 1}, false},
		{5, []int64{1}, repeated(0, 100000), false},
		{0, []int64{1}, repeated(most, 13), false},
	} {
		if got, code := impl.IsFairShare(c.total, c.weights, c.parts); got != c.want || code != impl.ErrNone {
			t.Errorf("IsFairShare %d %v of %d parts: got %t, code %d; want %t", c.total, c.weights, len(c.parts), got, code, c.want)
		}
	}
}

func TestIsFairShareErrors(t *testing.T) {
	want := func(c shareCase, parts []int64, code int64) {
		t.Helper()
		if got, was := impl.IsFairShare(c.total, c.weights, parts); got || was != code {
			t.Errorf("IsFairShare %d of %d weights, %d parts: got %t, code %d; want code %d", c.total, len(c.weights), len(parts), got, was, code)
		}
	}
	for _, c := range badShares() {
		want(c, nil, c.code)
		want(c, repeated(0, len(c.weights)), c.code)
		want(c, repeated(1, impl.MaxParts+1), c.code)
		want(c, []int64{5, -1}, impl.ErrRange)
	}
	for _, n := range notAmounts {
		want(shareCase{total: 5, weights: []int64{1, 1}}, []int64{n, 2}, impl.ErrRange)
		want(shareCase{total: 5, weights: []int64{1, 1}}, []int64{2, 3, n}, impl.ErrRange)
		want(shareCase{total: 5, weights: []int64{1, 1}}, []int64{n}, impl.ErrRange)
		want(shareCase{total: 5, weights: []int64{1, 1}}, append(repeated(0, 100000), n), impl.ErrRange)
	}
}

// TestFairSharesByTheirDefinition tries all lists of small parts.
func TestFairSharesByTheirDefinition(t *testing.T) {
	for n := range int64(7 * 4 * 4 * 4 * 5 * 5 * 5) {
		total := n % 7
		weights := []int64{n / 7 % 4, n / 28 % 4, n / 112 % 4}
		parts := []int64{n / 448 % 5, n / 2240 % 5, n / 11200}
		if weights[0]+weights[1]+weights[2] == 0 {
			continue
		}
		got, code := impl.IsFairShare(total, weights, parts)
		if want := isFair(total, weights, parts); got != want || code != impl.ErrNone {
			t.Fatalf("IsFairShare %d %v %v: got %t, code %d; want %t", total, weights, parts, got, code, want)
		}
	}
}

func isFair(total int64, weights, parts []int64) bool {
	sum := weights[0] + weights[1] + weights[2]
	for i, p := range parts {
		if gap := p*sum - total*weights[i]; gap >= sum || gap <= -sum {
			return false
		}
	}
	return parts[0]+parts[1]+parts[2] == total
}

func TestProportionOf(t *testing.T) {
	const most = impl.MaxAmount
	for _, c := range []struct{ amount, num, den, want, code int64 }{
		{5, 1, 2, 3, impl.ErrNone},
		{0, 1, 2, 0, impl.ErrNone},
		{5, 0, 2, 0, impl.ErrNone},
		{1, 1, 3, 0, impl.ErrNone},
		{2, 1, 3, 1, impl.ErrNone},
		{4, 1, 3, 1, impl.ErrNone},
		{5, 1, 3, 2, impl.ErrNone},
		{1, 1, 2, 1, impl.ErrNone},
		{100, 3333, 10000, 33, impl.ErrNone},
		{most, most, most, most, impl.ErrNone},
		{most, 1, 1, most, impl.ErrNone},
		{1, most, 1, most, impl.ErrNone},
		{1, 1, most, 0, impl.ErrNone},
		{most / 2, 1, most, 1, impl.ErrNone},
		{most/2 - 1, 1, most, 0, impl.ErrNone},
		{most, most - 1, most, most - 1, impl.ErrNone},
		{most, most, 1, 0, impl.ErrLimit},
		{most, most, most - 1, 0, impl.ErrLimit},
		{most / 2, 2, 1, most, impl.ErrNone},
		{most/2 + 1, 2, 1, 0, impl.ErrLimit},
		// The exact result is just below, and at, a half above the greatest amount.
		{2*most/3 + 1, 3, 2, 0, impl.ErrLimit},
		{most - 1, 3 * most / 4, 3*most/4 - 1, most, impl.ErrNone},
		{0, 0, 0, 0, impl.ErrState},
		{most, most, 0, 0, impl.ErrState},
	} {
		got, code := impl.ProportionOf(c.amount, c.num, c.den)
		wantInt(t, fmt.Sprint("ProportionOf ", c.amount, c.num, c.den), got, code, c.want, c.code)
	}
	for _, n := range notAmounts {
		for _, c := range [][3]int64{{n, 1, 1}, {1, n, 1}, {1, 1, n}, {n, 1, 0}, {1, n, 0}, {n, n, n}, {most, most, n}} {
			got, code := impl.ProportionOf(c[0], c[1], c[2])
			wantInt(t, fmt.Sprint("ProportionOf ", c), got, code, 0, impl.ErrRange)
		}
	}
}

func TestProportionsAreNearest(t *testing.T) {
	random := fixedRandom()
	for range 50000 {
		amount, num, den := anyAmount(random), anyAmount(random), max(1, anyAmount(random))
		got, code := impl.ProportionOf(amount, num, den)
		twice := new(big.Int).Mul(big.NewInt(2*amount), big.NewInt(num))
		want := new(big.Int).Quo(twice.Add(twice, big.NewInt(den)), big.NewInt(2*den)).Int64()
		if want > impl.MaxAmount {
			wantInt(t, fmt.Sprint("ProportionOf ", amount, num, den), got, code, 0, impl.ErrLimit)
		} else {
			wantInt(t, fmt.Sprint("ProportionOf ", amount, num, den), got, code, want, impl.ErrNone)
		}
	}
}

func TestSumAmounts(t *testing.T) {
	const most = impl.MaxAmount
	for _, c := range []struct {
		list       []int64
		want, code int64
	}{
		{nil, 0, impl.ErrNone},
		{[]int64{}, 0, impl.ErrNone},
		{[]int64{0, 0}, 0, impl.ErrNone},
		{[]int64{2, 3}, 5, impl.ErrNone},
		{[]int64{most}, most, impl.ErrNone},
		{[]int64{most - 1, 0, 1}, most, impl.ErrNone},
		{[]int64{most, 1}, 0, impl.ErrLimit},
		{[]int64{most, most, most}, 0, impl.ErrLimit},
		{repeated(1, 100000), 100000, impl.ErrNone},
		{repeated(most, 100000), 0, impl.ErrLimit},
		{[]int64{most, most, -1}, 0, impl.ErrRange},
		{[]int64{most, most, most + 1}, 0, impl.ErrRange},
		{[]int64{5, -5}, 0, impl.ErrRange},
		{[]int64{math.MaxInt64, math.MaxInt64, 2}, 0, impl.ErrRange},
	} {
		got, code := impl.SumAmounts(c.list)
		wantInt(t, fmt.Sprintf("SumAmounts of %d", len(c.list)), got, code, c.want, c.code)
	}
	for _, n := range notAmounts {
		for _, list := range [][]int64{{n}, {1, n}, {n, 1}, {n, n}} {
			got, code := impl.SumAmounts(list)
			wantInt(t, fmt.Sprint("SumAmounts ", list), got, code, 0, impl.ErrRange)
		}
	}
}

func TestTakeDown(t *testing.T) {
	const most = impl.MaxAmount
	for _, c := range []struct {
		amount int64
		parts  []int64
		want   []int64
	}{
		{10, []int64{4, 8}, []int64{4, 6}},
		{10, []int64{8, 4}, []int64{8, 2}},
		{12, []int64{4, 8}, []int64{4, 8}},
		{13, []int64{4, 8}, []int64{4, 8}},
		{4, []int64{4, 8}, []int64{4, 0}},
		{5, []int64{4, 8}, []int64{4, 1}},
		{3, []int64{4, 8}, []int64{3, 0}},
		{0, []int64{4, 0}, []int64{0, 0}},
		{10, []int64{0, 4, 0, 9, 3}, []int64{0, 4, 0, 6, 0}},
		{10, nil, nil},
		{0, []int64{}, nil},
		{most, repeated(most, 12), append([]int64{most}, repeated(0, 11)...)},
		{11, repeated(1, 12), append(repeated(1, 11), 0)},
	} {
		got, code := impl.TakeDown(c.amount, c.parts)
		wantInts(t, fmt.Sprint("TakeDown ", c.amount, c.parts), got, code, c.want, impl.ErrNone)
	}
	bad := []shareCase{{total: 5, weights: repeated(0, 13)}, {total: 5, weights: repeated(1, 100000)}}
	for _, n := range notAmounts {
		bad = append(bad, shareCase{total: n}, shareCase{total: n, weights: []int64{1}},
			shareCase{total: 5, weights: []int64{n}}, shareCase{total: 0, weights: []int64{1, 0, n}})
	}
	for _, c := range bad {
		got, code := impl.TakeDown(c.total, c.weights)
		wantInts(t, fmt.Sprintf("TakeDown %d of %d", c.total, len(c.weights)), got, code, nil, impl.ErrRange)
	}
}

func TestAmountText(t *testing.T) {
	for _, c := range []struct {
		n    int64
		want string
	}{
		{0, "0.00"},
		{1, "0.01"},
		{-1, "-0.01"},
		{9, "0.09"},
		{10, "0.10"},
		{99, "0.99"},
		{-99, "-0.99"},
		{100, "1.00"},
		{-100, "-1.00"},
		{-205, "-2.05"},
		{12345, "123.45"},
		{impl.MaxAmount, "10000000.00"},
		{impl.MaxValue - 1, "9999999999.99"},
		{impl.MaxValue, "10000000000.00"},
		{-impl.MaxValue, "-10000000000.00"},
	} {
		if got, code := impl.AmountText(c.n); got != c.want || code != impl.ErrNone {
			t.Errorf("AmountText %d: got %q, code %d; want %q", c.n, got, code, c.want)
		}
	}
	for _, n := range []int64{impl.MaxValue + 1, -impl.MaxValue - 1, math.MaxInt64, math.MinInt64, math.MinInt64 + 1} {
		if got, code := impl.AmountText(n); got != "" || code != impl.ErrRange {
			t.Errorf("AmountText %d: got %q, code %d; want an empty text, code %d", n, got, code, impl.ErrRange)
		}
	}
}

// TestAmountsAreRecovered is promise 1 for amounts, and for all values.
func TestAmountsAreRecovered(t *testing.T) {
	check := func(n int64) {
		t.Helper()
		text, code := impl.AmountText(n)
		if code != impl.ErrNone {
			t.Fatalf("AmountText %d: code %d", n, code)
		}
		got, code := impl.ReadAmount(text)
		wantInt(t, "ReadAmount "+text, got, code, n, impl.ErrNone)
	}
	for n := int64(-20000); n <= 20000; n++ {
		check(n)
	}
	for n := range int64(300) {
		check(impl.MaxValue - n)
		check(n - impl.MaxValue)
		check(impl.MaxAmount - n)
	}
	random := fixedRandom()
	for range 50000 {
		check(random.Int64N(2*impl.MaxValue+1) - impl.MaxValue)
		check(anyAmount(random))
	}
}

func TestReadAmountErrors(t *testing.T) {
	for _, s := range []string{
		"", ".", "-", "0", "00", "05", "000", "205", "2.5", "2.", "2", ".05", "-.05", ".00", "2.050", "2.005",
		"02.05", "00.00", "-02.05", "-0.00", "+2.05", "+0.00", "--2.05", "-+2.05", "2,05", "2:05", "2..05", "2.0.5",
		"2.05 ", " 2.05", "2.05\n", "\n2.05", "2.05\x00", "\x002.05", "2 .05", "2. 5", "2.-5", "2.+5", "2.5-", "- 2.05",
		"2.05-", "2.0a", "a.00", "1e2.00", "0x1.00", "0b1.00", "1_0.00", "1_000.00", "1,000.00", "Inf", "NaN", "0.0\xff", "\xff.00",
		"\u22122.05", "2\u00b705", "\u0662.05", "2.0\u0665", "\uff12.05",
		"10000000000.01", "-10000000000.01", "10000000001.00", "99999999999.99", "92233720368547758.07", "92233720368547758.08",
		"-92233720368547758.08", "-92233720368547758.09", "184467440737095516.16", "184467440737095518.21", "99999999999999999999999999.00",
		string(slices.Repeat([]byte("9"), 100000)), string(slices.Repeat([]byte("0"), 100000)) + "2.05",
	} {
		got, code := impl.ReadAmount(s)
		wantInt(t, fmt.Sprintf("ReadAmount %.40q", s), got, code, 0, impl.ErrSyntax)
	}
}

// TestReadAmountOfAllShortTexts compares with the texts of all values that have at most six bytes.
func TestReadAmountOfAllShortTexts(t *testing.T) {
	values := map[string]int64{}
	for n := int64(0); n <= 99999; n++ {
		text := fmt.Sprintf("%d.%02d", n/100, n%100)
		values[text] = n
		if n > 0 {
			values["-"+text] = -n
		}
	}
	texts := []string{""}
	for range 6 {
		longer := []string{""}
		for _, text := range texts {
			for _, letter := range "-+.01 _" {
				longer = append(longer, text+string(letter))
			}
		}
		texts = longer
	}
	for _, text := range texts {
		want, known := values[text]
		wantCode := int64(impl.ErrSyntax)
		if known {
			wantCode = impl.ErrNone
		}
		got, code := impl.ReadAmount(text)
		wantInt(t, fmt.Sprintf("ReadAmount %q", text), got, code, want, wantCode)
	}
}

func TestAmountsKeepTheirArguments(t *testing.T) {
	weights, weightsKept := inSpareRoom([]int64{3, 1, 2}, 71, 72, 73)
	parts, partsKept := inSpareRoom([]int64{5, 2, 3}, 71, 72, 73)
	shared, _ := impl.ShareOut(10, weights)
	impl.IsFairShare(10, weights, parts)
	impl.SumAmounts(weights)
	taken, _ := impl.TakeDown(4, weights)
	again, _ := impl.ShareOut(10, weights)
	wantInts(t, "ShareOut", shared, impl.ErrNone, []int64{5, 2, 3}, impl.ErrNone)
	wantInts(t, "TakeDown", taken, impl.ErrNone, []int64{3, 1, 0}, impl.ErrNone)
	for i := range shared {
		shared[i], taken[i] = -7, -8
	}
	if !weightsKept() || !partsKept() {
		t.Error("an argument, or the memory behind it, has changed")
	}
	wantInts(t, "ShareOut again", again, impl.ErrNone, []int64{5, 2, 3}, impl.ErrNone)
}
