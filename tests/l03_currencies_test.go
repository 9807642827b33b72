package tests

import (
	"fmt"
	"math"
	"math/big"
	"math/rand/v2"
	"slices"
	"strings"
	"testing"

	"loop.example/g01010/impl"
)

// The functions have the signatures that the chapter lists, and the constant is untyped.
var (
	_ func(string) bool                                              = impl.IsCode
	_ func([]impl.Rate) bool                                         = impl.IsTable
	_ func([]impl.Rate, string, int64) (int64, int64, int64)         = impl.RateOn
	_ func([]impl.Rate, string, string, int64, int64) (int64, int64) = impl.ConvertAmount
	_ func([]impl.Rate, impl.Rate) ([]impl.Rate, int64)              = impl.AddRate
	_ func([]impl.Rate) ([]string, int64)                            = impl.CurrenciesOf
	_ func([]impl.Rate, string, string, int64) (int64, int64, int64) = impl.CrossRate
	_ func([]impl.Rate, string) ([]int64, int64)                     = impl.DaysWithRate
	_ struct {
		Currency      string
		Day, Num, Den int64
	} = impl.Rate{}
)

const (
	_ int8    = impl.MaxRates
	_ float64 = impl.MaxRates
)

const mostTerm = 1000000

func rate(currency string, day, num, den int64) impl.Rate {
	return impl.Rate{Currency: currency, Day: day, Num: num, Den: den}
}

// sampleTable has currencies with one, two and three rates, some of them on the same days.
func sampleTable() []impl.Rate {
	return []impl.Rate{
		rate("CHF", 20000, 1, 1),
		rate("EUR", 0, 5, 4),
		rate("EUR", 100, 6, 4),
		rate("EUR", 20000, 7, 4),
		rate("JPY", 100, 1, 150),
		rate("USD", 100, 3, 4),
		rate("USD", greatestDay, 8, 12),
	}
}

// longTable has count rates of five currencies.
func longTable(count int) []impl.Rate {
	list := make([]impl.Rate, count)
	for i := range list {
		list[i] = rate([]string{"AAA", "AAB", "ABA", "BAA", "ZZZ"}[min(i/4, 4)], int64(10*i), int64(i+1), 7)
	}
	return list
}

// notCodes are texts that are the code of no currency.
var notCodes = []string{
	"", "X", "XD", "XDRX", "USDUSD", "usd", "Usd", "uSD", "usD", "US ", " US", "U D", "US1", "123", "U-D", "US.", "US\n", "\x00\x00\x00", "US\x00", "US\xff", "\xff\xff\xff",
	"@@@", "[[[", "US@", "US[", "@SD", "[SD", "U@D", "U[D", "\uff21", "\u00c9A", "A\u00c9", "\u0410\u0411\u0412", "\uff35\uff33\uff24", "\u20acU", strings.Repeat("USD", 100000),
}

// notTerms are integers that neither Num nor Den may be.
var notTerms = []int64{0, -1, mostTerm + 1, -mostTerm, 1<<32 + 1, 1 << 40, math.MinInt64, math.MinInt64 + 1, math.MaxInt64}

// notRates are rates that no table may have.
func notRates() []impl.Rate {
	list := []impl.Rate{{}, rate("XDR", 100, 1, 1), rate("XDR", 0, 3, 4), rate("XDR", greatestDay, mostTerm, 1)}
	for _, s := range notCodes {
		list = append(list, rate(s, 100, 3, 4))
	}
	for _, day := range notDays {
		list = append(list, rate("USD", day, 3, 4), rate("AAA", day, 3, 4), rate("ZZZ", day, 3, 4))
	}
	for _, n := range notTerms {
		list = append(list, rate("USD", 100, n, 4), rate("USD", 100, 3, n), rate("USD", 100, n, n))
	}
	return list
}

// notTables are lists that are no table.
func notTables() [][]impl.Rate {
	lists := [][]impl.Rate{longTable(impl.MaxRates + 1), longTable(100000), make([]impl.Rate, impl.MaxRates+1)}
	for i := range sampleTable() {
		twice := sampleTable()
		lists = append(lists, slices.Insert(twice, i, twice[i]))
		if i > 0 {
			swapped := sampleTable()
			swapped[i-1], swapped[i] = swapped[i], swapped[i-1]
			lists = append(lists, swapped)
		}
	}
	otherwise := sampleTable()
	slices.Reverse(otherwise)
	lists = append(lists, otherwise,
		[]impl.Rate{rate("USD", 5, 3, 4), rate("USD", 5, 1, 2)},
		[]impl.Rate{rate("USD", 5, 3, 4), rate("USD", 4, 3, 4)},
		[]impl.Rate{rate("USD", 5, 3, 4), rate("EUR", 6, 3, 4)},
		[]impl.Rate{rate("AAB", 5, 3, 4), rate("AAA", 6, 3, 4)},
		[]impl.Rate{rate("BAA", 5, 3, 4), rate("ABB", 6, 3, 4)},
		[]impl.Rate{rate("EUR", 5, 3, 4), rate("USD", 6, 3, 4), rate("EUR", 7, 3, 4)})
	for _, r := range notRates() {
		lists = append(lists, []impl.Rate{r},
			[]impl.Rate{rate("AAA", 50, 3, 4), r},
			[]impl.Rate{r, rate("ZZZ", 150, 3, 4)},
			[]impl.Rate{rate("AAA", 50, 3, 4), r, rate("ZZZ", 150, 3, 4)})
	}
	return lists
}

// shown writes the first rates of a list for a message, with codes quoted, and cut if they are long.
func shown(table []impl.Rate) string {
	first := fmt.Sprintf("%#v", table[:min(len(table), 9)])
	return fmt.Sprintf("%d rates %.400s", len(table), first)
}

// fraction is what RateOn and CrossRate return.
type fraction struct{ num, den, code int64 }

func wantFraction(t *testing.T, what string, num, den, code int64, want fraction) {
	t.Helper()
	if got := (fraction{num, den, code}); got != want {
		t.Errorf("%s: got %v; want %v", what, got, want)
	}
}

func TestIsCode(t *testing.T) {
	for _, s := range []string{"XDR", "USD", "EUR", "AAA", "ZZZ", "AZA", "ZAZ", "MNO"} {
		if !impl.IsCode(s) {
			t.Errorf("%q is a code", s)
		}
	}
	for _, s := range notCodes {
		if impl.IsCode(s) {
			t.Errorf("%.20q is no code", s)
		}
	}
}

// TestIsCodeOfAllBytes puts each byte at each place.
func TestIsCodeOfAllBytes(t *testing.T) {
	for n := range 256 {
		one := string([]byte{byte(n)})
		isLetter := one >= "A" && one <= "Z"
		for _, s := range []string{one + "BC", "A" + one + "C", "AB" + one, one + one + one} {
			if impl.IsCode(s) != isLetter {
				t.Errorf("IsCode %q: got %t", s, !isLetter)
			}
		}
		for _, s := range []string{one, one + one, "A" + one, one + "ABC", "ABC" + one, "A" + one + "BC"} {
			if impl.IsCode(s) {
				t.Errorf("%q is no code", s)
			}
		}
	}
}

func TestIsTable(t *testing.T) {
	for _, table := range [][]impl.Rate{
		nil,
		{},
		{rate("USD", 20000, 3, 4)},
		{rate("USD", 0, 1, 1)},
		{rate("USD", greatestDay, mostTerm, mostTerm)},
		{rate("AAA", 5, 1, mostTerm), rate("ZZZ", 4, mostTerm, 1)},
		{rate("USD", 5, 2, 4), rate("USD", 6, 2, 4)},
		{rate("XDQ", 5, 1, 1), rate("XDS", 5, 1, 1)},
		{rate("EUR", 5, 1, 2), rate("USD", 5, 1, 2)},
		{rate("EUR", greatestDay, 1, 2), rate("USD", 0, 1, 2)},
		{rate("AAB", 5, 1, 2), rate("ABA", 4, 1, 2), rate("BAA", 3, 1, 2)},
		sampleTable(),
		longTable(1),
		longTable(impl.MaxRates - 1),
		longTable(impl.MaxRates),
	} {
		if !impl.IsTable(table) {
			t.Errorf("%s is a table", shown(table))
		}
	}
	for _, list := range notTables() {
		if impl.IsTable(list) {
			t.Errorf("%s is no table", shown(list))
		}
	}
}

func TestRateOn(t *testing.T) {
	missing := fraction{0, 0, impl.ErrNotFound}
	for _, c := range []struct {
		currency string
		day      int64
		want     fraction
	}{
		{"CHF", 19999, missing},
		{"CHF", 20000, fraction{1, 1, impl.ErrNone}},
		{"CHF", 20001, fraction{1, 1, impl.ErrNone}},
		{"EUR", 0, fraction{5, 4, impl.ErrNone}},
		{"EUR", 99, fraction{5, 4, impl.ErrNone}},
		// The rate stays as it is written, not in lowest terms.
		{"EUR", 100, fraction{6, 4, impl.ErrNone}},
		{"EUR", 101, fraction{6, 4, impl.ErrNone}},
		{"EUR", 19999, fraction{6, 4, impl.ErrNone}},
		{"EUR", 20000, fraction{7, 4, impl.ErrNone}},
		{"EUR", greatestDay, fraction{7, 4, impl.ErrNone}},
		// Other currencies have rates on earlier days.
		{"JPY", 0, missing},
		{"JPY", 99, missing},
		{"JPY", 100, fraction{1, 150, impl.ErrNone}},
		{"JPY", greatestDay, fraction{1, 150, impl.ErrNone}},
		{"USD", 99, missing},
		{"USD", 100, fraction{3, 4, impl.ErrNone}},
		{"USD", greatestDay - 1, fraction{3, 4, impl.ErrNone}},
		{"USD", greatestDay, fraction{8, 12, impl.ErrNone}},
		{"XDR", 0, fraction{1, 1, impl.ErrNone}},
		{"XDR", 100, fraction{1, 1, impl.ErrNone}},
		{"XDR", greatestDay, fraction{1, 1, impl.ErrNone}},
		{"GBP", 20000, missing},
		{"AAA", greatestDay, missing},
		{"ZZZ", greatestDay, missing},
		{"XDS", greatestDay, missing},
	} {
		num, den, code := impl.RateOn(sampleTable(), c.currency, c.day)
		wantFraction(t, fmt.Sprint("RateOn ", c.currency, " ", c.day), num, den, code, c.want)
	}
	for _, day := range []int64{0, 1, 20000, greatestDay} {
		num, den, code := impl.RateOn(nil, "XDR", day)
		wantFraction(t, "RateOn in no table", num, den, code, fraction{1, 1, impl.ErrNone})
		num, den, code = impl.RateOn([]impl.Rate{}, "USD", day)
		wantFraction(t, "RateOn in an empty table", num, den, code, missing)
	}
}

// TestRateOnAllDays compares with a search from the end of the table, in tables of all lengths.
func TestRateOnAllDays(t *testing.T) {
	for count := range impl.MaxRates + 1 {
		table := longTable(count)
		for day := range int64(10*impl.MaxRates + 20) {
			for _, currency := range []string{"AAA", "AAB", "ABA", "BAA", "ZZZ", "XDR", "AAC"} {
				num, den, code := impl.RateOn(table, currency, day)
				wantFraction(t, fmt.Sprint("RateOn ", currency, " ", day), num, den, code, rateByHand(table, currency, day))
			}
		}
	}
}

func rateByHand(table []impl.Rate, currency string, day int64) fraction {
	if currency == "XDR" {
		return fraction{1, 1, impl.ErrNone}
	}
	for _, r := range slices.Backward(table) {
		if r.Currency == currency && r.Day <= day {
			return fraction{r.Num, r.Den, impl.ErrNone}
		}
	}
	return fraction{0, 0, impl.ErrNotFound}
}

// TestCodesAreToldApart has currencies whose letters differ in their order only, and by one letter.
func TestCodesAreToldApart(t *testing.T) {
	codes := []string{"AAA", "AAB", "ABA", "ABC", "ACB", "ADA", "AZA", "BAA", "BAC", "BAZ", "BCA", "CAB", "CBA", "YZZ", "ZAA", "ZYZ", "ZZA", "ZZY", "ZZZ"}
	table := []impl.Rate{}
	for i, s := range codes {
		table = append(table, rate(s, 10, int64(i+1), 1000))
	}
	letters := "ABCDXYZ"
	for n := range len(letters) * len(letters) * len(letters) {
		s := string([]byte{letters[n/49], letters[n/7%7], letters[n%7]})
		want := fraction{0, 0, impl.ErrNotFound}
		if i := slices.Index(codes, s); i >= 0 {
			want = fraction{int64(i + 1), 1000, impl.ErrNone}
		}
		num, den, code := impl.RateOn(table, s, 10)
		wantFraction(t, "RateOn "+s, num, den, code, want)
	}
}

func TestRateOnErrors(t *testing.T) {
	for _, list := range notTables() {
		for _, day := range []int64{-1, 100} {
			num, den, code := impl.RateOn(list, "XDR", day)
			wantFraction(t, "RateOn in "+shown(list), num, den, code, fraction{0, 0, impl.ErrInvalid})
		}
	}
	for _, table := range [][]impl.Rate{nil, sampleTable()} {
		for _, s := range notCodes {
			for _, day := range []int64{-1, 0, 20000} {
				num, den, code := impl.RateOn(table, s, day)
				wantFraction(t, fmt.Sprintf("RateOn %.20q", s), num, den, code, fraction{0, 0, impl.ErrInvalid})
			}
		}
		for _, day := range notDays {
			for _, s := range []string{"USD", "XDR", "GBP"} {
				num, den, code := impl.RateOn(table, s, day)
				wantFraction(t, fmt.Sprint("RateOn ", s, " ", day), num, den, code, fraction{0, 0, impl.ErrRange})
			}
		}
	}
}

func TestConvertAmount(t *testing.T) {
	const most = impl.MaxAmount
	for _, c := range []struct {
		from, to     string
		day          int64
		amount       int64
		want, wanted int64
	}{
		{"USD", "XDR", 100, 100, 75, impl.ErrNone},
		{"XDR", "USD", 100, 75, 100, impl.ErrNone},
		{"USD", "XDR", 99, 100, 0, impl.ErrNotFound},
		{"XDR", "USD", 99, 75, 0, impl.ErrNotFound},
		{"USD", "XDR", greatestDay, 100, 67, impl.ErrNone},
		{"USD", "XDR", 100, 0, 0, impl.ErrNone},
		// 3/4 and 9/4 are rounded to the nearest, 6/4 is a half.
		{"USD", "XDR", 100, 1, 1, impl.ErrNone},
		{"USD", "XDR", 100, 2, 2, impl.ErrNone},
		{"USD", "XDR", 100, 3, 2, impl.ErrNone},
		{"XDR", "USD", 100, 1, 1, impl.ErrNone},
		{"XDR", "USD", 100, 2, 3, impl.ErrNone},
		{"EUR", "USD", 100, 100, 200, impl.ErrNone},
		{"USD", "EUR", 100, 100, 50, impl.ErrNone},
		{"USD", "EUR", 100, 101, 51, impl.ErrNone},
		// Both rates are those of the day: 7/4 over 3/4, and 7/4 over 8/12.
		{"EUR", "USD", 20000, 100, 233, impl.ErrNone},
		{"EUR", "USD", greatestDay, 100, 263, impl.ErrNone},
		{"EUR", "USD", greatestDay, 4, 11, impl.ErrNone},
		{"EUR", "USD", greatestDay, 2, 5, impl.ErrNone},
		// The rounding is done once: by way of XDR, 1 of 1/150 would be 0.
		{"JPY", "USD", 100, 56, 0, impl.ErrNone},
		{"JPY", "USD", 100, 57, 1, impl.ErrNone},
		{"JPY", "EUR", 100, 113, 1, impl.ErrNone},
		{"JPY", "EUR", 100, 112, 0, impl.ErrNone},
		{"USD", "XDR", 100, most, most / 4 * 3, impl.ErrNone},
		{"EUR", "XDR", 100, most, 0, impl.ErrLimit},
		{"EUR", "XDR", 100, 666666666, 999999999, impl.ErrNone},
		{"EUR", "XDR", 100, 666666667, 0, impl.ErrLimit},
		{"XDR", "USD", 100, most / 4 * 3, most, impl.ErrNone},
		{"XDR", "USD", 100, most/4*3 + 1, 0, impl.ErrLimit},
		{"XDR", "XDR", 100, most, most, impl.ErrNone},
		{"XDR", "XDR", 0, 0, 0, impl.ErrNone},
		{"XDR", "JPY", 100, most / 150, most / 150 * 150, impl.ErrNone},
		{"XDR", "JPY", 100, most/150 + 1, 0, impl.ErrLimit},
		{"CHF", "USD", 99, 1, 0, impl.ErrNotFound},
		{"EUR", "GBP", 20000, 1, 0, impl.ErrNotFound},
		{"GBP", "EUR", 20000, 1, 0, impl.ErrNotFound},
		{"GBP", "GBP", 20000, 1, 0, impl.ErrNotFound},
		{"CHF", "CHF", 19999, 1, 0, impl.ErrNotFound},
	} {
		got, code := impl.ConvertAmount(sampleTable(), c.from, c.to, c.day, c.amount)
		wantInt(t, fmt.Sprint("ConvertAmount ", c.from, c.to, c.day, " ", c.amount), got, code, c.want, c.wanted)
	}
}

// extremeTable has the greatest and the least rates, and those beside them.
func extremeTable() []impl.Rate {
	return []impl.Rate{
		rate("AAA", 0, mostTerm, 1),
		rate("BBB", 0, 1, mostTerm),
		rate("CCC", 0, mostTerm, mostTerm-1),
		rate("DDD", 0, mostTerm-1, mostTerm),
		rate("EEE", 0, mostTerm, mostTerm),
		rate("FFF", 0, mostTerm-1, 1),
		rate("GGG", 0, 1, mostTerm-1),
		rate("HHH", 0, mostTerm-1, mostTerm-2),
		rate("III", 0, 2, 1),
		rate("JJJ", 0, 1, 2),
	}
}

func TestConvertAmountAtTheLimits(t *testing.T) {
	const most = impl.MaxAmount
	for _, c := range []struct {
		from, to             string
		amount, want, wanted int64
	}{
		{"AAA", "BBB", 0, 0, impl.ErrNone},
		{"AAA", "BBB", 1, 0, impl.ErrLimit},
		{"AAA", "BBB", most, 0, impl.ErrLimit},
		{"BBB", "AAA", most, 0, impl.ErrNone},
		{"AAA", "XDR", 1000, most, impl.ErrNone},
		{"AAA", "XDR", 1001, 0, impl.ErrLimit},
		{"BBB", "XDR", most, 1000, impl.ErrNone},
		{"BBB", "XDR", 500000, 1, impl.ErrNone},
		{"BBB", "XDR", 499999, 0, impl.ErrNone},
		{"XDR", "AAA", 500000, 1, impl.ErrNone},
		{"XDR", "AAA", 499999, 0, impl.ErrNone},
		{"XDR", "BBB", 1000, most, impl.ErrNone},
		{"XDR", "BBB", 1001, 0, impl.ErrLimit},
		{"CCC", "XDR", most, 0, impl.ErrLimit},
		{"CCC", "XDR", most - 1000, most, impl.ErrNone},
		{"CCC", "XDR", most - 999, 0, impl.ErrLimit},
		{"DDD", "XDR", most, most - 1000, impl.ErrNone},
		{"EEE", "XDR", most, most, impl.ErrNone},
		{"FFF", "GGG", 1, 0, impl.ErrLimit},
		{"AAA", "FFF", most, 0, impl.ErrLimit},
		{"FFF", "AAA", most, most - 1000, impl.ErrNone},
		{"III", "XDR", most / 2, most, impl.ErrNone},
		{"III", "XDR", most/2 + 1, 0, impl.ErrLimit},
		{"XDR", "JJJ", most / 2, most, impl.ErrNone},
		{"XDR", "JJJ", most/2 + 1, 0, impl.ErrLimit},
		{"XDR", "III", most, most / 2, impl.ErrNone},
		{"XDR", "III", most - 1, most / 2, impl.ErrNone},
		{"XDR", "III", most - 2, most/2 - 1, impl.ErrNone},
		{"JJJ", "III", most, most / 4, impl.ErrNone},
		{"III", "JJJ", most / 4, most, impl.ErrNone},
		{"III", "JJJ", most/4 + 1, 0, impl.ErrLimit},
	} {
		got, code := impl.ConvertAmount(extremeTable(), c.from, c.to, 5, c.amount)
		wantInt(t, fmt.Sprint("ConvertAmount ", c.from, c.to, " ", c.amount), got, code, c.want, c.wanted)
	}
}

// TestConvertAmountByItsDefinition compares with fractions without limits.
func TestConvertAmountByItsDefinition(t *testing.T) {
	random := fixedRandom()
	codes := []string{"AAA", "AAB", "ABA", "BAA", "ZZZ", "XDR"}
	for range 20000 {
		table := anyTable(random)
		from, to := codes[random.IntN(6)], codes[random.IntN(6)]
		day, amount := random.Int64N(40), anyAmount(random)
		checkConvertAmount(t, table, from, to, day, amount)
	}
	for _, from := range extremeTable() {
		for _, to := range extremeTable() {
			for _, amount := range []int64{0, 1, 2, 3, 499, 500, 999, 1000, 1001, impl.MaxAmount / 2, impl.MaxAmount - 1, impl.MaxAmount} {
				checkConvertAmount(t, extremeTable(), from.Currency, to.Currency, 5, amount)
			}
		}
	}
}

// TestConvertAmountBeyond64Bits has amounts whose products with the rates are beside all multiples of
// 2^63 that they reach.
func TestConvertAmountBeyond64Bits(t *testing.T) {
	const beside = (1 << 63) / (mostTerm * mostTerm)
	for amount := int64(beside); amount <= impl.MaxAmount-5; amount += beside {
		for near := amount; near < amount+5; near++ {
			for _, c := range [][2]string{{"CCC", "DDD"}, {"DDD", "CCC"}, {"HHH", "DDD"}, {"CCC", "HHH"}} {
				checkConvertAmount(t, extremeTable(), c[0], c[1], 5, near)
			}
		}
	}
}

// anyTable returns a table of up to MaxRates rates on days below 40.
func anyTable(random *rand.Rand) []impl.Rate {
	table := longTable(random.IntN(impl.MaxRates + 1))
	for i := range table {
		table[i].Day = 7*int64(i%4) + random.Int64N(7)
		table[i].Num, table[i].Den = anyTerm(random), anyTerm(random)
	}
	return table
}

// anyTerm returns a small term, one near the limit, or any other one, each as often.
func anyTerm(random *rand.Rand) int64 {
	switch random.IntN(3) {
	case 0:
		return 1 + random.Int64N(6)
	case 1:
		return mostTerm - random.Int64N(6)
	}
	return 1 + random.Int64N(mostTerm)
}

func checkConvertAmount(t *testing.T, table []impl.Rate, from, to string, day, amount int64) {
	t.Helper()
	want, wantCode := int64(0), int64(impl.ErrNotFound)
	if cross, found := crossByHand(table, from, to, day); found {
		// The nearest integer is the fraction plus 1/2, rounded down.
		exact := new(big.Rat).Mul(cross, big.NewRat(amount, 1))
		exact.Add(exact, big.NewRat(1, 2))
		down := new(big.Int).Quo(exact.Num(), exact.Denom())
		if down.Cmp(big.NewInt(impl.MaxAmount)) > 0 {
			wantCode = impl.ErrLimit
		} else {
			want, wantCode = down.Int64(), impl.ErrNone
		}
	}
	got, code := impl.ConvertAmount(table, from, to, day, amount)
	if got != want || code != wantCode {
		t.Fatalf("ConvertAmount %v %s %s %d %d: got %d, code %d; want %d, code %d", table, from, to, day, amount, got, code, want, wantCode)
	}
}

func crossByHand(table []impl.Rate, from, to string, day int64) (*big.Rat, bool) {
	first, second := rateByHand(table, from, day), rateByHand(table, to, day)
	if first.code != impl.ErrNone || second.code != impl.ErrNone {
		return nil, false
	}
	return new(big.Rat).Quo(big.NewRat(first.num, first.den), big.NewRat(second.num, second.den)), true
}

// TestSameCurrencyChangesNothing is promise 4.
func TestSameCurrencyChangesNothing(t *testing.T) {
	random := fixedRandom()
	amounts := []int64{0, 1, 2, 3, 99, 100, 101, impl.MaxAmount / 2, impl.MaxAmount - 1, impl.MaxAmount}
	for range 1000 {
		amounts = append(amounts, random.Int64N(impl.MaxAmount+1))
	}
	tables := [][]impl.Rate{nil, {}, {rate("USD", 0, 3, 4)}, sampleTable(), extremeTable(), longTable(impl.MaxRates)}
	for range 20 {
		tables = append(tables, anyTable(random))
	}
	for _, table := range tables {
		days := map[string]int64{"XDR": 0}
		for _, r := range table {
			days[r.Currency] = r.Day
		}
		for currency, first := range days {
			for _, day := range []int64{first, min(first+1, greatestDay), greatestDay} {
				for _, amount := range amounts {
					got, code := impl.ConvertAmount(table, currency, currency, day, amount)
					wantInt(t, fmt.Sprint("ConvertAmount ", currency, " to itself on ", day), got, code, amount, impl.ErrNone)
				}
				num, den, code := impl.CrossRate(table, currency, currency, day)
				wantFraction(t, "CrossRate of "+currency+" and itself", num, den, code, fraction{1, 1, impl.ErrNone})
			}
		}
	}
}

func TestConvertAmountErrors(t *testing.T) {
	want := func(table []impl.Rate, from, to string, day, amount, wantCode int64) {
		t.Helper()
		got, code := impl.ConvertAmount(table, from, to, day, amount)
		wantInt(t, fmt.Sprintf("ConvertAmount %s %.20q %.20q %d %d", shown(table), from, to, day, amount), got, code, 0, wantCode)
		if !impl.IsAmount(amount) && wantCode != impl.ErrInvalid {
			// CrossRate has no amount, and so other errors.
			return
		}
		num, den, code := impl.CrossRate(table, from, to, day)
		wantFraction(t, fmt.Sprintf("CrossRate %s %.20q %.20q %d", shown(table), from, to, day), num, den, code, fraction{0, 0, wantCode})
	}
	for _, list := range notTables() {
		want(list, "XDR", "XDR", 100, 5, impl.ErrInvalid)
		want(list, "GBP", "USD", -1, -1, impl.ErrInvalid)
	}
	for _, s := range notCodes {
		want(sampleTable(), s, "EUR", 100, 5, impl.ErrInvalid)
		want(sampleTable(), "EUR", s, 100, 5, impl.ErrInvalid)
		want(sampleTable(), s, s, 100, 5, impl.ErrInvalid)
		want(sampleTable(), s, "GBP", 100, 5, impl.ErrInvalid)
		want(sampleTable(), "GBP", s, 100, 5, impl.ErrInvalid)
		want(nil, s, "XDR", -1, 5, impl.ErrInvalid)
		want(nil, "XDR", s, 100, -1, impl.ErrInvalid)
	}
	for _, day := range notDays {
		want(sampleTable(), "EUR", "USD", day, 5, impl.ErrRange)
		want(sampleTable(), "XDR", "XDR", day, 5, impl.ErrRange)
		want(sampleTable(), "GBP", "EUR", day, 5, impl.ErrRange)
		want(sampleTable(), "EUR", "GBP", day, -1, impl.ErrRange)
		want(nil, "XDR", "USD", day, impl.MaxAmount+1, impl.ErrRange)
	}
	for _, amount := range notAmounts {
		want(sampleTable(), "EUR", "USD", 100, amount, impl.ErrRange)
		want(sampleTable(), "EUR", "EUR", 100, amount, impl.ErrRange)
		want(sampleTable(), "XDR", "XDR", 100, amount, impl.ErrRange)
		want(sampleTable(), "GBP", "EUR", 100, amount, impl.ErrRange)
		want(sampleTable(), "EUR", "GBP", 100, amount, impl.ErrRange)
		want(sampleTable(), "EUR", "USD", 99, amount, impl.ErrRange)
		want(extremeTable(), "AAA", "BBB", 100, amount, impl.ErrRange)
		want(nil, "USD", "USD", 100, amount, impl.ErrRange)
	}
	// A missing rate comes before a result that is no amount.
	want(extremeTable(), "AAA", "USD", 100, impl.MaxAmount, impl.ErrNotFound)
	want(extremeTable(), "USD", "BBB", 100, impl.MaxAmount, impl.ErrNotFound)
}

func TestAddRate(t *testing.T) {
	usd := rate("USD", 100, 3, 4)
	for _, c := range []struct {
		table []impl.Rate
		r     impl.Rate
		want  []impl.Rate
	}{
		{nil, usd, []impl.Rate{usd}},
		{[]impl.Rate{}, usd, []impl.Rate{usd}},
		{nil, rate("AAA", 0, 1, mostTerm), []impl.Rate{rate("AAA", 0, 1, mostTerm)}},
		{nil, rate("ZZZ", greatestDay, mostTerm, 1), []impl.Rate{rate("ZZZ", greatestDay, mostTerm, 1)}},
		{[]impl.Rate{usd}, usd, []impl.Rate{usd}},
		{[]impl.Rate{usd}, rate("USD", 100, 6, 8), []impl.Rate{rate("USD", 100, 6, 8)}},
		{[]impl.Rate{usd}, rate("USD", 99, 6, 8), []impl.Rate{rate("USD", 99, 6, 8), usd}},
		{[]impl.Rate{usd}, rate("USD", 101, 6, 8), []impl.Rate{usd, rate("USD", 101, 6, 8)}},
		{[]impl.Rate{usd}, rate("EUR", 100, 6, 8), []impl.Rate{rate("EUR", 100, 6, 8), usd}},
		{[]impl.Rate{usd}, rate("USE", 100, 6, 8), []impl.Rate{usd, rate("USE", 100, 6, 8)}},
		{[]impl.Rate{usd}, rate("USC", 101, 6, 8), []impl.Rate{rate("USC", 101, 6, 8), usd}},
		{[]impl.Rate{usd}, rate("ZAA", 0, 6, 8), []impl.Rate{usd, rate("ZAA", 0, 6, 8)}},
		{sampleTable(), rate("AAA", 50, 2, 3), slices.Insert(sampleTable(), 0, rate("AAA", 50, 2, 3))},
		{sampleTable(), rate("EUR", 50, 2, 3), slices.Insert(sampleTable(), 2, rate("EUR", 50, 2, 3))},
		{sampleTable(), rate("GBP", 50, 2, 3), slices.Insert(sampleTable(), 4, rate("GBP", 50, 2, 3))},
		{sampleTable(), rate("ZZZ", 50, 2, 3), slices.Insert(sampleTable(), 7, rate("ZZZ", 50, 2, 3))},
	} {
		got, code := impl.AddRate(c.table, c.r)
		wantList(t, fmt.Sprint("AddRate ", c.r), got, code, c.want, impl.ErrNone)
	}
}

// TestAddedRateIsFound adds a rate that replaces each one, and one beside each one, in tables of all
// lengths: the result has it, and all others that it does not replace.
func TestAddedRateIsFound(t *testing.T) {
	for count := range impl.MaxRates + 1 {
		for _, old := range longTable(count) {
			for _, by := range []int64{0, -1, 1} {
				if old.Day+by >= 0 {
					checkAddRate(t, longTable(count), rate(old.Currency, old.Day+by, mostTerm, 999))
				}
			}
			checkAddRate(t, longTable(count), rate("XDS", old.Day, 5, 5))
		}
	}
}

func checkAddRate(t *testing.T, table []impl.Rate, r impl.Rate) {
	t.Helper()
	isOther := func(old impl.Rate) bool { return old.Currency != r.Currency || old.Day != r.Day }
	want := []impl.Rate{}
	for _, old := range table {
		if isOther(old) {
			want = append(want, old)
		}
	}
	want = append(want, r)
	slices.SortFunc(want, func(a, b impl.Rate) int {
		return 2*strings.Compare(a.Currency, b.Currency) + int(max(-1, min(1, a.Day-b.Day)))
	})
	got, code := impl.AddRate(table, r)
	what := fmt.Sprintf("AddRate of %v to %d rates", r, len(table))
	if len(want) > impl.MaxRates {
		wantList(t, what, got, code, nil, impl.ErrInvalid)
		return
	}
	wantList(t, what, got, code, want, impl.ErrNone)
	num, den, code := impl.RateOn(got, r.Currency, r.Day)
	wantFraction(t, what+", then RateOn", num, den, code, fraction{r.Num, r.Den, impl.ErrNone})
}

func TestAddRateErrors(t *testing.T) {
	full := longTable(impl.MaxRates)
	for _, r := range []impl.Rate{rate("AAA", 1, 1, 1), rate("ZZZ", greatestDay, 1, 1), rate("MMM", 50, 1, 1), rate("AAA", 31, 1, 1)} {
		got, code := impl.AddRate(full, r)
		wantList(t, fmt.Sprint("AddRate to a full table ", r), got, code, nil, impl.ErrInvalid)
	}
	for _, r := range notRates() {
		for _, table := range [][]impl.Rate{nil, sampleTable(), longTable(impl.MaxRates - 1), full} {
			got, code := impl.AddRate(table, r)
			wantList(t, "AddRate "+shown([]impl.Rate{r}), got, code, nil, impl.ErrInvalid)
		}
	}
	for _, list := range notTables() {
		for _, r := range []impl.Rate{rate("USD", 5, 3, 4), rate("USD", -1, 3, 4), rate("XDR", 100, 1, 1), {}} {
			got, code := impl.AddRate(list, r)
			wantList(t, "AddRate to "+shown(list), got, code, nil, impl.ErrInvalid)
		}
	}
}

// TestAddRateRepairsNoTable adds a rate in place of the one because of which a list is no table.
func TestAddRateRepairsNoTable(t *testing.T) {
	for _, broken := range []impl.Rate{rate("USD", 100, 0, 4), rate("USD", 100, 3, mostTerm+1)} {
		got, code := impl.AddRate([]impl.Rate{broken}, rate("USD", 100, 3, 4))
		wantList(t, fmt.Sprint("AddRate in place of ", broken), got, code, nil, impl.ErrInvalid)
	}
}

func TestCurrenciesOf(t *testing.T) {
	for _, c := range []struct {
		table []impl.Rate
		want  []string
	}{
		{nil, nil},
		{[]impl.Rate{}, nil},
		{[]impl.Rate{rate("USD", 5, 3, 4)}, []string{"USD"}},
		{[]impl.Rate{rate("USD", 5, 3, 4), rate("USD", 6, 3, 4)}, []string{"USD"}},
		{sampleTable(), []string{"CHF", "EUR", "JPY", "USD"}},
		{longTable(impl.MaxRates), []string{"AAA", "AAB", "ABA", "BAA", "ZZZ"}},
		{longTable(9), []string{"AAA", "AAB", "ABA"}},
		{extremeTable(), []string{"AAA", "BBB", "CCC", "DDD", "EEE", "FFF", "GGG", "HHH", "III", "JJJ"}},
	} {
		got, code := impl.CurrenciesOf(c.table)
		wantList(t, "CurrenciesOf "+shown(c.table), got, code, c.want, impl.ErrNone)
	}
	full := []impl.Rate{}
	want := []string{}
	for i := range byte(impl.MaxRates) {
		want = append(want, string([]byte{'A' + i, 'Z' - i, 'M'}))
		full = append(full, rate(want[i], int64(i), 1, 1))
	}
	got, code := impl.CurrenciesOf(full)
	wantList(t, "CurrenciesOf "+shown(full), got, code, want, impl.ErrNone)
	for _, list := range notTables() {
		got, code := impl.CurrenciesOf(list)
		wantList(t, "CurrenciesOf "+shown(list), got, code, nil, impl.ErrInvalid)
	}
}

func TestCrossRate(t *testing.T) {
	for _, c := range []struct {
		table    []impl.Rate
		from, to string
		day      int64
		want     fraction
	}{
		{sampleTable(), "USD", "XDR", 100, fraction{3, 4, impl.ErrNone}},
		{sampleTable(), "XDR", "USD", 100, fraction{4, 3, impl.ErrNone}},
		{sampleTable(), "USD", "XDR", greatestDay, fraction{2, 3, impl.ErrNone}},
		{sampleTable(), "XDR", "USD", greatestDay, fraction{3, 2, impl.ErrNone}},
		{sampleTable(), "EUR", "XDR", 100, fraction{3, 2, impl.ErrNone}},
		{sampleTable(), "EUR", "USD", 100, fraction{2, 1, impl.ErrNone}},
		{sampleTable(), "USD", "EUR", 100, fraction{1, 2, impl.ErrNone}},
		{sampleTable(), "EUR", "USD", 20000, fraction{7, 3, impl.ErrNone}},
		{sampleTable(), "EUR", "USD", greatestDay, fraction{21, 8, impl.ErrNone}},
		{sampleTable(), "JPY", "USD", 100, fraction{2, 225, impl.ErrNone}},
		{sampleTable(), "CHF", "XDR", 20000, fraction{1, 1, impl.ErrNone}},
		{sampleTable(), "XDR", "XDR", 0, fraction{1, 1, impl.ErrNone}},
		{nil, "XDR", "XDR", greatestDay, fraction{1, 1, impl.ErrNone}},
		{sampleTable(), "EUR", "JPY", 99, fraction{0, 0, impl.ErrNotFound}},
		{sampleTable(), "JPY", "EUR", 99, fraction{0, 0, impl.ErrNotFound}},
		{sampleTable(), "JPY", "JPY", 99, fraction{0, 0, impl.ErrNotFound}},
		{nil, "XDR", "USD", 100, fraction{0, 0, impl.ErrNotFound}},
		{nil, "USD", "XDR", 100, fraction{0, 0, impl.ErrNotFound}},
		// The terms may be greater than any amount.
		{extremeTable(), "AAA", "BBB", 5, fraction{mostTerm * mostTerm, 1, impl.ErrNone}},
		{extremeTable(), "BBB", "AAA", 5, fraction{1, mostTerm * mostTerm, impl.ErrNone}},
		{extremeTable(), "CCC", "DDD", 5, fraction{mostTerm * mostTerm, (mostTerm - 1) * (mostTerm - 1), impl.ErrNone}},
		{extremeTable(), "DDD", "CCC", 5, fraction{(mostTerm - 1) * (mostTerm - 1), mostTerm * mostTerm, impl.ErrNone}},
		{extremeTable(), "AAA", "EEE", 5, fraction{mostTerm, 1, impl.ErrNone}},
		{extremeTable(), "EEE", "AAA", 5, fraction{1, mostTerm, impl.ErrNone}},
		{extremeTable(), "FFF", "BBB", 5, fraction{(mostTerm - 1) * mostTerm, 1, impl.ErrNone}},
		{extremeTable(), "DDD", "FFF", 5, fraction{1, mostTerm, impl.ErrNone}},
	} {
		num, den, code := impl.CrossRate(c.table, c.from, c.to, c.day)
		wantFraction(t, fmt.Sprint("CrossRate ", c.from, c.to, c.day), num, den, code, c.want)
	}
}

// TestCrossRateByItsDefinition compares with fractions that the library keeps in lowest terms.
func TestCrossRateByItsDefinition(t *testing.T) {
	random := fixedRandom()
	codes := []string{"AAA", "AAB", "ABA", "BAA", "ZZZ", "XDR"}
	for range 20000 {
		table := anyTable(random)
		from, to, day := codes[random.IntN(6)], codes[random.IntN(6)], random.Int64N(40)
		want := fraction{0, 0, impl.ErrNotFound}
		if cross, found := crossByHand(table, from, to, day); found {
			want = fraction{cross.Num().Int64(), cross.Denom().Int64(), impl.ErrNone}
		}
		num, den, code := impl.CrossRate(table, from, to, day)
		wantFraction(t, fmt.Sprint("CrossRate ", table, from, to, day), num, den, code, want)
	}
}

func TestDaysWithRate(t *testing.T) {
	for _, c := range []struct {
		table    []impl.Rate
		currency string
		want     []int64
		code     int64
	}{
		{sampleTable(), "CHF", []int64{20000}, impl.ErrNone},
		{sampleTable(), "EUR", []int64{0, 100, 20000}, impl.ErrNone},
		{sampleTable(), "JPY", []int64{100}, impl.ErrNone},
		{sampleTable(), "USD", []int64{100, greatestDay}, impl.ErrNone},
		{longTable(impl.MaxRates), "AAA", []int64{0, 10, 20, 30}, impl.ErrNone},
		{longTable(impl.MaxRates), "ZZZ", []int64{160, 170, 180, 190}, impl.ErrNone},
		{sampleTable(), "GBP", nil, impl.ErrNotFound},
		{sampleTable(), "AAA", nil, impl.ErrNotFound},
		{sampleTable(), "ZZZ", nil, impl.ErrNotFound},
		{sampleTable(), "XDR", nil, impl.ErrNotFound},
		{nil, "USD", nil, impl.ErrNotFound},
		{[]impl.Rate{}, "XDR", nil, impl.ErrNotFound},
	} {
		got, code := impl.DaysWithRate(c.table, c.currency)
		wantInts(t, "DaysWithRate "+c.currency, got, code, c.want, c.code)
	}
	single := []impl.Rate{}
	want := []int64{}
	for day := range int64(impl.MaxRates) {
		single = append(single, rate("USD", day*day, 1, 1))
		want = append(want, day*day)
	}
	got, code := impl.DaysWithRate(single, "USD")
	wantInts(t, "DaysWithRate of the only currency", got, code, want, impl.ErrNone)
}

func TestDaysWithRateErrors(t *testing.T) {
	for _, list := range notTables() {
		for _, s := range []string{"USD", "XDR", "GBP", ""} {
			got, code := impl.DaysWithRate(list, s)
			wantInts(t, "DaysWithRate in "+shown(list), got, code, nil, impl.ErrInvalid)
		}
	}
	for _, s := range notCodes {
		for _, table := range [][]impl.Rate{nil, sampleTable()} {
			got, code := impl.DaysWithRate(table, s)
			wantInts(t, fmt.Sprintf("DaysWithRate %.20q", s), got, code, nil, impl.ErrInvalid)
		}
	}
}

func TestCurrenciesKeepTheirArguments(t *testing.T) {
	table, kept := inSpareRoom(sampleTable(), rate("VVV", 1, 1, 1), rate("WWW", 2, 2, 2))
	impl.IsTable(table)
	impl.RateOn(table, "USD", 100)
	impl.ConvertAmount(table, "USD", "EUR", 100, 5)
	impl.CrossRate(table, "USD", "EUR", 100)
	for _, r := range []impl.Rate{rate("AAA", 5, 1, 2), rate("EUR", 100, 1, 2), rate("GBP", 5, 1, 2), rate("ZZZ", 5, 1, 2), rate("USD", -1, 1, 2)} {
		added, _ := impl.AddRate(table, r)
		for i := range added {
			added[i] = rate("own", -1, -1, -1)
		}
		_ = append(added, impl.Rate{})
	}
	codes, _ := impl.CurrenciesOf(table)
	days, _ := impl.DaysWithRate(table, "EUR")
	for _, i := range []int{0, 1, 2} {
		codes[i], days[i] = "own", -1
	}
	if !kept() {
		t.Error("an argument, or the memory behind it, has changed")
	}
	again, code := impl.CurrenciesOf(table)
	wantList(t, "CurrenciesOf again", again, code, []string{"CHF", "EUR", "JPY", "USD"}, impl.ErrNone)
}
