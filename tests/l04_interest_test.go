package tests

import (
	"fmt"
	"math"
	"math/big"
	"math/rand/v2"
	"slices"
	"testing"

	"loop.example/g01010/impl"
)

// The functions have the signatures that the chapter lists, and the constants are untyped.
var (
	_ func([]impl.Step) bool                                       = impl.IsSchedule
	_ func(int64, int64, int64) (int64, int64)                     = impl.SimpleInterest
	_ func(int64, int64) (int64, int64)                            = impl.CommissionOf
	_ func([]impl.Step, int64) (int64, int64)                      = impl.PointsOn
	_ func([]impl.Step, int64, int64, int64) (int64, int64)        = impl.InterestBetween
	_ func([]impl.Step, int64, int64) (int64, int64)               = impl.WeightOf
	_ func([]impl.Step, int64, int64, int64) (int64, int64)        = impl.DayWhenReached
	_ func([]impl.Step, int64, int64, int64, int64) (int64, int64) = impl.TotalDue
	_ struct{ Day, Points int64 }                                  = impl.Step{}
)

const (
	_ int16   = impl.MaxPoints
	_ float64 = impl.MaxPoints
	_ int16   = impl.DaysOfYear
	_ float64 = impl.DaysOfYear
)

// half is the weight for which an amount of 1 has an interest of just 1/2.
const half = 10000 * 365 / 2

// notPoints are integers that no points may be; notDays serves for numbers of days too.
var notPoints = []int64{-1, impl.MaxPoints + 1, -impl.MaxPoints, 1<<32 + 1, 1 << 40, math.MinInt64, math.MinInt64 + 1, math.MaxInt64}

// schedule has a step for each pair of a day and points.
func schedule(pairs ...int64) []impl.Step {
	list := []impl.Step{}
	for i := 0; i < len(pairs); i += 2 {
		list = append(list, impl.Step{Day: pairs[i], Points: pairs[i+1]})
	}
	return list
}

// sampleSchedule rises, falls, rests at 0, and has steps on days that follow each other.
func sampleSchedule() []impl.Step {
	return schedule(100, 500, 101, 700, 200, 0, 300, impl.MaxPoints, 301, 1, 20000, 365)
}

// longSchedule has count steps, of which the last one is on the last day of a date.
func longSchedule(count int) []impl.Step {
	list := make([]impl.Step, count)
	for i := range list {
		list[i] = impl.Step{Day: greatestDay - int64(count-1-i)*3, Points: int64(i * 100 % 1000)}
	}
	return list
}

// schedules are lists that are schedules.
func schedules() [][]impl.Step {
	return [][]impl.Step{
		schedule(0, 0),
		schedule(0, impl.MaxPoints),
		schedule(greatestDay, 0),
		schedule(greatestDay, impl.MaxPoints),
		schedule(20000, 365),
		schedule(0, 365, greatestDay, 365),
		schedule(0, 1, 1, 2),
		schedule(greatestDay-1, 2, greatestDay, 1),
		schedule(5, 0, 6, 0, 7, 0),
		sampleSchedule(),
		longSchedule(1),
		longSchedule(impl.MaxParts - 1),
		longSchedule(impl.MaxParts),
	}
}

// notSchedules are lists that are no schedule.
func notSchedules() [][]impl.Step {
	lists := [][]impl.Step{
		nil,
		{},
		longSchedule(impl.MaxParts + 1),
		make([]impl.Step, 2),
		make([]impl.Step, impl.MaxParts+1),
		make([]impl.Step, 100000),
		schedule(5, 1, 5, 1),
		schedule(5, 1, 5, 2),
		schedule(5, 1, 4, 1),
		schedule(0, 1, 0, 1),
		schedule(greatestDay, 1, greatestDay, 2),
		schedule(greatestDay, 1, 0, 2),
		schedule(5, 1, 7, 1, 6, 1),
		schedule(5, 1, 7, 1, 7, 1),
		schedule(5, 1, 7, 1, 5, 1),
		schedule(5, 1, 5, 1, 7, 1),
		schedule(math.MaxInt64, 1, math.MinInt64, 1),
	}
	for _, day := range notDays {
		lists = append(lists, schedule(day, 5), schedule(50, 5, day, 5), schedule(day, 5, 50, 5), schedule(50, 5, day, 5, 60, 5))
	}
	for _, points := range notPoints {
		lists = append(lists, schedule(50, points), schedule(0, points), schedule(40, 5, 50, points), schedule(50, points, 60, 5), schedule(40, 5, 50, points, 60, 5))
	}
	return lists
}

func shownSteps(list []impl.Step) string {
	return fmt.Sprintf("%d steps %v", len(list), list[:min(len(list), impl.MaxParts)])
}

// anySchedule often has steps that are close to each other or to the ends, and points of 0.
func anySchedule(random *rand.Rand) []impl.Step {
	count, span := 1+random.IntN(impl.MaxParts), random.Int64N(greatestDay-20)+20
	start, list := random.Int64N(greatestDay+1-span), []impl.Step{}
	for _, place := range random.Perm(int(span))[:count] {
		list = append(list, impl.Step{Day: start + int64(place), Points: anyPoints(random)})
	}
	slices.SortFunc(list, func(a, b impl.Step) int { return int(a.Day - b.Day) })
	return list
}

func anyPoints(random *rand.Rand) int64 {
	switch random.IntN(4) {
	case 0:
		return 0
	case 1:
		return impl.MaxPoints - random.Int64N(2)
	}
	return random.Int64N(impl.MaxPoints + 1)
}

// anyDay is often at or beside a step.
func anyDay(random *rand.Rand, list []impl.Step) int64 {
	switch random.IntN(4) {
	case 0:
		return random.Int64N(2) * greatestDay
	case 1:
		return random.Int64N(greatestDay + 1)
	}
	day := list[random.IntN(len(list))].Day + random.Int64N(3) - 1
	return min(max(day, 0), greatestDay)
}

// pointsByHand goes through all steps, the last one first.
func pointsByHand(list []impl.Step, day int64) int64 {
	for _, step := range slices.Backward(list) {
		if step.Day <= day {
			return step.Points
		}
	}
	return 0
}

// weightByHand goes through the steps, not through the days.
func weightByHand(list []impl.Step, from, to int64) int64 {
	weight := int64(0)
	for i, step := range list {
		end := to
		if i+1 < len(list) {
			end = min(to, list[i+1].Day)
		}
		weight += step.Points * max(0, end-max(from, step.Day))
	}
	return weight
}

// nearestByHand is the nearest integer to a * b / c, without limits.
func nearestByHand(a, b, c int64) *big.Int {
	exact := new(big.Rat).SetFrac(new(big.Int).Mul(big.NewInt(a), big.NewInt(b)), big.NewInt(c))
	exact.Add(exact, big.NewRat(1, 2))
	// The denominator is positive, and Div rounds down then.
	return new(big.Int).Div(exact.Num(), exact.Denom())
}

// asAmount is what a function returns for a result that may be no amount.
func asAmount(n *big.Int) (int64, int64) {
	if n.Cmp(big.NewInt(impl.MaxAmount)) > 0 {
		return 0, impl.ErrLimit
	}
	return n.Int64(), impl.ErrNone
}

func wantAmount(t *testing.T, what string, got, code int64, want *big.Int) {
	t.Helper()
	amount, wantCode := asAmount(want)
	wantInt(t, what, got, code, amount, wantCode)
}

func TestInterestConstants(t *testing.T) {
	if impl.MaxPoints != 10000 || impl.DaysOfYear != 365 {
		t.Error(impl.MaxPoints, impl.DaysOfYear)
	}
}

func TestIsSchedule(t *testing.T) {
	for _, list := range schedules() {
		if !impl.IsSchedule(list) {
			t.Errorf("%s is a schedule", shownSteps(list))
		}
	}
	for _, list := range notSchedules() {
		if impl.IsSchedule(list) {
			t.Errorf("%s is no schedule", shownSteps(list))
		}
	}
}

func TestSimpleInterest(t *testing.T) {
	for _, c := range []struct{ amount, points, days, want, code int64 }{
		{100000, 700, 365, 7000, impl.ErrNone},
		{0, 0, 0, 0, impl.ErrNone},
		{0, impl.MaxPoints, greatestDay, 0, impl.ErrNone},
		{impl.MaxAmount, 0, greatestDay, 0, impl.ErrNone},
		{impl.MaxAmount, impl.MaxPoints, 0, 0, impl.ErrNone},
		{1, 1, greatestDay, 0, impl.ErrNone},
		{100, 1, greatestDay, 1, impl.ErrNone},
		{impl.MaxAmount, 1, 1, 274, impl.ErrNone},
		{impl.MaxAmount, 1, greatestDay, 10006575, impl.ErrNone},
		// One just half, one just below it, one just above it.
		{1825, 1000, 1, 1, impl.ErrNone},
		{1825, 999, 1, 0, impl.ErrNone},
		{1824, 1000, 1, 0, impl.ErrNone},
		{1825, 1001, 1, 1, impl.ErrNone},
		{1, 5000, 365, 1, impl.ErrNone},
		{1, 5000, 364, 0, impl.ErrNone},
		{3, 5000, 365, 2, impl.ErrNone},
		{5, 5000, 365, 3, impl.ErrNone},
		// The last amount, and one beyond.
		{impl.MaxAmount, impl.MaxPoints, 365, impl.MaxAmount, impl.ErrNone},
		{impl.MaxAmount, impl.MaxPoints, 366, 0, impl.ErrLimit},
		{impl.MaxAmount, impl.MaxPoints, 364, 997260274, impl.ErrNone},
		{227367681, 7001, 2293, impl.MaxAmount, impl.ErrNone},
		{64516129, 5000, 11315, impl.MaxAmount, impl.ErrNone},
		{666666667, 5000, 1095, 0, impl.ErrLimit},
		{666666666, 5000, 1095, 999999999, impl.ErrNone},
		{impl.MaxAmount, impl.MaxPoints, greatestDay, 0, impl.ErrLimit},
	} {
		got, code := impl.SimpleInterest(c.amount, c.points, c.days)
		wantInt(t, fmt.Sprintf("SimpleInterest %v", c), got, code, c.want, c.code)
	}
}

func TestSimpleInterestByHand(t *testing.T) {
	random := fixedRandom()
	for range 30000 {
		amount, points, days := anyAmount(random), anyPoints(random), random.Int64N(greatestDay+1)
		if random.IntN(2) == 0 {
			days = random.Int64N(400)
		}
		got, code := impl.SimpleInterest(amount, points, days)
		wantAmount(t, fmt.Sprint("SimpleInterest ", amount, points, days), got, code, nearestByHand(amount, points*days, 2*half))
	}
}

func TestSimpleInterestErrors(t *testing.T) {
	for _, amount := range notAmounts {
		got, code := impl.SimpleInterest(amount, 5, 5)
		wantInt(t, fmt.Sprint("SimpleInterest on ", amount), got, code, 0, impl.ErrRange)
		for _, points := range notPoints {
			for _, days := range notDays {
				got, code := impl.SimpleInterest(amount, points, days)
				wantInt(t, fmt.Sprint("SimpleInterest ", amount, points, days), got, code, 0, impl.ErrRange)
			}
		}
	}
	// Beside each error the others would be 0, or beyond any amount.
	for _, amount := range []int64{0, impl.MaxAmount} {
		for _, points := range notPoints {
			for _, days := range []int64{0, 5, greatestDay} {
				got, code := impl.SimpleInterest(amount, points, days)
				wantInt(t, fmt.Sprint("SimpleInterest for points ", points), got, code, 0, impl.ErrRange)
			}
		}
		for _, days := range notDays {
			for _, points := range []int64{0, 5, impl.MaxPoints} {
				got, code := impl.SimpleInterest(amount, points, days)
				wantInt(t, fmt.Sprint("SimpleInterest for days ", days), got, code, 0, impl.ErrRange)
			}
		}
	}
}

func TestCommissionOf(t *testing.T) {
	for _, c := range []struct{ amount, points, want int64 }{
		{1000, 200, 20},
		{0, 0, 0},
		{0, impl.MaxPoints, 0},
		{impl.MaxAmount, 0, 0},
		{impl.MaxAmount, impl.MaxPoints, impl.MaxAmount},
		{impl.MaxAmount, impl.MaxPoints - 1, 999900000},
		{impl.MaxAmount, 1, 100000},
		{impl.MaxAmount - 1, 5000, 500000000},
		{1, impl.MaxPoints, 1},
		{1, 5000, 1},
		{1, 4999, 0},
		{1, 5001, 1},
		{5, 1000, 1},
		{4, 1000, 0},
		{15, 1000, 2},
		{14, 1000, 1},
		{25, 1000, 3},
		{4999, 1, 0},
		{5000, 1, 1},
	} {
		got, code := impl.CommissionOf(c.amount, c.points)
		wantInt(t, fmt.Sprintf("CommissionOf %v", c), got, code, c.want, impl.ErrNone)
	}
	random := fixedRandom()
	for range 20000 {
		amount, points := anyAmount(random), anyPoints(random)
		got, code := impl.CommissionOf(amount, points)
		wantAmount(t, fmt.Sprint("CommissionOf ", amount, points), got, code, nearestByHand(amount, points, 10000))
	}
}

func TestCommissionOfErrors(t *testing.T) {
	for _, amount := range notAmounts {
		for _, points := range append([]int64{0, 5, impl.MaxPoints}, notPoints...) {
			got, code := impl.CommissionOf(amount, points)
			wantInt(t, fmt.Sprint("CommissionOf ", amount, points), got, code, 0, impl.ErrRange)
		}
	}
	for _, points := range notPoints {
		for _, amount := range []int64{0, 5, impl.MaxAmount} {
			got, code := impl.CommissionOf(amount, points)
			wantInt(t, fmt.Sprint("CommissionOf ", amount, points), got, code, 0, impl.ErrRange)
		}
	}
}

func TestPointsOn(t *testing.T) {
	for _, c := range []struct{ day, want int64 }{
		{0, 0}, {99, 0}, {100, 500}, {101, 700}, {102, 700}, {199, 700}, {200, 0}, {299, 0},
		{300, impl.MaxPoints}, {301, 1}, {302, 1}, {19999, 1}, {20000, 365}, {20001, 365}, {greatestDay, 365},
	} {
		got, code := impl.PointsOn(sampleSchedule(), c.day)
		wantInt(t, fmt.Sprint("PointsOn ", c.day), got, code, c.want, impl.ErrNone)
	}
	for _, c := range []struct {
		list      []impl.Step
		day, want int64
	}{
		{schedule(0, 7), 0, 7},
		{schedule(0, 7), greatestDay, 7},
		{schedule(greatestDay, 7), greatestDay - 1, 0},
		{schedule(greatestDay, 7), greatestDay, 7},
		{schedule(greatestDay-1, 7, greatestDay, 8), greatestDay, 8},
	} {
		got, code := impl.PointsOn(c.list, c.day)
		wantInt(t, fmt.Sprintf("PointsOn %v %d", c.list, c.day), got, code, c.want, impl.ErrNone)
	}
}

// TestPointsOnAllDays takes all days of a date.
func TestPointsOnAllDays(t *testing.T) {
	for _, list := range schedules() {
		for day := range int64(greatestDay + 1) {
			got, code := impl.PointsOn(list, day)
			if want := pointsByHand(list, day); got != want || code != impl.ErrNone {
				t.Fatalf("PointsOn %v %d: got %d, code %d; want %d", list, day, got, code, want)
			}
		}
	}
}

func TestWeightOf(t *testing.T) {
	for _, c := range []struct{ from, to, want int64 }{
		{0, 100, 0},
		{0, 101, 500},
		{100, 101, 500},
		{101, 102, 700},
		{100, 102, 1200},
		{100, 200, 500 + 99*700},
		{150, 200, 50 * 700},
		{150, 250, 50 * 700},
		{200, 300, 0},
		{299, 302, impl.MaxPoints + 1},
		{300, 301, impl.MaxPoints},
		{301, 20000, 19699},
		{19999, 20001, 366},
		{20000, greatestDay, 16524 * 365},
		{greatestDay - 1, greatestDay, 365},
		{greatestDay, greatestDay, 0},
		{0, 0, 0},
		{300, 300, 0},
		{301, 300, 0},
		{302, 300, 0},
		{greatestDay, 0, 0},
		{greatestDay, greatestDay - 1, 0},
	} {
		got, code := impl.WeightOf(sampleSchedule(), c.from, c.to)
		wantInt(t, fmt.Sprintf("WeightOf %v", c), got, code, c.want, impl.ErrNone)
	}
	// The greatest of all weights is greater than any 32 bits.
	got, code := impl.WeightOf(schedule(0, impl.MaxPoints), 0, greatestDay)
	wantInt(t, "WeightOf all days", got, code, impl.MaxPoints*greatestDay, impl.ErrNone)
}

func TestWeightOfByHand(t *testing.T) {
	random := fixedRandom()
	for range 3000 {
		list := anySchedule(random)
		from, to := anyDay(random, list), anyDay(random, list)
		got, code := impl.WeightOf(list, from, to)
		wantInt(t, fmt.Sprint("WeightOf ", list, from, to), got, code, weightByHand(list, from, to), impl.ErrNone)
	}
}

func TestInterestBetween(t *testing.T) {
	tenth := schedule(20000, 365)
	for _, c := range []struct {
		list                         []impl.Step
		amount, from, to, want, code int64
	}{
		{tenth, 1000000, 20000, 20010, 1000, impl.ErrNone},
		{tenth, 1000000, 19990, 20010, 1000, impl.ErrNone},
		{tenth, 1000000, 20005, 20010, 500, impl.ErrNone},
		{tenth, 1000000, 20000, 20001, 100, impl.ErrNone},
		{tenth, 1000000, 19999, 20000, 0, impl.ErrNone},
		{tenth, 1000000, 20000, 20000, 0, impl.ErrNone},
		{tenth, 1000000, 20010, 20000, 0, impl.ErrNone},
		{tenth, 1000000, 20001, 20000, 0, impl.ErrNone},
		{tenth, impl.MaxAmount, greatestDay, 0, 0, impl.ErrNone},
		{tenth, 1000000, greatestDay - 1, greatestDay, 100, impl.ErrNone},
		{tenth, 0, 0, greatestDay, 0, impl.ErrNone},
		// Over two steps of 0.4, of 0.5 and of 1/4, whose parts alone would be rounded otherwise.
		{schedule(10, 4000, 375, 4000), 1, 10, 740, 1, impl.ErrNone},
		{schedule(10, 4000, 375, 4000), 1, 10, 375, 0, impl.ErrNone},
		{schedule(10, 5000, 375, 5000), 1, 10, 740, 1, impl.ErrNone},
		{schedule(10, 5000, 375, 5000), 1, 10, 375, 1, impl.ErrNone},
		{schedule(10, 2500, 375, 2500), 1, 10, 740, 1, impl.ErrNone},
		{schedule(10, 2500, 375, 2500), 1, 10, 739, 0, impl.ErrNone},
		// Each day alone would be rounded to 0, or to 1.
		{tenth, 4000, 20000, 20010, 4, impl.ErrNone},
		{tenth, 6000, 20000, 20010, 6, impl.ErrNone},
		// One just half, one just below it.
		{schedule(50, 1000), 1825, 50, 51, 1, impl.ErrNone},
		{schedule(50, 999), 1825, 50, 51, 0, impl.ErrNone},
		{schedule(50, 999, 51, 1), 1825, 50, 52, 1, impl.ErrNone},
		// The last amount, and one beyond.
		{schedule(50, impl.MaxPoints), impl.MaxAmount, 50, 50 + 365, impl.MaxAmount, impl.ErrNone},
		{schedule(50, impl.MaxPoints, 415, 0), impl.MaxAmount, 0, greatestDay, impl.MaxAmount, impl.ErrNone},
		{schedule(50, impl.MaxPoints, 415, 1), impl.MaxAmount, 50, 416, 0, impl.ErrLimit},
		{schedule(50, impl.MaxPoints, 415, 1, 416, 0), impl.MaxAmount - 274, 50, greatestDay, impl.MaxAmount, impl.ErrNone},
		{schedule(50, impl.MaxPoints, 415, 1, 416, 0), impl.MaxAmount - 273, 50, greatestDay, 0, impl.ErrLimit},
		{schedule(50, 7001), 227367681, 50, 50 + 2293, impl.MaxAmount, impl.ErrNone},
		{schedule(50, 5000), 64516129, 50, 50 + 11315, impl.MaxAmount, impl.ErrNone},
		{schedule(50, 5000), 666666667, 50, 50 + 1095, 0, impl.ErrLimit},
		{schedule(50, 5000), 666666666, 50, 50 + 1095, 999999999, impl.ErrNone},
		{schedule(0, impl.MaxPoints), impl.MaxAmount, 0, greatestDay, 0, impl.ErrLimit},
	} {
		got, code := impl.InterestBetween(c.list, c.amount, c.from, c.to)
		wantInt(t, fmt.Sprintf("InterestBetween %v", c), got, code, c.want, c.code)
	}
}

func TestInterestBetweenByHand(t *testing.T) {
	random := fixedRandom()
	for range 3000 {
		list, amount := anySchedule(random), anyAmount(random)
		from, to := anyDay(random, list), anyDay(random, list)
		got, code := impl.InterestBetween(list, amount, from, to)
		want := nearestByHand(amount, weightByHand(list, from, to), 2*half)
		wantAmount(t, fmt.Sprint("InterestBetween ", list, amount, from, to), got, code, want)
	}
}

// TestInterestOfLongerTime is promise 5: interest of a longer time is not less.
func TestInterestOfLongerTime(t *testing.T) {
	random := fixedRandom()
	for range 300 {
		list, amount := anySchedule(random), anyAmount(random)
		from := anyDay(random, list)
		before, limited := int64(0), false
		for to := from; to <= greatestDay; to += 1 + random.Int64N(400) {
			interest, code := impl.InterestBetween(list, amount, from, to)
			// Beyond the last amount there is no way back.
			limited = limited || code == impl.ErrLimit
			if limited && code != impl.ErrLimit || !limited && (code != impl.ErrNone || interest < before) {
				t.Fatalf("InterestBetween %v on %d from %d to %d: %d, code %d after %d", list, amount, from, to, interest, code, before)
			}
			before = interest
			// A time that begins earlier is longer too.
			earlier, code := impl.InterestBetween(list, amount, random.Int64N(from+1), to)
			if code != impl.ErrLimit && (limited || code != impl.ErrNone || earlier < interest) {
				t.Fatalf("InterestBetween %v on %d to %d: %d, code %d is less than %d from %d", list, amount, to, earlier, code, interest, from)
			}
		}
	}
}

// TestInterestOfOneMoreDay is promise 5 for all days around the steps.
func TestInterestOfOneMoreDay(t *testing.T) {
	for _, amount := range []int64{0, 1, 99, 3650, 1000000, impl.MaxAmount} {
		before := int64(0)
		for to := int64(90); to < 700; to++ {
			interest, code := impl.InterestBetween(sampleSchedule(), amount, 90, to)
			if code != impl.ErrNone || interest < before {
				t.Fatalf("InterestBetween on %d to %d: %d, code %d after %d", amount, to, interest, code, before)
			}
			before = interest
		}
	}
}

// TestScheduleWithOneStep is the guarantee of the chapter beside promise 5.
func TestScheduleWithOneStep(t *testing.T) {
	random := fixedRandom()
	for range 3000 {
		start, amount, points := random.Int64N(greatestDay+1), anyAmount(random), anyPoints(random)
		list := schedule(start, points)
		from, to := anyDay(random, list), anyDay(random, list)
		days := max(0, to-max(from, start))
		want, wantCode := impl.SimpleInterest(amount, points, days)
		got, code := impl.InterestBetween(list, amount, from, to)
		wantInt(t, fmt.Sprint("InterestBetween ", list, amount, from, to), got, code, want, wantCode)
	}
}

// TestScheduleWithSameSteps has the same points all the time, so that its steps make no difference.
func TestScheduleWithSameSteps(t *testing.T) {
	random := fixedRandom()
	for range 300 {
		list, amount, points := anySchedule(random), anyAmount(random), anyPoints(random)
		for i := range list {
			list[i].Points = points
		}
		to := anyDay(random, list)
		want, wantCode := impl.SimpleInterest(amount, points, max(0, to-list[0].Day))
		got, code := impl.InterestBetween(list, amount, 0, to)
		wantInt(t, fmt.Sprint("InterestBetween ", list, amount, to), got, code, want, wantCode)
	}
}

// TestWeightsOfParts has weights that add up, as the interest of a day is that of its points.
func TestWeightsOfParts(t *testing.T) {
	random := fixedRandom()
	for range 1000 {
		list := anySchedule(random)
		days := []int64{anyDay(random, list), anyDay(random, list), anyDay(random, list)}
		slices.Sort(days)
		first, _ := impl.WeightOf(list, days[0], days[1])
		second, _ := impl.WeightOf(list, days[1], days[2])
		both, code := impl.WeightOf(list, days[0], days[2])
		wantInt(t, fmt.Sprint("WeightOf ", list, days), both, code, first+second, impl.ErrNone)
	}
}

func TestDayWhenReached(t *testing.T) {
	tenth := schedule(20000, 365)
	whole := schedule(50, impl.MaxPoints)
	none := int64(impl.ErrNotFound)
	for _, c := range []struct {
		list                               []impl.Step
		amount, from, interest, want, code int64
	}{
		{tenth, 1000000, 20000, 1000, 20010, impl.ErrNone},
		{tenth, 1000000, 20000, 999, 20010, impl.ErrNone},
		{tenth, 1000000, 20000, 901, 20010, impl.ErrNone},
		{tenth, 1000000, 20000, 900, 20009, impl.ErrNone},
		{tenth, 1000000, 20000, 1001, 20011, impl.ErrNone},
		{tenth, 1000000, 20000, 1, 20001, impl.ErrNone},
		{tenth, 1000000, 0, 1, 20001, impl.ErrNone},
		{tenth, 1000000, 19999, 100, 20001, impl.ErrNone},
		{tenth, 1000000, 20007, 100, 20008, impl.ErrNone},
		// The first day itself.
		{tenth, 1000000, 20000, 0, 20000, impl.ErrNone},
		{tenth, 0, 0, 0, 0, impl.ErrNone},
		{tenth, impl.MaxAmount, 7, 0, 7, impl.ErrNone},
		{tenth, 1000000, greatestDay, 0, greatestDay, impl.ErrNone},
		// The last day of a date, and none.
		{tenth, 1000000, 20000, 1652400, greatestDay, impl.ErrNone},
		{tenth, 1000000, 20000, 1652301, greatestDay, impl.ErrNone},
		{tenth, 1000000, 20000, 1652300, greatestDay - 1, impl.ErrNone},
		{tenth, 1000000, 20000, 1652401, 0, none},
		{tenth, 1000000, greatestDay - 1, 100, greatestDay, impl.ErrNone},
		{tenth, 1000000, greatestDay - 1, 101, 0, none},
		{tenth, 1000000, greatestDay, 1, 0, none},
		{whole, impl.MaxAmount, greatestDay, 1, 0, none},
		{whole, impl.MaxAmount, greatestDay - 364, impl.MaxAmount, 0, none},
		{whole, impl.MaxAmount, greatestDay - 365, impl.MaxAmount, greatestDay, impl.ErrNone},
		{tenth, 0, 0, 1, 0, none},
		{schedule(0, 0), impl.MaxAmount, 0, 1, 0, none},
		{schedule(greatestDay, impl.MaxPoints), impl.MaxAmount, 0, 1, 0, none},
		{schedule(greatestDay-1, impl.MaxPoints), impl.MaxAmount, 0, 1, greatestDay, impl.ErrNone},
		// Interest that is rounded up from just a half counts, and that below it does not.
		{schedule(50, 1000), 1825, 50, 1, 51, impl.ErrNone},
		{schedule(50, 999), 1825, 50, 1, 52, impl.ErrNone},
		{schedule(50, 5000), 1, 50, 1, 50 + 365, impl.ErrNone},
		{schedule(50, 5000), 1, 50, 2, 50 + 3*365, impl.ErrNone},
		// Days without points between two steps.
		{schedule(100, 365, 110, 0, 200, 365), 1000000, 0, 1000, 110, impl.ErrNone},
		{schedule(100, 365, 110, 0, 200, 365), 1000000, 0, 1001, 201, impl.ErrNone},
		{schedule(100, 365, 110, 0), 1000000, 0, 1001, 0, none},
		// Just the last amount, and interest that is greater than any amount on the day.
		{whole, impl.MaxAmount, 50, impl.MaxAmount, 50 + 365, impl.ErrNone},
		{whole, impl.MaxAmount, 50, impl.MaxAmount - 1, 50 + 365, impl.ErrNone},
		{whole, impl.MaxAmount, 0, impl.MaxAmount, 50 + 365, impl.ErrNone},
		{schedule(50, 9999), impl.MaxAmount, 50, impl.MaxAmount, 50 + 366, impl.ErrNone},
		{schedule(50, 9999), impl.MaxAmount, 50, 999900000, 50 + 365, impl.ErrNone},
		{schedule(50, 9999), impl.MaxAmount, 50, 999900001, 50 + 366, impl.ErrNone},
		{schedule(greatestDay-366, 9999), impl.MaxAmount, 0, impl.MaxAmount, greatestDay, impl.ErrNone},
		{schedule(greatestDay-365, 9999), impl.MaxAmount, 0, impl.MaxAmount, 0, none},
	} {
		got, code := impl.DayWhenReached(c.list, c.amount, c.from, c.interest)
		wantInt(t, fmt.Sprintf("DayWhenReached %v", c), got, code, c.want, c.code)
	}
}

// reachedByHand halves the days, because interest of a longer time is not less.
func reachedByHand(list []impl.Step, amount, from, interest int64) (int64, int64) {
	lacks := func(to int64) bool {
		return nearestByHand(amount, weightByHand(list, from, to), 2*half).Cmp(big.NewInt(interest)) < 0
	}
	if lacks(greatestDay) {
		return 0, impl.ErrNotFound
	}
	least, most := from, int64(greatestDay)
	for least < most {
		middle := (least + most) / 2
		if lacks(middle) {
			least = middle + 1
		} else {
			most = middle
		}
	}
	return least, impl.ErrNone
}

func TestDayWhenReachedByHand(t *testing.T) {
	random := fixedRandom()
	for range 2000 {
		list, amount := anySchedule(random), anyAmount(random)
		from, interest := anyDay(random, list), anyAmount(random)
		if random.IntN(2) == 0 {
			// Interest that is reached just on a day.
			to := anyDay(random, list)
			interest, _ = asAmount(nearestByHand(amount, weightByHand(list, from, to), 2*half))
		}
		want, wantCode := reachedByHand(list, amount, from, interest)
		got, code := impl.DayWhenReached(list, amount, from, interest)
		wantInt(t, fmt.Sprint("DayWhenReached ", list, amount, from, interest), got, code, want, wantCode)
	}
}

func TestTotalDue(t *testing.T) {
	tenth := schedule(20000, 365)
	for _, c := range []struct {
		list                                     []impl.Step
		amount, commission, from, to, want, code int64
	}{
		{tenth, 1000000, 200, 20000, 20010, 1021000, impl.ErrNone},
		{tenth, 1000000, 0, 20000, 20010, 1001000, impl.ErrNone},
		{tenth, 1000000, 200, 20010, 20010, 1020000, impl.ErrNone},
		{tenth, 1000000, 200, 20010, 20000, 1020000, impl.ErrNone},
		{tenth, 1000000, impl.MaxPoints, 19990, 20010, 2001000, impl.ErrNone},
		{tenth, 0, impl.MaxPoints, 0, greatestDay, 0, impl.ErrNone},
		// Two halves are rounded each by itself; there is no interest on the commission.
		{schedule(50, 5000), 1, 5000, 50, 50 + 365, 3, impl.ErrNone},
		{schedule(50, 4999), 1, 5000, 50, 50 + 365, 2, impl.ErrNone},
		{schedule(50, 5000), 1, 4999, 50, 50 + 365, 2, impl.ErrNone},
		{schedule(50, 4999), 1, 4999, 50, 50 + 365, 1, impl.ErrNone},
		{schedule(50, impl.MaxPoints), 100, impl.MaxPoints, 50, 50 + 365, 300, impl.ErrNone},
		// The last amount, and one beyond, by the commission, by the interest and by both.
		{tenth, impl.MaxAmount, 0, 0, 20000, impl.MaxAmount, impl.ErrNone},
		{tenth, 500000000, impl.MaxPoints, 0, 20000, impl.MaxAmount, impl.ErrNone},
		{tenth, 500000001, impl.MaxPoints, 0, 20000, 0, impl.ErrLimit},
		{tenth, impl.MaxAmount, 1, 0, 20000, 0, impl.ErrLimit},
		{tenth, impl.MaxAmount, 0, 20000, 20001, 0, impl.ErrLimit},
		{schedule(0, 1), impl.MaxAmount - 274, 0, 0, 1, impl.MaxAmount, impl.ErrNone},
		{schedule(0, 1), impl.MaxAmount - 273, 0, 0, 1, 0, impl.ErrLimit},
		{schedule(50, impl.MaxPoints), 500000000, 0, 50, 50 + 365, impl.MaxAmount, impl.ErrNone},
		{schedule(50, impl.MaxPoints), 500000001, 0, 50, 50 + 365, 0, impl.ErrLimit},
		{schedule(50, 9900), 500000000, 100, 50, 50 + 365, impl.MaxAmount, impl.ErrNone},
		{schedule(50, 9900), 500000001, 100, 50, 50 + 365, 0, impl.ErrLimit},
		// Interest that is no amount by itself.
		{schedule(0, impl.MaxPoints), impl.MaxAmount, 0, 0, greatestDay, 0, impl.ErrLimit},
		{schedule(0, impl.MaxPoints), impl.MaxAmount, impl.MaxPoints, 0, greatestDay, 0, impl.ErrLimit},
	} {
		got, code := impl.TotalDue(c.list, c.amount, c.commission, c.from, c.to)
		wantInt(t, fmt.Sprintf("TotalDue %v", c), got, code, c.want, c.code)
	}
}

func TestTotalDueByHand(t *testing.T) {
	random := fixedRandom()
	for range 2000 {
		list, amount, commission := anySchedule(random), anyAmount(random), anyPoints(random)
		from, to := anyDay(random, list), anyDay(random, list)
		want := nearestByHand(amount, weightByHand(list, from, to), 2*half)
		want.Add(want, nearestByHand(amount, commission, 10000))
		want.Add(want, big.NewInt(amount))
		got, code := impl.TotalDue(list, amount, commission, from, to)
		wantAmount(t, fmt.Sprint("TotalDue ", list, amount, commission, from, to), got, code, want)
	}
}

// scheduleCall is a call of a function that takes a schedule, with an amount, points, an amount or a
// day, and a day, as far as it takes them.
type scheduleCall struct {
	name string
	call func(list []impl.Step, amount, other, from, to int64) (int64, int64)
	// takes tells which of the four numbers are checked, and with which other ones they are wrong.
	takes [4][]int64
}

func scheduleCalls() []scheduleCall {
	return []scheduleCall{
		{"PointsOn", func(list []impl.Step, _, _, from, _ int64) (int64, int64) { return impl.PointsOn(list, from) },
			[4][]int64{2: notDays}},
		{"WeightOf", func(list []impl.Step, _, _, from, to int64) (int64, int64) { return impl.WeightOf(list, from, to) },
			[4][]int64{2: notDays, 3: notDays}},
		{"InterestBetween", func(list []impl.Step, amount, _, from, to int64) (int64, int64) {
			return impl.InterestBetween(list, amount, from, to)
		}, [4][]int64{0: notAmounts, 2: notDays, 3: notDays}},
		{"DayWhenReached", func(list []impl.Step, amount, other, from, _ int64) (int64, int64) {
			return impl.DayWhenReached(list, amount, from, other)
		}, [4][]int64{0: notAmounts, 1: notAmounts, 2: notDays}},
		{"TotalDue", func(list []impl.Step, amount, other, from, to int64) (int64, int64) {
			return impl.TotalDue(list, amount, other, from, to)
		}, [4][]int64{0: notAmounts, 1: notPoints, 2: notDays, 3: notDays}},
	}
}

// TestNoSchedule has ErrInvalid before all other errors.
func TestNoSchedule(t *testing.T) {
	for _, c := range scheduleCalls() {
		for _, list := range notSchedules() {
			for _, n := range []int64{0, 5, -1, math.MinInt64, math.MaxInt64} {
				got, code := c.call(list, n, n, n, n)
				wantInt(t, c.name+" of "+shownSteps(list), got, code, 0, impl.ErrInvalid)
			}
			got, code := c.call(list, impl.MaxAmount, impl.MaxPoints, 0, greatestDay)
			wantInt(t, c.name+" of "+shownSteps(list), got, code, 0, impl.ErrInvalid)
		}
	}
}

// TestScheduleRanges has ErrRange for each number by itself, also where the result would be 0, or no
// amount, or not be found.
func TestScheduleRanges(t *testing.T) {
	for _, c := range scheduleCalls() {
		for place, wrong := range c.takes {
			for _, n := range wrong {
				for _, right := range [][4]int64{
					{0, 0, 0, 0},
					{5, 5, 5, 5},
					{5, 5, greatestDay, 0},
					{0, 10000, 0, greatestDay},
					{impl.MaxAmount, 10000, 0, greatestDay},
				} {
					right[place] = n
					for _, list := range [][]impl.Step{sampleSchedule(), schedule(0, impl.MaxPoints), schedule(greatestDay, 0)} {
						got, code := c.call(list, right[0], right[1], right[2], right[3])
						wantInt(t, fmt.Sprint(c.name, list, right), got, code, 0, impl.ErrRange)
					}
				}
			}
		}
	}
}

func TestInterestKeepsItsArguments(t *testing.T) {
	others := []impl.Step{{Day: 30000, Points: 77}, {Day: -1, Points: -1}}
	for _, c := range scheduleCalls() {
		list, kept := inSpareRoom(sampleSchedule(), others...)
		first, code := c.call(list, 1000000, 200, 90, 400)
		second, again := c.call(list, 1000000, 200, 90, 400)
		if first != second || code != impl.ErrNone || again != impl.ErrNone || !kept() {
			t.Errorf("%s: %d and %d, codes %d and %d; kept %t", c.name, first, second, code, again, kept())
		}
	}
	list, kept := inSpareRoom(sampleSchedule(), others...)
	if !impl.IsSchedule(list) || !kept() {
		t.Error("IsSchedule")
	}
}
