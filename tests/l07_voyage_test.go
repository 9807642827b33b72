package tests

import (
	"fmt"
	"math"
	"math/rand/v2"
	"regexp"
	"slices"
	"strings"
	"testing"

	"loop.example/g01010/impl"
)

// The functions have the signatures that the chapter lists, and the constant is untyped.
var (
	_ func([]impl.Stop) bool                               = impl.IsVoyage
	_ func([]impl.Stop, int64) (string, int64)             = impl.PortOn
	_ func([]impl.Stop, int64) (int64, int64)              = impl.LegOn
	_ func([]impl.Stop, int64, int64) (int64, int64)       = impl.DaysAtSea
	_ func([]impl.Stop, impl.Stop) ([]impl.Stop, int64)    = impl.InsertRefuge
	_ func([]impl.Stop, int64, int64) ([]impl.Stop, int64) = impl.DelayBy
	_ func([]impl.Stop) (int64, int64)                     = impl.LastDay
	_ func([]impl.Stop) (string, int64)                    = impl.VoyageText
	_ func(string) ([]impl.Stop, int64)                    = impl.ReadVoyage
	_ struct {
		Port string
		In   int64
		Out  int64
	} = impl.Stop{}
)

const (
	_ int8    = impl.MaxStops
	_ float64 = impl.MaxStops
)

// mostDelay is the greatest number of days by which a voyage is delayed.
const mostDelay = 1000

// farInts are integers at both ends of int64, and others that would be small if bits were lost; no day,
// index or delay is one.
var farInts = []int64{math.MinInt64, math.MinInt64 + 1, math.MaxInt64, math.MaxInt64 - 1, -1 << 32, 1 << 32, 1<<32 + 1, 1 << 62, -1 << 62}

func stop(port string, in, out int64) impl.Stop { return impl.Stop{Port: port, In: in, Out: out} }

// voyage has a stop for every two days.
func voyage(days ...int64) []impl.Stop {
	list := []impl.Stop{}
	for i := 0; i < len(days); i += 2 {
		list = append(list, stop(string([]byte{'p', 'a' + byte(i/2%26)}), days[i], days[i+1]))
	}
	return list
}

// sampleVoyage has stops of several days and of one day, with and without days at sea between them, and
// one port in which the ship is twice.
func sampleVoyage() []impl.Stop {
	return []impl.Stop{stop("oslo", 100, 103), stop("lima", 110, 110), stop("york", 111, 115), stop("oslo", 117, 120), stop("a", 150, 160)}
}

// longVoyage has count stops of two days, with two days at sea between them.
func longVoyage(count int) []impl.Stop {
	list := []impl.Stop{}
	for i := range int64(count) {
		list = append(list, stop("port", 20+4*i, 21+4*i))
	}
	return list
}

// voyages are lists that are voyages.
func voyages() [][]impl.Stop {
	lists := [][]impl.Stop{
		{stop("a", 0, 0)},
		{stop("zzzzzz", 0, greatestDay)},
		{stop("oslo", greatestDay, greatestDay)},
		{stop("oslo", 20000, 20001)},
		voyage(0, 0, 1, 1),
		voyage(0, 0, 1, greatestDay),
		voyage(0, 0, greatestDay, greatestDay),
		voyage(0, greatestDay-1, greatestDay, greatestDay),
		voyage(0, greatestDay-2, greatestDay, greatestDay),
		voyage(0, 0, 2, 2, 4, 4),
		voyage(0, 0, 1, 1, 2, 2),
		voyage(greatestDay-2, greatestDay-2, greatestDay-1, greatestDay-1, greatestDay, greatestDay),
		voyage(3, 5, 6, 9, 11, 11, 13, 14),
		// Ports may be the same, side by side and apart.
		{stop("a", 5, 6), stop("a", 7, 8)},
		{stop("b", 5, 6), stop("a", 8, 8), stop("b", 9, 9)},
		sampleVoyage(),
	}
	for count := 1; count <= impl.MaxStops; count++ {
		lists = append(lists, longVoyage(count))
		days := []int64{}
		for i := range int64(count) {
			days = append(days, i, i)
		}
		lists = append(lists, voyage(days...))
	}
	return lists
}

// notStops are stops that no voyage may have; but for what is wrong, they are at the days 500 to 600.
func notStops() []impl.Stop {
	list := []impl.Stop{{}, stop("", 0, 0), stop("mm", 501, 500), stop("mm", 600, 500), stop("mm", 600, 0), stop("mm", greatestDay, 0), stop("mm", 1, 0), stop("mm", greatestDay, greatestDay-1)}
	for _, s := range notPartyCodes {
		list = append(list, stop(s, 500, 600))
	}
	for _, n := range notDays {
		list = append(list, stop("mm", n, 600), stop("mm", 500, n), stop("mm", n, n))
	}
	for _, n := range farInts {
		list = append(list, stop("mm", n, 600), stop("mm", 500, n), stop("mm", n, n), stop("mm", math.MinInt64, n), stop("mm", math.MaxInt64, n), stop("", n, n))
	}
	return list
}

// notVoyages are lists that are no voyages.
func notVoyages() [][]impl.Stop {
	lists := [][]impl.Stop{
		nil,
		{},
		longVoyage(impl.MaxStops + 1),
		longVoyage(impl.MaxStops + 2),
		longVoyage(256),
		longVoyage(256 + 1),
		longVoyage(256 + impl.MaxStops),
		longVoyage(5000),
		make([]impl.Stop, 1),
		make([]impl.Stop, impl.MaxStops),
		make([]impl.Stop, 100000),
		slices.Repeat([]impl.Stop{stop("a", 5, 6)}, 2),
		slices.Repeat([]impl.Stop{stop("a", 5, 6)}, 100000),
		// An In is on the Out before it, or before it, side by side and apart.
		voyage(0, 0, 0, 0),
		voyage(0, 1, 1, 1),
		voyage(0, 1, 1, 5),
		voyage(0, 2, 1, 5),
		voyage(0, 9, 3, 5),
		voyage(3, 5, 0, 9),
		voyage(5, 6, 3, 4),
		voyage(5, 6, 3, 5),
		voyage(0, greatestDay, greatestDay, greatestDay),
		voyage(greatestDay, greatestDay, 0, 0),
		voyage(0, 1, 3, 4, 4, 5),
		voyage(0, 1, 3, 4, 3, 5),
		voyage(0, 1, 3, 4, 1, 2),
		voyage(0, 1, 3, 4, 2, 2),
		voyage(0, 1, 1, 4, 6, 7),
		voyage(6, 7, 3, 4, 0, 1),
		// An Out is before its In.
		voyage(1, 0),
		voyage(5, 4, 6, 6),
		voyage(5, 4, 5, 6),
		voyage(0, 0, 6, 5),
		voyage(0, 0, 2, 1, 3, 3),
	}
	for i := range sampleVoyage() {
		lists = append(lists, slices.Insert(sampleVoyage(), i, sampleVoyage()[i]))
		if i > 0 {
			swapped := sampleVoyage()
			swapped[i-1], swapped[i] = swapped[i], swapped[i-1]
			lists = append(lists, swapped)
		}
	}
	reversed := sampleVoyage()
	slices.Reverse(reversed)
	lists = append(lists, reversed)
	for _, s := range notStops() {
		front, back := stop("a", 1, 2), stop("z", 700, 800)
		lists = append(lists, []impl.Stop{s}, []impl.Stop{front, s}, []impl.Stop{s, back}, []impl.Stop{front, s, back})
	}
	return lists
}

// shownStops writes the first stops of a list for a message, with ports quoted, and cut if they are
// long.
func shownStops(list []impl.Stop) string {
	texts := []string{}
	for _, s := range list[:min(len(list), impl.MaxStops+1)] {
		texts = append(texts, shownStop(s))
	}
	return fmt.Sprintf("%d stops %v", len(list), texts)
}

func shownStop(s impl.Stop) string { return fmt.Sprintf("{%.20q %d %d}", s.Port, s.In, s.Out) }

func wantStops(t *testing.T, what string, got []impl.Stop, code int64, want []impl.Stop, wantCode int64) {
	t.Helper()
	if code != wantCode || !slices.Equal(got, want) {
		t.Errorf("%s: got %s, code %d; want %s, code %d", what, shownStops(got), code, shownStops(want), wantCode)
	}
}

func isStopByHand(s impl.Stop) bool {
	return codePattern.MatchString(s.Port) && s.In >= 0 && s.In <= s.Out && s.Out <= greatestDay
}

// isVoyageByHand goes through all pairs of stops.
func isVoyageByHand(list []impl.Stop) bool {
	for i, s := range list {
		for _, earlier := range list[:i] {
			if earlier.Out >= s.In {
				return false
			}
		}
		if !isStopByHand(s) {
			return false
		}
	}
	return len(list) >= 1 && len(list) <= 10
}

// dayByHand tells where the ship is on a day of a voyage: the index of the stop in whose port it is, or
// -1 if it is in none, and the number of all stops that it has left, minus 1.
func dayByHand(list []impl.Stop, day int64) (stay int, leg int64) {
	stay, leg = -1, -1
	for i, s := range list {
		if s.In <= day && day <= s.Out {
			stay = i
		}
		if s.Out < day {
			leg++
		}
	}
	return stay, leg
}

// isOutside tells whether a day is before the first In or behind the last Out.
func isOutside(list []impl.Stop, day int64) bool {
	return day < list[0].In || day > list[len(list)-1].Out
}

// atSeaByHand counts the days one by one.
func atSeaByHand(list []impl.Stop, from, to int64) int64 {
	count := int64(0)
	for day := from; day <= to; day++ {
		if stay, _ := dayByHand(list, day); stay < 0 && !isOutside(list, day) {
			count++
		}
	}
	return count
}

// anyVoyage has days near each other, and often stops without days at sea between them.
func anyVoyage(random *rand.Rand, count int) []impl.Stop {
	list := []impl.Stop{}
	day := random.Int64N(30)
	if random.IntN(3) == 0 {
		day = greatestDay - random.Int64N(30) - 6*int64(count)
	}
	for range count {
		out := day + random.Int64N(4)
		list = append(list, stop(anyPartyCode(random), day, out))
		day = out + 1 + max(0, random.Int64N(5)-2)
	}
	return list
}

// voyageDays are days of dates in and around a voyage.
func voyageDays(list []impl.Stop) []int64 {
	days := []int64{0, 1, greatestDay - 1, greatestDay}
	for _, s := range list {
		days = append(days, s.In-2, s.In-1, s.In, s.In+1, (s.In+s.Out)/2, s.Out-1, s.Out, s.Out+1, s.Out+2)
	}
	slices.Sort(days)
	return slices.DeleteFunc(slices.Compact(days), func(day int64) bool { return day < 0 || day > greatestDay })
}

func TestConstantsOfVoyage(t *testing.T) {
	if impl.MaxStops != 10 {
		t.Error(impl.MaxStops)
	}
}

func TestIsVoyage(t *testing.T) {
	for _, list := range voyages() {
		if !impl.IsVoyage(list) {
			t.Errorf("%s are a voyage", shownStops(list))
		}
	}
	for _, list := range notVoyages() {
		if impl.IsVoyage(list) {
			t.Errorf("%s are no voyage", shownStops(list))
		}
	}
}

// TestIsVoyageOfAllDays has all lists of up to three stops with days at both ends of the dates, and one
// beyond them.
func TestIsVoyageOfAllDays(t *testing.T) {
	check := func(list []impl.Stop) {
		t.Helper()
		if got := impl.IsVoyage(list); got != isVoyageByHand(list) {
			t.Errorf("IsVoyage %s: got %t", shownStops(list), got)
		}
	}
	few := []int64{-1, 0, 1, 2, greatestDay - 1, greatestDay, greatestDay + 1}
	for _, a := range few {
		for _, b := range few {
			check(voyage(a, b))
			for _, c := range few {
				for _, d := range few {
					check(voyage(a, b, c, d))
					for _, e := range few {
						for _, f := range few {
							check(voyage(a, b, c, d, e, f))
						}
					}
				}
			}
		}
	}
}

func TestIsVoyageOfAnyStops(t *testing.T) {
	random := fixedRandom()
	for range 20000 {
		list := anyVoyage(random, 1+random.IntN(impl.MaxStops))
		if !impl.IsVoyage(list) {
			t.Fatalf("%s are a voyage", shownStops(list))
		}
		for i := range list {
			changed := slices.Clone(list)
			switch random.IntN(3) {
			case 0:
				changed[i].In += random.Int64N(9) - 4
			case 1:
				changed[i].Out += random.Int64N(9) - 4
			default:
				changed[i].Port = notPartyCodes[random.IntN(20)]
			}
			if got := impl.IsVoyage(changed); got != isVoyageByHand(changed) {
				t.Fatalf("IsVoyage %s: got %t", shownStops(changed), got)
			}
		}
	}
}

func TestPortOnAndLegOn(t *testing.T) {
	for _, c := range []struct {
		day      int64
		port     string
		portCode int64
		leg      int64
		legCode  int64
	}{
		{0, "", impl.ErrNotFound, 0, impl.ErrNotFound},
		{98, "", impl.ErrNotFound, 0, impl.ErrNotFound},
		{99, "", impl.ErrNotFound, 0, impl.ErrNotFound},
		{100, "oslo", impl.ErrNone, 0, impl.ErrState},
		{101, "oslo", impl.ErrNone, 0, impl.ErrState},
		{103, "oslo", impl.ErrNone, 0, impl.ErrState},
		{104, "", impl.ErrNone, 0, impl.ErrNone},
		{107, "", impl.ErrNone, 0, impl.ErrNone},
		{109, "", impl.ErrNone, 0, impl.ErrNone},
		{110, "lima", impl.ErrNone, 0, impl.ErrState},
		{111, "york", impl.ErrNone, 0, impl.ErrState},
		{115, "york", impl.ErrNone, 0, impl.ErrState},
		{116, "", impl.ErrNone, 2, impl.ErrNone},
		{117, "oslo", impl.ErrNone, 0, impl.ErrState},
		{120, "oslo", impl.ErrNone, 0, impl.ErrState},
		{121, "", impl.ErrNone, 3, impl.ErrNone},
		{149, "", impl.ErrNone, 3, impl.ErrNone},
		{150, "a", impl.ErrNone, 0, impl.ErrState},
		{160, "a", impl.ErrNone, 0, impl.ErrState},
		{161, "", impl.ErrNotFound, 0, impl.ErrNotFound},
		{162, "", impl.ErrNotFound, 0, impl.ErrNotFound},
		{greatestDay, "", impl.ErrNotFound, 0, impl.ErrNotFound},
	} {
		port, code := impl.PortOn(sampleVoyage(), c.day)
		wantText(t, fmt.Sprint("PortOn ", c.day), port, code, c.port, c.portCode)
		leg, code := impl.LegOn(sampleVoyage(), c.day)
		wantInt(t, fmt.Sprint("LegOn ", c.day), leg, code, c.leg, c.legCode)
	}
	last, code := impl.LegOn(longVoyage(impl.MaxStops), 55)
	wantInt(t, "LegOn of the last leg", last, code, 8, impl.ErrNone)
	only := voyage(0, 0, greatestDay, greatestDay)
	for _, day := range []int64{1, 2, 20000, greatestDay - 1} {
		leg, code := impl.LegOn(only, day)
		wantInt(t, fmt.Sprint("LegOn of the longest leg on ", day), leg, code, 0, impl.ErrNone)
	}
}

// checkDay compares all that is told of a day with what is found by hand, and tells whether the ship is
// at sea. Within a voyage either PortOn tells a port or LegOn a leg: this is promise 8.
func checkDay(t *testing.T, list []impl.Stop, day int64) bool {
	t.Helper()
	what := fmt.Sprintf("on day %d of %s", day, shownStops(list))
	port, portCode := impl.PortOn(list, day)
	leg, legCode := impl.LegOn(list, day)
	days, daysCode := impl.DaysAtSea(list, day, day)
	stay, left := dayByHand(list, day)
	switch {
	case isOutside(list, day):
		wantText(t, "PortOn "+what, port, portCode, "", impl.ErrNotFound)
		wantInt(t, "LegOn "+what, leg, legCode, 0, impl.ErrNotFound)
		wantInt(t, "DaysAtSea "+what, days, daysCode, 0, impl.ErrNone)
		return false
	case stay >= 0:
		wantText(t, "PortOn "+what, port, portCode, list[stay].Port, impl.ErrNone)
		wantInt(t, "LegOn "+what, leg, legCode, 0, impl.ErrState)
		wantInt(t, "DaysAtSea "+what, days, daysCode, 0, impl.ErrNone)
		return false
	}
	wantText(t, "PortOn "+what, port, portCode, "", impl.ErrNone)
	wantInt(t, "LegOn "+what, leg, legCode, left, impl.ErrNone)
	wantInt(t, "DaysAtSea "+what, days, daysCode, 1, impl.ErrNone)
	return true
}

// TestInPortOrAtSea is promise 8.
func TestInPortOrAtSea(t *testing.T) {
	for _, list := range voyages() {
		for _, day := range voyageDays(list) {
			checkDay(t, list, day)
		}
	}
	random := fixedRandom()
	lists := [][]impl.Stop{sampleVoyage(), longVoyage(impl.MaxStops)}
	for range 2000 {
		lists = append(lists, anyVoyage(random, 1+random.IntN(impl.MaxStops)))
	}
	for _, list := range lists {
		first := list[0].In
		last, code := impl.LastDay(list)
		wantInt(t, "LastDay "+shownStops(list), last, code, list[len(list)-1].Out, impl.ErrNone)
		inPort, atSea := int64(0), int64(0)
		for _, s := range list {
			inPort += s.Out - s.In + 1
		}
		for day := first; day <= last; day++ {
			if checkDay(t, list, day) {
				atSea++
			}
		}
		days, code := impl.DaysAtSea(list, first, last)
		wantInt(t, "DaysAtSea of all days of "+shownStops(list), days, code, atSea, impl.ErrNone)
		if inPort+days != last-first+1 {
			t.Errorf("%s: %d days in ports and %d at sea are not all %d", shownStops(list), inPort, days, last-first+1)
		}
	}
}

func TestDaysAtSea(t *testing.T) {
	for _, c := range []struct{ from, to, want int64 }{
		// Inside one stop, on its limits, and beside it.
		{100, 103, 0}, {101, 102, 0}, {101, 101, 0}, {110, 110, 0}, {103, 104, 1}, {109, 110, 1}, {109, 111, 1}, {110, 111, 0}, {110, 115, 0},
		// Inside one leg.
		{104, 109, 6}, {104, 104, 1}, {109, 109, 1}, {105, 107, 3}, {116, 116, 1}, {121, 149, 29}, {130, 131, 2},
		// Over several stops and legs.
		{100, 110, 6}, {100, 116, 7}, {102, 118, 7}, {105, 116, 6}, {109, 121, 3}, {100, 160, 36}, {104, 149, 36}, {108, 122, 5},
		// Outside the voyage on one side and on both.
		{0, 99, 0}, {0, 100, 0}, {0, 104, 1}, {90, 110, 6}, {161, 170, 0}, {160, 170, 0}, {149, 170, 1}, {116, greatestDay, 30}, {0, greatestDay, 36}, {99, 161, 36}, {0, 0, 0}, {greatestDay, greatestDay, 0},
		// To is before from.
		{104, 103, 0}, {109, 104, 0}, {106, 105, 0}, {160, 100, 0}, {161, 99, 0}, {149, 121, 0}, {greatestDay, 0, 0}, {116, 104, 0}, {99, 0, 0}, {1, 0, 0},
	} {
		got, code := impl.DaysAtSea(sampleVoyage(), c.from, c.to)
		wantInt(t, fmt.Sprint("DaysAtSea ", c.from, c.to), got, code, c.want, impl.ErrNone)
	}
	for _, c := range []struct {
		list           []impl.Stop
		from, to, want int64
	}{
		{voyage(0, 0, greatestDay, greatestDay), 0, greatestDay, greatestDay - 1},
		{voyage(0, 0, greatestDay, greatestDay), 1, greatestDay - 1, greatestDay - 1},
		{voyage(0, 0, greatestDay, greatestDay), 2, greatestDay - 2, greatestDay - 3},
		{voyage(0, greatestDay), 0, greatestDay, 0},
		{voyage(5, 5), 0, greatestDay, 0},
		{voyage(0, 0, 1, 1), 0, greatestDay, 0},
		{voyage(0, 0, 2, 2), 0, greatestDay, 1},
		{longVoyage(impl.MaxStops), 0, greatestDay, 18},
		{longVoyage(1), 0, greatestDay, 0},
	} {
		got, code := impl.DaysAtSea(c.list, c.from, c.to)
		wantInt(t, fmt.Sprint("DaysAtSea ", shownStops(c.list), c.from, c.to), got, code, c.want, impl.ErrNone)
	}
}

func TestDaysAtSeaByHand(t *testing.T) {
	random := fixedRandom()
	lists := [][]impl.Stop{sampleVoyage(), longVoyage(3), voyage(0, 0, 2, 3, 9, 9), voyage(5, 8), voyage(0, 1, 3, 3)}
	for range 200 {
		lists = append(lists, anyVoyage(random, 1+random.IntN(impl.MaxStops)))
	}
	for _, list := range lists {
		days := []int64{}
		for _, day := range voyageDays(list) {
			if day > list[0].In-5 && day < list[len(list)-1].Out+5 {
				days = append(days, day)
			}
		}
		for _, from := range days {
			for _, to := range days {
				got, code := impl.DaysAtSea(list, from, to)
				wantInt(t, fmt.Sprint("DaysAtSea ", shownStops(list), from, to), got, code, atSeaByHand(list, from, to), impl.ErrNone)
			}
		}
	}
}

type voyageCall struct {
	name string
	call func(list []impl.Stop, day int64) (zero bool, code int64)
}

// dayCalls are the functions with an argument that is a day.
func dayCalls() []voyageCall {
	return []voyageCall{
		{"PortOn", func(list []impl.Stop, day int64) (bool, int64) {
			got, code := impl.PortOn(list, day)
			return got == "", code
		}},
		{"LegOn", func(list []impl.Stop, day int64) (bool, int64) {
			got, code := impl.LegOn(list, day)
			return got == 0, code
		}},
		{"DaysAtSea from", func(list []impl.Stop, day int64) (bool, int64) {
			got, code := impl.DaysAtSea(list, day, 110)
			return got == 0, code
		}},
		{"DaysAtSea to", func(list []impl.Stop, day int64) (bool, int64) {
			got, code := impl.DaysAtSea(list, 105, day)
			return got == 0, code
		}},
		{"DaysAtSea", func(list []impl.Stop, day int64) (bool, int64) {
			got, code := impl.DaysAtSea(list, day, day)
			return got == 0, code
		}},
		{"DaysAtSea up to no day", func(list []impl.Stop, day int64) (bool, int64) {
			got, code := impl.DaysAtSea(list, day, math.MaxInt64)
			return got == 0, code
		}},
	}
}

// otherCalls are the functions with other arguments, or none, which a number stands for.
func otherCalls() []voyageCall {
	return []voyageCall{
		{"InsertRefuge", func(list []impl.Stop, n int64) (bool, int64) {
			got, code := impl.InsertRefuge(list, stop("mm", n, n))
			return got == nil, code
		}},
		{"InsertRefuge at any stop", func(list []impl.Stop, n int64) (bool, int64) {
			got, code := impl.InsertRefuge(list, stop("", n, 4))
			return got == nil, code
		}},
		{"DelayBy days", func(list []impl.Stop, n int64) (bool, int64) {
			got, code := impl.DelayBy(list, 0, n)
			return got == nil, code
		}},
		{"DelayBy index", func(list []impl.Stop, n int64) (bool, int64) {
			got, code := impl.DelayBy(list, n, 1)
			return got == nil, code
		}},
		{"LastDay", func(list []impl.Stop, _ int64) (bool, int64) {
			got, code := impl.LastDay(list)
			return got == 0, code
		}},
		{"VoyageText", func(list []impl.Stop, _ int64) (bool, int64) {
			got, code := impl.VoyageText(list)
			return got == "", code
		}},
	}
}

// TestNoVoyage has lists that are no voyage beside arguments that would be wrong too: ErrInvalid is first.
func TestNoVoyage(t *testing.T) {
	for _, list := range notVoyages() {
		for _, c := range append(dayCalls(), otherCalls()...) {
			for _, n := range []int64{0, 1, 5, 105, 500, 1000, 1001, -1, greatestDay, greatestDay + 1, math.MinInt64, math.MaxInt64} {
				if zero, code := c.call(list, n); !zero || code != impl.ErrInvalid {
					t.Errorf("%s %d of %s: zero value %t, code %d", c.name, n, shownStops(list), zero, code)
				}
			}
		}
	}
}

// TestDaysOfNoDate has days that are none of a date, which are also outside the voyages.
func TestDaysOfNoDate(t *testing.T) {
	for _, list := range voyages() {
		for _, c := range dayCalls() {
			for _, day := range slices.Concat(notDays, farInts) {
				if zero, code := c.call(list, day); !zero || code != impl.ErrRange {
					t.Errorf("%s %d of %s: zero value %t, code %d", c.name, day, shownStops(list), zero, code)
				}
			}
		}
	}
}

// insertCase has a voyage, a further stop, and its place in the result, or 0 for ErrState.
type insertCase struct {
	list []impl.Stop
	s    impl.Stop
	at   int
}

func insertCases() []insertCase {
	list := []insertCase{
		// Between two stops, with room.
		{sampleVoyage(), stop("cork", 104, 109), 1},
		{sampleVoyage(), stop("cork", 104, 104), 1},
		{sampleVoyage(), stop("cork", 109, 109), 1},
		{sampleVoyage(), stop("cork", 106, 107), 1},
		{sampleVoyage(), stop("cork", 116, 116), 3},
		{sampleVoyage(), stop("cork", 121, 149), 4},
		{sampleVoyage(), stop("oslo", 105, 105), 1},
		{sampleVoyage(), stop("lima", 105, 105), 1},
		{voyage(0, 0, 2, 2), stop("z", 1, 1), 1},
		{voyage(0, 0, greatestDay, greatestDay), stop("z", 1, greatestDay-1), 1},
		{voyage(0, 0, greatestDay, greatestDay), stop("aaaaaa", greatestDay-1, greatestDay-1), 1},
		{longVoyage(impl.MaxStops - 1), stop("cork", 50, 51), 8},
		{longVoyage(impl.MaxStops - 1), stop("cork", 22, 23), 1},
		// Between two stops, without room.
		{sampleVoyage(), stop("cork", 103, 104), 0},
		{sampleVoyage(), stop("cork", 103, 103), 0},
		{sampleVoyage(), stop("cork", 109, 110), 0},
		{sampleVoyage(), stop("cork", 104, 110), 0},
		{sampleVoyage(), stop("cork", 104, 115), 0},
		{sampleVoyage(), stop("cork", 110, 110), 0},
		{sampleVoyage(), stop("cork", 111, 111), 0},
		{sampleVoyage(), stop("cork", 110, 111), 0},
		{sampleVoyage(), stop("cork", 115, 116), 0},
		{sampleVoyage(), stop("cork", 116, 117), 0},
		{sampleVoyage(), stop("cork", 112, 113), 0},
		{sampleVoyage(), stop("cork", 105, 118), 0},
		{sampleVoyage(), stop("cork", 116, 149), 0},
		{sampleVoyage(), stop("cork", 100, 160), 0},
		{sampleVoyage(), stop("cork", 99, 161), 0},
		{voyage(0, 0, 1, 1), stop("z", 1, 1), 0},
		{voyage(0, 0, 1, 1), stop("z", 0, 1), 0},
		{voyage(0, 0, 1, 1), stop("z", 0, 0), 0},
		// Before the first stop.
		{sampleVoyage(), stop("cork", 0, 0), 0},
		{sampleVoyage(), stop("cork", 90, 95), 0},
		{sampleVoyage(), stop("cork", 99, 99), 0},
		{sampleVoyage(), stop("cork", 99, 100), 0},
		{sampleVoyage(), stop("cork", 99, 103), 0},
		{sampleVoyage(), stop("cork", 100, 100), 0},
		{sampleVoyage(), stop("cork", 90, 104), 0},
		{sampleVoyage(), stop("cork", 101, 106), 0},
		{voyage(5, 6), stop("z", 4, 4), 0},
		{voyage(5, 6), stop("z", 0, 1), 0},
		// Behind the last stop.
		{sampleVoyage(), stop("cork", 161, 161), 0},
		{sampleVoyage(), stop("cork", 160, 161), 0},
		{sampleVoyage(), stop("cork", 170, 180), 0},
		{sampleVoyage(), stop("cork", 160, 160), 0},
		{sampleVoyage(), stop("cork", 150, 150), 0},
		{sampleVoyage(), stop("cork", 155, 170), 0},
		{sampleVoyage(), stop("cork", 149, 170), 0},
		{sampleVoyage(), stop("cork", greatestDay, greatestDay), 0},
		{voyage(5, 6), stop("z", 7, 7), 0},
		{voyage(5, 6), stop("z", 5, 6), 0},
		// Out is before In.
		{sampleVoyage(), stop("cork", 106, 105), 0},
		{sampleVoyage(), stop("cork", 109, 104), 0},
		{sampleVoyage(), stop("cork", 130, 106), 0},
		{sampleVoyage(), stop("cork", 106, 0), 0},
		// There would be too many stops.
		{longVoyage(impl.MaxStops), stop("cork", 22, 22), 0},
		{longVoyage(impl.MaxStops), stop("cork", 22, 23), 0},
		{longVoyage(impl.MaxStops), stop("cork", 54, 55), 0},
	}
	for _, s := range notPartyCodes {
		list = append(list, insertCase{sampleVoyage(), stop(s, 105, 106), 0}, insertCase{voyage(0, 400, 700, 800), stop(s, 500, 600), 0})
	}
	for _, s := range notStops() {
		list = append(list, insertCase{voyage(0, 400, 700, 800), s, 0}, insertCase{voyage(0, 0, greatestDay, greatestDay), s, 0}, insertCase{voyage(5, 6), s, 0})
	}
	return list
}

func TestInsertRefuge(t *testing.T) {
	for _, c := range insertCases() {
		got, code := impl.InsertRefuge(c.list, c.s)
		want, wantCode := []impl.Stop(nil), int64(impl.ErrState)
		if c.at > 0 {
			want, wantCode = slices.Insert(slices.Clone(c.list), c.at, c.s), impl.ErrNone
		}
		what := "InsertRefuge " + shownStop(c.s) + " into " + shownStops(c.list)
		wantStops(t, what, got, code, want, wantCode)
		if code != impl.ErrNone && got != nil {
			t.Errorf("%s: an empty list, not nil", what)
		}
	}
}

// insertByHand sorts the further stop to the others, and looks where it has come.
func insertByHand(list []impl.Stop, s impl.Stop) ([]impl.Stop, int64) {
	want := append(slices.Clone(list), s)
	slices.SortStableFunc(want, func(a, b impl.Stop) int { return int(a.In - b.In) })
	if !isVoyageByHand(want) || want[0] == s || want[len(want)-1] == s {
		return nil, impl.ErrState
	}
	return want, impl.ErrNone
}

func TestInsertRefugeByHand(t *testing.T) {
	random := fixedRandom()
	for range 500 {
		list := anyVoyage(random, 1+random.IntN(impl.MaxStops))
		days := voyageDays(list)
		for _, in := range days {
			for _, out := range days {
				s := stop("refuge", in, out)
				want, wantCode := insertByHand(list, s)
				got, code := impl.InsertRefuge(list, s)
				wantStops(t, "InsertRefuge "+shownStop(s)+" into "+shownStops(list), got, code, want, wantCode)
				if code == impl.ErrNone {
					checkDay(t, got, in)
					checkDay(t, got, out+1)
				}
			}
		}
	}
}

type delayCase struct {
	list        []impl.Stop
	index, days int64
	want        []impl.Stop
	code        int64
}

func delayCases() []delayCase {
	return []delayCase{
		// The first stop, one in between, and the last one.
		{voyage(5, 6, 8, 9, 11, 12), 0, 1, voyage(5, 7, 9, 10, 12, 13), impl.ErrNone},
		{voyage(5, 6, 8, 9, 11, 12), 1, 1, voyage(5, 6, 8, 10, 12, 13), impl.ErrNone},
		{voyage(5, 6, 8, 9, 11, 12), 2, 1, voyage(5, 6, 8, 9, 11, 13), impl.ErrNone},
		{voyage(5, 6, 8, 9, 11, 12), 0, 0, voyage(5, 6, 8, 9, 11, 12), impl.ErrNone},
		{voyage(5, 6, 8, 9, 11, 12), 1, 0, voyage(5, 6, 8, 9, 11, 12), impl.ErrNone},
		{voyage(5, 6, 8, 9, 11, 12), 2, 0, voyage(5, 6, 8, 9, 11, 12), impl.ErrNone},
		{voyage(5, 6, 8, 9, 11, 12), 0, mostDelay, voyage(5, 1006, 1008, 1009, 1011, 1012), impl.ErrNone},
		{voyage(5, 6, 8, 9, 11, 12), 1, mostDelay, voyage(5, 6, 8, 1009, 1011, 1012), impl.ErrNone},
		{voyage(5, 6, 8, 9, 11, 12), 2, mostDelay, voyage(5, 6, 8, 9, 11, 1012), impl.ErrNone},
		{voyage(5, 6, 8, 9, 11, 12), 2, mostDelay - 1, voyage(5, 6, 8, 9, 11, 1011), impl.ErrNone},
		{voyage(5, 5), 0, 3, voyage(5, 8), impl.ErrNone},
		{voyage(0, 0, 1, 1), 0, 3, voyage(0, 3, 4, 4), impl.ErrNone},
		{longVoyage(impl.MaxStops), 9, 5, append(longVoyage(9), stop("port", 56, 62)), impl.ErrNone},
		// Up to the last day of the dates, and beyond it.
		{voyage(0, greatestDay-1), 0, 1, voyage(0, greatestDay), impl.ErrNone},
		{voyage(0, greatestDay-1), 0, 2, nil, impl.ErrLimit},
		{voyage(0, greatestDay), 0, 0, voyage(0, greatestDay), impl.ErrNone},
		{voyage(0, greatestDay), 0, 1, nil, impl.ErrLimit},
		{voyage(0, greatestDay), 0, mostDelay, nil, impl.ErrLimit},
		{voyage(0, 0, greatestDay, greatestDay), 0, 0, voyage(0, 0, greatestDay, greatestDay), impl.ErrNone},
		{voyage(0, 0, greatestDay, greatestDay), 0, 1, nil, impl.ErrLimit},
		{voyage(0, 0, greatestDay, greatestDay), 1, 1, nil, impl.ErrLimit},
		{voyage(0, 0, greatestDay-1, greatestDay-1), 0, 1, voyage(0, 1, greatestDay, greatestDay), impl.ErrNone},
		{voyage(0, 0, greatestDay-1, greatestDay-1), 0, 2, nil, impl.ErrLimit},
		{voyage(5, 6, greatestDay-1000, greatestDay-1000), 0, mostDelay, voyage(5, 1006, greatestDay, greatestDay), impl.ErrNone},
		{voyage(5, 6, greatestDay-1000, greatestDay-1000), 1, mostDelay, voyage(5, 6, greatestDay-1000, greatestDay), impl.ErrNone},
		{voyage(5, 6, greatestDay-1000, greatestDay-999), 0, mostDelay, nil, impl.ErrLimit},
		{voyage(5, 6, greatestDay-1000, greatestDay-999), 1, mostDelay, nil, impl.ErrLimit},
		{voyage(5, 6, greatestDay-1000, greatestDay-999), 1, mostDelay - 1, voyage(5, 6, greatestDay-1000, greatestDay), impl.ErrNone},
		// Days or stops that are out of range, also where the result would be no voyage.
		{voyage(5, 6, 8, 9), 0, -1, nil, impl.ErrRange},
		{voyage(5, 6, 8, 9), 0, mostDelay + 1, nil, impl.ErrRange},
		{voyage(5, 6, 8, 9), 1, -1, nil, impl.ErrRange},
		{voyage(5, 6, 8, 9), 1, mostDelay + 1, nil, impl.ErrRange},
		{voyage(5, 6, 8, 9), -1, 1, nil, impl.ErrRange},
		{voyage(5, 6, 8, 9), 2, 1, nil, impl.ErrRange},
		{voyage(5, 6, 8, 9), 3, 1, nil, impl.ErrRange},
		{voyage(5, 6, 8, 9), 2, 0, nil, impl.ErrRange},
		{voyage(5, 6, 8, 9), -1, 0, nil, impl.ErrRange},
		{voyage(5, 6, 8, 9), 2, mostDelay + 1, nil, impl.ErrRange},
		{voyage(5, 6), 1, 1, nil, impl.ErrRange},
		{voyage(0, greatestDay), 0, mostDelay + 1, nil, impl.ErrRange},
		{voyage(0, greatestDay), 0, -1, nil, impl.ErrRange},
		{voyage(0, greatestDay), 1, 1, nil, impl.ErrRange},
		{voyage(0, greatestDay), -1, mostDelay, nil, impl.ErrRange},
		{longVoyage(impl.MaxStops), impl.MaxStops, 1, nil, impl.ErrRange},
	}
}

func TestDelayBy(t *testing.T) {
	cases := delayCases()
	for _, n := range farInts {
		for _, list := range [][]impl.Stop{voyage(5, 6, 8, 9), voyage(0, greatestDay), longVoyage(impl.MaxStops)} {
			cases = append(cases, delayCase{list, 0, n, nil, impl.ErrRange}, delayCase{list, n, 1, nil, impl.ErrRange}, delayCase{list, n, n, nil, impl.ErrRange}, delayCase{list, n, mostDelay, nil, impl.ErrRange})
		}
	}
	for _, c := range cases {
		got, code := impl.DelayBy(c.list, c.index, c.days)
		what := fmt.Sprintf("DelayBy index %d days %d %s", c.index, c.days, shownStops(c.list))
		wantStops(t, what, got, code, c.want, c.code)
		if code != impl.ErrNone && got != nil {
			t.Errorf("%s: an empty list, not nil", what)
		}
	}
}

func TestDelayByHand(t *testing.T) {
	random := fixedRandom()
	for range 2000 {
		list := anyVoyage(random, 1+random.IntN(impl.MaxStops))
		for index := range list {
			for _, days := range []int64{0, 1, 2, random.Int64N(10), random.Int64N(mostDelay + 1), mostDelay} {
				want, wantCode := []impl.Stop{}, int64(impl.ErrNone)
				for i, s := range list {
					switch {
					case i == index:
						s.Out += days
					case i > index:
						s = stop(s.Port, s.In+days, s.Out+days)
					}
					want = append(want, s)
				}
				if !isVoyageByHand(want) {
					want, wantCode = nil, impl.ErrLimit
				}
				got, code := impl.DelayBy(list, int64(index), days)
				wantStops(t, fmt.Sprintf("DelayBy index %d days %d %s", index, days, shownStops(list)), got, code, want, wantCode)
			}
		}
	}
}

// TestDelayKeepsLegs compares voyages before and behind a delay: there is as much time at sea.
func TestDelayKeepsLegs(t *testing.T) {
	for _, list := range voyages() {
		before, _ := impl.DaysAtSea(list, 0, greatestDay)
		for index := range list {
			for _, days := range []int64{0, 1, 7, mostDelay} {
				delayed, code := impl.DelayBy(list, int64(index), days)
				if code != impl.ErrNone {
					continue
				}
				after, code := impl.DaysAtSea(delayed, 0, greatestDay)
				wantInt(t, "DaysAtSea of "+shownStops(delayed), after, code, before, impl.ErrNone)
				last, code := impl.LastDay(delayed)
				wantInt(t, "LastDay of "+shownStops(delayed), last, code, list[len(list)-1].Out+days, impl.ErrNone)
			}
		}
	}
}

func TestLastDay(t *testing.T) {
	for _, c := range []struct {
		list []impl.Stop
		want int64
	}{
		{voyage(0, 0), 0},
		{voyage(0, 5), 5},
		{voyage(greatestDay, greatestDay), greatestDay},
		{voyage(0, greatestDay), greatestDay},
		{voyage(5, 6, 8, 9), 9},
		{voyage(5, 6, 8, 8), 8},
		{sampleVoyage(), 160},
		{longVoyage(impl.MaxStops), 57},
	} {
		got, code := impl.LastDay(c.list)
		wantInt(t, "LastDay "+shownStops(c.list), got, code, c.want, impl.ErrNone)
	}
}

// voyageText follows the words of the chapter.
func voyageText(list []impl.Stop) string {
	text := ""
	for i, s := range list {
		if i > 0 {
			text += " "
		}
		text += fmt.Sprintf("%s@%s~%s", s.Port, calendarText(calendarDate(s.In)), calendarText(calendarDate(s.Out)))
	}
	return text
}

func TestVoyageText(t *testing.T) {
	for _, c := range []struct {
		list []impl.Stop
		want string
	}{
		{[]impl.Stop{stop("oslo", 20000, 20002)}, "oslo@2024-10-04~2024-10-06"},
		{[]impl.Stop{stop("a", 0, 0)}, "a@1970-01-01~1970-01-01"},
		{[]impl.Stop{stop("zzzzzz", 0, greatestDay)}, "zzzzzz@1970-01-01~2069-12-31"},
		{[]impl.Stop{stop("oslo", 20000, 20002), stop("lima", 20010, 20012)}, "oslo@2024-10-04~2024-10-06 lima@2024-10-14~2024-10-16"},
		{[]impl.Stop{stop("a", 788, 788), stop("a", 789, 789), stop("b", 790, 1095)}, "a@1972-02-28~1972-02-28 a@1972-02-29~1972-02-29 b@1972-03-01~1972-12-31"},
		{sampleVoyage(), "oslo@1970-04-11~1970-04-14 lima@1970-04-21~1970-04-21 york@1970-04-22~1970-04-26 oslo@1970-04-28~1970-05-01 a@1970-05-31~1970-06-10"},
	} {
		got, code := impl.VoyageText(c.list)
		wantText(t, "VoyageText "+shownStops(c.list), got, code, c.want, impl.ErrNone)
	}
}

// TestVoyagesAreRecovered is promise 1 for voyages.
func TestVoyagesAreRecovered(t *testing.T) {
	random := fixedRandom()
	texts := map[string][]impl.Stop{}
	check := func(list []impl.Stop) {
		t.Helper()
		text, code := impl.VoyageText(list)
		wantText(t, "VoyageText "+shownStops(list), text, code, voyageText(list), impl.ErrNone)
		got, code := impl.ReadVoyage(text)
		wantStops(t, "ReadVoyage "+text, got, code, list, impl.ErrNone)
		if other, known := texts[text]; known && !slices.Equal(other, list) {
			t.Errorf("%q is the text of %s and of %s", text, shownStops(list), shownStops(other))
		}
		texts[text] = list
	}
	for _, list := range voyages() {
		check(list)
	}
	for range 5000 {
		check(anyVoyage(random, 1+random.IntN(impl.MaxStops)))
	}
	for day := range int64(greatestDay) {
		check([]impl.Stop{stop("a", day, day), stop("b", day+1, greatestDay)})
	}
}

func TestReadVoyageErrors(t *testing.T) {
	texts := []string{
		// Blanks, @ or tildes are missing, doubled, or too many.
		"", " ", "  ", "@", "~", "@~", " @~", "@~ ", "@~ @~", "oslo", "oslo@", "oslo@~", "oslo~", "oslo@2024-10-04", "oslo@2024-10-04~", "oslo@~2024-10-06", "@2024-10-04~2024-10-06", "2024-10-04~2024-10-06", "oslo2024-10-04~2024-10-06", "oslo@2024-10-042024-10-06",
		"oslo@@2024-10-04~2024-10-06", "oslo@2024-10-04~~2024-10-06", "@oslo@2024-10-04~2024-10-06", "oslo@2024-10-04~2024-10-06@", "oslo@2024-10-04~2024-10-06~", "~oslo@2024-10-04~2024-10-06", "oslo~@2024-10-04~2024-10-06", "oslo@~2024-10-04~2024-10-06", "oslo@2024-10-04@2024-10-06", "oslo~2024-10-04~2024-10-06", "oslo~2024-10-04@2024-10-06",
		"oslo@2024-10-04~@2024-10-06", "oslo@2024-10-04@~2024-10-06", "os@lo@2024-10-04~2024-10-06", "os~lo@2024-10-04~2024-10-06", "oslo@2024-10-04-2024-10-06", "oslo/2024-10-04/2024-10-06", "oslo@2024-10-04~2024-10-06~2024-10-07", "oslo@2024-10-03~2024-10-04~2024-10-06", "oslo@lima@2024-10-04~2024-10-06",
		"oslo@2024-10-04~2024-10-06lima@2024-10-14~2024-10-16", "oslo@2024-10-04~2024-10-06  lima@2024-10-14~2024-10-16", "oslo@2024-10-04~2024-10-06   lima@2024-10-14~2024-10-16", "oslo@2024-10-04~2024-10-06 lima@2024-10-14~2024-10-16 ", " oslo@2024-10-04~2024-10-06 lima@2024-10-14~2024-10-16",
		"oslo@2024-10-04~2024-10-06 lima", "oslo@2024-10-04~2024-10-06 lima@", "oslo@2024-10-04~2024-10-06 lima@2024-10-14", "oslo@2024-10-04~2024-10-06 lima@2024-10-14~", "oslo@2024-10-04~2024-10-06 @2024-10-14~2024-10-16", "oslo@2024-10-04~2024-10-06 2024-10-14~2024-10-16", "oslo lima@2024-10-14~2024-10-16", "oslo@2024-10-04 lima@2024-10-14~2024-10-16",
		"oslo@2024-10-04~2024-10-06,lima@2024-10-14~2024-10-16", "oslo@2024-10-04~2024-10-06/lima@2024-10-14~2024-10-16", "oslo@2024-10-04~2024-10-06\nlima@2024-10-14~2024-10-16", "oslo@2024-10-04~2024-10-06\tlima@2024-10-14~2024-10-16", "oslo@2024-10-04~2024-10-06\u00a0lima@2024-10-14~2024-10-16", "oslo@2024-10-04~2024-10-06@lima@2024-10-14~2024-10-16",
		// Blanks and other bytes are before, behind or inside.
		" oslo@2024-10-04~2024-10-06", "oslo@2024-10-04~2024-10-06 ", "oslo @2024-10-04~2024-10-06", "oslo@ 2024-10-04~2024-10-06", "oslo@2024-10-04 ~2024-10-06", "oslo@2024-10-04~ 2024-10-06", "os lo@2024-10-04~2024-10-06", "oslo@2024 10-04~2024-10-06", "oslo 2024-10-04 2024-10-06",
		"\noslo@2024-10-04~2024-10-06", "oslo@2024-10-04~2024-10-06\n", "oslo@2024-10-04~2024-10-06\r", "oslo@2024-10-04~2024-10-06\x00", "\x00oslo@2024-10-04~2024-10-06", "\ufeffoslo@2024-10-04~2024-10-06", "oslo@2024-10-04~2024-10-06\xff", "oslo@2024-10-04\uff5e2024-10-06",
		// A date is none.
		"oslo@2024-10-4~2024-10-06", "oslo@2024-10-04~2024-10-6", "oslo@2024-02-30~2024-10-06", "oslo@2024-10-04~2024-10-32", "oslo@2023-02-29~2024-10-06", "oslo@2024-13-04~2024-10-06", "oslo@2024-00-04~2024-10-06", "oslo@2024-10-00~2024-10-06", "oslo@1969-12-31~1970-01-01", "oslo@2069-12-31~2070-01-01", "oslo@0000-00-00~2024-10-06", "oslo@0-0-0~2024-10-06",
		"oslo@2024/10/04~2024-10-06", "oslo@04-10-2024~2024-10-06", "oslo@+2024-10-04~2024-10-06", "oslo@2024-+1-04~2024-10-06", "oslo@20000~20002", "oslo@20000~2024-10-06", "oslo@0~0", "oslo@0~2024-10-06", "a@0~0", "a@~", "a@1970-01-01~", "a@~1970-01-01", "a@x~x", "a@1970-01-01~x", "a@x~1970-01-01", "a@-~-", "a@1970-01-01~1970-01-1", "a@1970-01-1~1970-01-01", "a@1970-1-1~1970-01-01",
		"oslo@2024-10-04~2024-10-\uff10\uff16", "oslo@2024-10-\uff104~2024-10-06", "oslo@2024-10-004~2024-10-06", "oslo@02024-10-04~2024-10-06", "oslo@2024-10-04~18446744073709551616-10-06", "oslo@18446744073709553640-10-04~2024-10-06",
		// The port is no code.
		"Oslo@2024-10-04~2024-10-06", "OSLO@2024-10-04~2024-10-06", "osl0@2024-10-04~2024-10-06", "abcdefg@2024-10-04~2024-10-06", "-@2024-10-04~2024-10-06", "os-lo@2024-10-04~2024-10-06", "osl\xff@2024-10-04~2024-10-06", "caf\u00e9@2024-10-04~2024-10-06", "2024-10-04@2024-10-04~2024-10-06", "oslo@2024-10-04~2024-10-06 Lima@2024-10-14~2024-10-16",
		// The stops are no voyage.
		"oslo@2024-10-04~2024-10-03", "oslo@2024-10-04~1970-01-01", "oslo@2069-12-31~1970-01-01", "oslo@2024-10-04~2024-10-06 lima@2024-10-06~2024-10-16", "oslo@2024-10-04~2024-10-06 lima@2024-10-05~2024-10-16", "oslo@2024-10-14~2024-10-16 lima@2024-10-04~2024-10-06", "oslo@2024-10-04~2024-10-06 oslo@2024-10-04~2024-10-06", "oslo@2024-10-04~2024-10-06 lima@2024-10-16~2024-10-14",
		"a@1970-01-01~1970-01-01 b@1970-01-01~1970-01-01", "a@1970-01-01~1970-01-02 b@1970-01-02~1970-01-03", "a@1970-01-01~2069-12-31 b@2069-12-31~2069-12-31", "a@1970-01-01~1970-01-01 b@1970-01-03~1970-01-03 c@1970-01-03~1970-01-04",
		voyageText(longVoyage(impl.MaxStops + 1)), voyageText(longVoyage(impl.MaxStops + 2)), voyageText(longVoyage(256 + 1)), voyageText(longVoyage(1000)), voyageText(longVoyage(impl.MaxStops)) + " ", voyageText(longVoyage(impl.MaxStops)) + "  ", " " + voyageText(longVoyage(impl.MaxStops)), voyageText(longVoyage(impl.MaxStops)) + " x", voyageText(longVoyage(impl.MaxStops)) + "~", voyageText(longVoyage(impl.MaxStops)) + "@",
		strings.Repeat("oslo@2024-10-04~2024-10-06 ", 10000), strings.Repeat(" ", 100000), strings.Repeat("@", 100000), strings.Repeat("~", 100000), strings.Repeat("a", 100000), strings.Repeat("\xff", 100000), strings.Repeat("a", 100000) + "@2024-10-04~2024-10-06", "oslo@" + strings.Repeat("2", 100000) + "~2024-10-06", "oslo@2024-10-04~" + strings.Repeat("0", 100000) + "2024-10-06", "oslo@2024-10-04~2024-10-06" + strings.Repeat(" ", 100000),
	}
	for _, s := range texts {
		got, code := impl.ReadVoyage(s)
		wantStops(t, fmt.Sprintf("ReadVoyage %.60q", s), got, code, nil, impl.ErrSyntax)
		if got != nil {
			t.Errorf("ReadVoyage %.60q: an empty list, not nil", s)
		}
	}
}

// stopPattern matches one stop of a text of a voyage, also with dates that are none.
var stopPattern = regexp.MustCompile(`\A([a-z]{1,6})@([0-9]{4}-[0-9]{2}-[0-9]{2})~([0-9]{4}-[0-9]{2}-[0-9]{2})\z`)

// voyageReader takes texts apart by a pattern, and finds their dates in the calendar of the library.
type voyageReader map[string]int64

func newVoyageReader() voyageReader {
	days := voyageReader{}
	for n, d := range calendar() {
		days[calendarText(d)] = int64(n)
	}
	return days
}

func (days voyageReader) read(s string) ([]impl.Stop, int64) {
	list := []impl.Stop{}
	for _, part := range strings.Split(s, " ") {
		found := stopPattern.FindStringSubmatch(part)
		if found == nil {
			return nil, impl.ErrSyntax
		}
		in, isIn := days[found[2]]
		out, isOut := days[found[3]]
		if !isIn || !isOut {
			return nil, impl.ErrSyntax
		}
		list = append(list, stop(found[1], in, out))
	}
	if !isVoyageByHand(list) {
		return nil, impl.ErrSyntax
	}
	return list, impl.ErrNone
}

func (days voyageReader) check(t *testing.T, s string) {
	t.Helper()
	want, wantCode := days.read(s)
	got, code := impl.ReadVoyage(s)
	wantStops(t, fmt.Sprintf("ReadVoyage %q", s), got, code, want, wantCode)
	if code == impl.ErrNone {
		text, code := impl.VoyageText(got)
		wantText(t, fmt.Sprintf("VoyageText of what %q tells", s), text, code, s, impl.ErrNone)
	}
}

// TestReadVoyageOfChangedTexts reads all texts that differ from that of a voyage in one place.
func TestReadVoyageOfChangedTexts(t *testing.T) {
	reader := newVoyageReader()
	for _, s := range []string{"oslo@2024-10-04~2024-10-06", "a@1970-01-01~1970-01-01", "zzzzzz@1970-01-01~2069-12-31", "oslo@2024-10-04~2024-10-06 lima@2024-10-14~2024-10-16", "a@1972-02-28~1972-02-28 a@1972-02-29~1972-02-29 b@1972-03-01~1972-12-31", voyageText(longVoyage(impl.MaxStops))} {
		for changed := range changedTexts(s) {
			reader.check(t, changed)
		}
	}
}

// TestReadVoyageOfAllParts puts together all texts of some parts that are right and some that are not.
func TestReadVoyageOfAllParts(t *testing.T) {
	reader := newVoyageReader()
	dates := []string{"1970-01-01", "1970-01-02", "1970-01-03", "2069-12-31", "2070-01-01", "1969-12-31", "1970-02-29", "1970-1-1", "", " 1970-01-02", "1970-01-02~"}
	parts := []string{""}
	for _, port := range []string{"a", "zzzzzz", "", "aaaaaaa", "A", "a@"} {
		for _, in := range dates {
			for _, out := range dates {
				parts = append(parts, port+"@"+in+"~"+out)
			}
		}
	}
	for _, first := range parts {
		reader.check(t, first)
		for _, second := range parts {
			reader.check(t, first+" "+second)
		}
	}
}

func TestVoyageKeepsItsArguments(t *testing.T) {
	list, kept := inSpareRoom(sampleVoyage(), stop("own", -1, -2), stop("", 170, 180), stop("zzz", 170, 180))
	impl.IsVoyage(list)
	impl.PortOn(list, 105)
	impl.LegOn(list, 105)
	impl.DaysAtSea(list, 0, 200)
	impl.LastDay(list)
	impl.VoyageText(list)
	for _, s := range []impl.Stop{stop("cork", 104, 105), stop("cork", 116, 116), stop("cork", 121, 149), stop("cork", 0, 1), stop("cork", 170, 180), stop("", 104, 105), stop("cork", 103, 105)} {
		inserted, _ := impl.InsertRefuge(list, s)
		overwrite(inserted, stop("own", -1, -1))
	}
	for index := range int64(len(list) + 1) {
		for _, days := range []int64{0, 1, mostDelay, -1} {
			delayed, _ := impl.DelayBy(list, index, days)
			overwrite(delayed, stop("own", -1, -1))
		}
	}
	if !kept() {
		t.Error("an argument, or the memory behind it, has changed")
	}
}

// TestInsertRefugeSharesNoMemory inserts twice into a voyage with spare room, so that an insertion into
// this room would show in the first result.
func TestInsertRefugeSharesNoMemory(t *testing.T) {
	list := append(make([]impl.Stop, 0, impl.MaxStops), stop("a", 10, 11), stop("b", 20, 21))
	first, _ := impl.InsertRefuge(list, stop("c", 13, 14))
	second, _ := impl.InsertRefuge(first, stop("d", 16, 17))
	third, _ := impl.InsertRefuge(first, stop("e", 15, 19))
	fourth, _ := impl.DelayBy(first, 0, 5)
	wantStops(t, "the voyage", list, 0, []impl.Stop{stop("a", 10, 11), stop("b", 20, 21)}, 0)
	wantStops(t, "the first result", first, 0, []impl.Stop{stop("a", 10, 11), stop("c", 13, 14), stop("b", 20, 21)}, 0)
	wantStops(t, "the second result", second, 0, []impl.Stop{stop("a", 10, 11), stop("c", 13, 14), stop("d", 16, 17), stop("b", 20, 21)}, 0)
	wantStops(t, "the third result", third, 0, []impl.Stop{stop("a", 10, 11), stop("c", 13, 14), stop("e", 15, 19), stop("b", 20, 21)}, 0)
	wantStops(t, "the fourth result", fourth, 0, []impl.Stop{stop("a", 10, 16), stop("c", 18, 19), stop("b", 25, 26)}, 0)
	if behind := list[len(list):cap(list)]; !slices.Equal(behind, make([]impl.Stop, impl.MaxStops-2)) {
		t.Errorf("the spare room has changed: %s", shownStops(behind))
	}
}
