package tests

import (
	"fmt"
	"math"
	"slices"
	"strings"
	"testing"
	"time"

	"loop.example/g01010/impl"
)

// The functions have the signatures that the chapter lists, and the constants are untyped.
var (
	_ func(impl.Date) bool                      = impl.IsDate
	_ func(impl.Date) (int64, int64)            = impl.DayOf
	_ func(int64) (impl.Date, int64)            = impl.DateOf
	_ func(int64) (int64, int64)                = impl.WeekdayOf
	_ func(int64, int64) (int64, int64)         = impl.NextBusinessDay
	_ func(impl.Date, int64) (impl.Date, int64) = impl.AddMonths
	_ func(impl.Date) (string, int64)           = impl.DateText
	_ func(string) (impl.Date, int64)           = impl.ReadDate
	_ struct{ Year, Month, Day int64 }          = impl.Date{}
)

const (
	_ int16   = impl.FirstYear
	_ float64 = impl.LastYear
)

// greatestDay is the number of December 31, 2069: 100 years of 365 days, and 25 leap days, from 0.
const greatestDay = 100*365 + 25 - 1

// notDays are integers that are the number of no valid date.
var notDays = []int64{-1, -2, greatestDay + 1, greatestDay + 2, -greatestDay, 1 << 32, 1<<32 + 5, -1 << 32, math.MinInt64, math.MinInt64 + 1, math.MaxInt64 - 3, math.MaxInt64}

func date(year, month, day int64) impl.Date { return impl.Date{Year: year, Month: month, Day: day} }

// calendarDate takes the date with a number from the calendar of the library.
func calendarDate(n int64) impl.Date {
	d := time.Date(1970, 1, 1, 0, 0, 0, 0, time.UTC).AddDate(0, 0, int(n))
	return date(int64(d.Year()), int64(d.Month()), int64(d.Day()))
}

// calendar has all valid dates, each one at its number.
func calendar() []impl.Date {
	list := make([]impl.Date, greatestDay+1)
	for n := range list {
		list[n] = calendarDate(int64(n))
	}
	return list
}

// notDates are dates that are not valid: beside the limits of each field, at the ends of int64, and
// with fields that would be valid if bits above the lowest 8, 16 or 32 were lost.
func notDates() []impl.Date {
	list := []impl.Date{
		{}, date(1969, 12, 31), date(2070, 1, 1), date(0, 1, 1), date(-1970, 1, 1), date(2072, 2, 29), date(1968, 2, 29), date(2000, 2, 30),
		date(2024, 0, 1), date(2024, 13, 1), date(2024, -1, 1), date(2024, -12, 1), date(2024, 1, 0), date(2024, 1, -1), date(1970, 1, 0),
		date(2069, 12, 32), date(2069, 13, 1), date(2024, 0, 0), date(1970, 0, 31), date(2024, 13, 31), date(2023, 2, 29), date(2024, 2, 30),
	}
	for _, n := range []int64{math.MinInt64, math.MinInt64 + 1, math.MaxInt64, math.MaxInt64 - 1, -1 << 62, 1 << 62} {
		list = append(list, date(n, 10, 4), date(2024, n, 4), date(2024, 10, n), date(n, n, n), date(n, n, 4), date(2024, n, n))
	}
	for _, gap := range []int64{1 << 8, 1 << 16, 1 << 32, 1 << 33, math.MinInt64, -1 << 32, -1 << 16, 1 << 40} {
		list = append(list, date(2024+gap, 10, 4), date(2024, 10+gap, 4), date(2024, 10, 4+gap))
	}
	return list
}

func wantDate(t *testing.T, what string, got impl.Date, code int64, want impl.Date, wantCode int64) {
	t.Helper()
	if code != wantCode || got != want {
		t.Errorf("%s: got %v, code %d; want %v, code %d", what, got, code, want, wantCode)
	}
}

func TestConstantsOfDays(t *testing.T) {
	if impl.FirstYear != 1970 || impl.LastYear != 2069 {
		t.Error("a limit has another value")
	}
}

func TestIsDate(t *testing.T) {
	for _, d := range []impl.Date{
		date(1970, 1, 1), date(2069, 12, 31), date(2024, 2, 29), date(2023, 2, 28), date(2000, 2, 29), date(1972, 2, 29), date(2068, 2, 29),
		date(2024, 1, 31), date(2024, 4, 30), date(2024, 6, 30), date(2024, 7, 31), date(2024, 8, 31), date(2024, 9, 30), date(2024, 11, 30), date(2024, 12, 31),
	} {
		if !impl.IsDate(d) {
			t.Errorf("%v is valid", d)
		}
	}
	for _, d := range append(notDates(), date(1970, 2, 29), date(1971, 2, 29), date(2069, 2, 29), date(2024, 4, 31), date(2024, 6, 31), date(2024, 9, 31), date(2024, 11, 31), date(2024, 1, 32), date(2024, 7, 32), date(2024, 8, 32), date(2024, 12, 32)) {
		if impl.IsDate(d) {
			t.Errorf("%v is not valid", d)
		}
	}
}

// TestAllDatesNearTheLimits tries all fields in and beside their ranges.
func TestAllDatesNearTheLimits(t *testing.T) {
	valid := map[impl.Date]int64{}
	for n, d := range calendar() {
		valid[d] = int64(n)
	}
	for year := int64(1960); year <= 2080; year++ {
		for month := int64(-2); month <= 15; month++ {
			for day := int64(-2); day <= 34; day++ {
				d := date(year, month, day)
				want, known := valid[d]
				wantCode := int64(impl.ErrInvalid)
				if known {
					wantCode = impl.ErrNone
				}
				if impl.IsDate(d) != known {
					t.Errorf("IsDate %v: got %t", d, !known)
				}
				got, code := impl.DayOf(d)
				wantInt(t, fmt.Sprint("DayOf ", d), got, code, want, wantCode)
			}
		}
	}
}

func TestDayOfAndDateOf(t *testing.T) {
	for _, c := range []struct {
		d impl.Date
		n int64
	}{
		{date(1970, 1, 1), 0},
		{date(1970, 1, 2), 1},
		{date(1970, 1, 31), 30},
		{date(1970, 2, 1), 31},
		{date(1970, 2, 28), 58},
		{date(1970, 3, 1), 59},
		{date(1970, 12, 31), 364},
		{date(1971, 1, 1), 365},
		{date(1972, 1, 1), 730},
		{date(1972, 2, 28), 788},
		{date(1972, 2, 29), 789},
		{date(1972, 3, 1), 790},
		{date(1972, 12, 31), 1095},
		{date(1973, 1, 1), 1096},
		{date(1974, 1, 1), 1461},
		{date(2000, 2, 29), 11016},
		{date(2000, 3, 1), 11017},
		{date(2024, 10, 4), 20000},
		{date(2069, 1, 1), greatestDay - 364},
		{date(2069, 12, 30), greatestDay - 1},
		{date(2069, 12, 31), greatestDay},
	} {
		n, code := impl.DayOf(c.d)
		wantInt(t, fmt.Sprint("DayOf ", c.d), n, code, c.n, impl.ErrNone)
		d, code := impl.DateOf(c.n)
		wantDate(t, fmt.Sprint("DateOf ", c.n), d, code, c.d, impl.ErrNone)
	}
	for _, d := range notDates() {
		n, code := impl.DayOf(d)
		wantInt(t, fmt.Sprint("DayOf ", d), n, code, 0, impl.ErrInvalid)
	}
	for _, n := range notDays {
		d, code := impl.DateOf(n)
		wantDate(t, fmt.Sprint("DateOf ", n), d, code, impl.Date{}, impl.ErrRange)
	}
}

// TestDatesAndNumbersDetermineEachOther is promise 3.
func TestDatesAndNumbersDetermineEachOther(t *testing.T) {
	for i, want := range calendar() {
		n := int64(i)
		d, code := impl.DateOf(n)
		wantDate(t, fmt.Sprint("DateOf ", n), d, code, want, impl.ErrNone)
		back, code := impl.DayOf(d)
		wantInt(t, fmt.Sprint("DayOf ", d), back, code, n, impl.ErrNone)
	}
	if got, want := calendarDate(greatestDay), date(2069, 12, 31); got != want {
		t.Errorf("the test ends at %v, not at %v", got, want)
	}
}

func TestWeekdayOf(t *testing.T) {
	for _, c := range []struct {
		d    impl.Date
		want int64
	}{
		{date(1970, 1, 1), 3},
		{date(1970, 1, 2), 4},
		{date(1970, 1, 3), 5},
		{date(1970, 1, 4), 6},
		{date(1970, 1, 5), 0},
		{date(2024, 2, 29), 3},
		{date(2024, 10, 4), 4},
		{date(2069, 12, 31), 1},
	} {
		n, _ := impl.DayOf(c.d)
		got, code := impl.WeekdayOf(n)
		wantInt(t, fmt.Sprint("WeekdayOf ", c.d), got, code, c.want, impl.ErrNone)
	}
	for n := range int64(greatestDay + 1) {
		got, code := impl.WeekdayOf(n)
		wantInt(t, fmt.Sprint("WeekdayOf ", n), got, code, calendarWeekday(n), impl.ErrNone)
	}
	for _, n := range notDays {
		got, code := impl.WeekdayOf(n)
		wantInt(t, fmt.Sprint("WeekdayOf ", n), got, code, 0, impl.ErrRange)
	}
}

// calendarWeekday is 0 for Monday, where the library has 0 for Sunday.
func calendarWeekday(n int64) int64 {
	weekday := time.Date(1970, 1, 1, 0, 0, 0, 0, time.UTC).AddDate(0, 0, int(n)).Weekday()
	return (int64(weekday) + 6) % 7
}

func TestNextBusinessDay(t *testing.T) {
	for _, c := range []struct{ n, days, want, code int64 }{
		// Day 0 is a Thursday, 1 a Friday, 2 a Saturday, 3 a Sunday, 4 a Monday.
		{0, 0, 0, impl.ErrNone},
		{0, 1, 1, impl.ErrNone},
		{0, 2, 4, impl.ErrNone},
		{1, 0, 1, impl.ErrNone},
		{1, 1, 4, impl.ErrNone},
		{1, 5, 8, impl.ErrNone},
		{1, 6, 11, impl.ErrNone},
		{2, 0, 4, impl.ErrNone},
		{2, 1, 5, impl.ErrNone},
		{2, 4, 8, impl.ErrNone},
		{2, 5, 11, impl.ErrNone},
		{3, 0, 4, impl.ErrNone},
		{3, 1, 5, impl.ErrNone},
		{3, 5, 11, impl.ErrNone},
		{4, 0, 4, impl.ErrNone},
		{4, 4, 8, impl.ErrNone},
		{4, 5, 11, impl.ErrNone},
		{20000, 1, 20003, impl.ErrNone},
		{0, 1000, 1400, impl.ErrNone},
		{3, 1000, 1404, impl.ErrNone},
		{0, 999, 1399, impl.ErrNone},
		{1, 1000, 1401, impl.ErrNone},
		// The last day is a Tuesday.
		{greatestDay, 0, greatestDay, impl.ErrNone},
		{greatestDay, 1, 0, impl.ErrLimit},
		{greatestDay, 1000, 0, impl.ErrLimit},
		{greatestDay - 1, 1, greatestDay, impl.ErrNone},
		{greatestDay - 1, 2, 0, impl.ErrLimit},
		{greatestDay - 2, 0, greatestDay - 1, impl.ErrNone},
		{greatestDay - 2, 1, greatestDay, impl.ErrNone},
		{greatestDay - 2, 2, 0, impl.ErrLimit},
		{greatestDay - 3, 1, greatestDay, impl.ErrNone},
		{greatestDay - 3, 2, 0, impl.ErrLimit},
		{greatestDay - 1400, 1000, greatestDay, impl.ErrNone},
		{greatestDay - 1399, 1000, 0, impl.ErrLimit},
		{greatestDay - 1399, 999, greatestDay, impl.ErrNone},
	} {
		got, code := impl.NextBusinessDay(c.n, c.days)
		wantInt(t, fmt.Sprint("NextBusinessDay ", c.n, " ", c.days), got, code, c.want, c.code)
	}
}

func TestNextBusinessDayErrors(t *testing.T) {
	notCounts := []int64{-1, 1001, -1000, math.MinInt64, math.MinInt64 + 1, math.MaxInt64, math.MaxInt64 - 5, 1 << 32, 1 << 16, 1 << 8 * 1001}
	for _, n := range []int64{0, 2, 3, 20000, greatestDay} {
		for _, days := range notCounts {
			got, code := impl.NextBusinessDay(n, days)
			wantInt(t, fmt.Sprint("NextBusinessDay ", n, " ", days), got, code, 0, impl.ErrRange)
		}
	}
	for _, n := range notDays {
		for _, days := range append(notCounts, 0, 1, 1000) {
			got, code := impl.NextBusinessDay(n, days)
			wantInt(t, fmt.Sprint("NextBusinessDay ", n, " ", days), got, code, 0, impl.ErrRange)
		}
	}
}

// TestNextBusinessDayStepByStep compares with a list of all business days.
func TestNextBusinessDayStepByStep(t *testing.T) {
	list := []int64{}
	for n := range int64(greatestDay + 1) {
		if calendarWeekday(n) < 5 {
			list = append(list, n)
		}
	}
	for n := range int64(greatestDay + 1) {
		first, _ := slices.BinarySearch(list, n)
		counts := []int64{0, 1, 2, 3, 4, 5, 6, 9, 10, 11, 499, 1000}
		if n < 21 || n > greatestDay-21 {
			counts = counts[:0]
			for days := range int64(1001) {
				counts = append(counts, days)
			}
		}
		for _, days := range counts {
			want, wantCode := int64(0), int64(impl.ErrLimit)
			if end := first + int(days); end < len(list) {
				want, wantCode = list[end], impl.ErrNone
			}
			got, code := impl.NextBusinessDay(n, days)
			wantInt(t, fmt.Sprint("NextBusinessDay ", n, " ", days), got, code, want, wantCode)
		}
	}
}

func TestAddMonths(t *testing.T) {
	for _, c := range []struct {
		d      impl.Date
		months int64
		want   impl.Date
		code   int64
	}{
		{date(2024, 10, 4), 0, date(2024, 10, 4), impl.ErrNone},
		{date(2024, 10, 4), 1, date(2024, 11, 4), impl.ErrNone},
		{date(2024, 10, 4), 2, date(2024, 12, 4), impl.ErrNone},
		{date(2024, 10, 4), 3, date(2025, 1, 4), impl.ErrNone},
		{date(2024, 10, 4), 12, date(2025, 10, 4), impl.ErrNone},
		{date(2024, 1, 31), 1, date(2024, 2, 29), impl.ErrNone},
		{date(2023, 1, 31), 1, date(2023, 2, 28), impl.ErrNone},
		{date(2023, 1, 29), 1, date(2023, 2, 28), impl.ErrNone},
		{date(2023, 1, 28), 1, date(2023, 2, 28), impl.ErrNone},
		{date(2024, 1, 30), 1, date(2024, 2, 29), impl.ErrNone},
		{date(2024, 1, 29), 1, date(2024, 2, 29), impl.ErrNone},
		{date(2024, 1, 31), 2, date(2024, 3, 31), impl.ErrNone},
		{date(2024, 1, 31), 3, date(2024, 4, 30), impl.ErrNone},
		{date(2024, 2, 29), 1, date(2024, 3, 29), impl.ErrNone},
		{date(2024, 2, 29), 12, date(2025, 2, 28), impl.ErrNone},
		{date(2024, 2, 29), 48, date(2028, 2, 29), impl.ErrNone},
		{date(2023, 2, 28), 12, date(2024, 2, 28), impl.ErrNone},
		{date(2024, 4, 30), 1, date(2024, 5, 30), impl.ErrNone},
		{date(2024, 12, 31), 1, date(2025, 1, 31), impl.ErrNone},
		{date(2024, 12, 31), 12, date(2025, 12, 31), impl.ErrNone},
		{date(2024, 12, 31), 11, date(2025, 11, 30), impl.ErrNone},
		{date(1970, 1, 1), 600, date(2020, 1, 1), impl.ErrNone},
		{date(2019, 12, 31), 600, date(2069, 12, 31), impl.ErrNone},
		{date(2019, 12, 31), 599, date(2069, 11, 30), impl.ErrNone},
		{date(2020, 1, 1), 599, date(2069, 12, 1), impl.ErrNone},
		{date(2020, 1, 1), 600, impl.Date{}, impl.ErrLimit},
		{date(2069, 12, 31), 0, date(2069, 12, 31), impl.ErrNone},
		{date(2069, 12, 1), 1, impl.Date{}, impl.ErrLimit},
		{date(2069, 12, 31), 1, impl.Date{}, impl.ErrLimit},
		{date(2069, 12, 31), 600, impl.Date{}, impl.ErrLimit},
		{date(2069, 1, 31), 1, date(2069, 2, 28), impl.ErrNone},
		{date(2069, 1, 31), 12, impl.Date{}, impl.ErrLimit},
	} {
		got, code := impl.AddMonths(c.d, c.months)
		wantDate(t, fmt.Sprint("AddMonths ", c.d, c.months), got, code, c.want, c.code)
	}
}

func TestAddMonthsErrors(t *testing.T) {
	notCounts := []int64{-1, 601, -12, -600, math.MinInt64, math.MinInt64 + 1, math.MaxInt64, math.MaxInt64 - 11, 1 << 32, 1 << 16, 1 << 8 * 601}
	for _, d := range []impl.Date{date(1970, 1, 1), date(2024, 2, 29), date(2069, 12, 31)} {
		for _, months := range notCounts {
			got, code := impl.AddMonths(d, months)
			wantDate(t, fmt.Sprint("AddMonths ", d, months), got, code, impl.Date{}, impl.ErrRange)
		}
	}
	for _, d := range notDates() {
		for _, months := range append(notCounts, 0, 1, 600) {
			got, code := impl.AddMonths(d, months)
			wantDate(t, fmt.Sprint("AddMonths ", d, months), got, code, impl.Date{}, impl.ErrInvalid)
		}
	}
}

// TestAddMonthsToAllMonths compares with the months of the calendar, for days that all months have
// and for the last ones.
func TestAddMonthsToAllMonths(t *testing.T) {
	lasts := []impl.Date{}
	for _, d := range calendar() {
		if d.Day == 1 {
			lasts = append(lasts, d)
		}
		lasts[len(lasts)-1] = d
	}
	for from, d := range lasts {
		for _, day := range []int64{1, 28, 29, 30, 31} {
			if day > d.Day {
				continue
			}
			for months := range 601 {
				want, wantCode := impl.Date{}, int64(impl.ErrLimit)
				if to := from + months; to < len(lasts) {
					want, wantCode = lasts[to], impl.ErrNone
					want.Day = min(want.Day, day)
				}
				start := date(d.Year, d.Month, day)
				if got, code := impl.AddMonths(start, int64(months)); got != want || code != wantCode {
					t.Fatalf("AddMonths %v %d: got %v, code %d; want %v, code %d", start, months, got, code, want, wantCode)
				}
			}
		}
	}
}

// calendarText follows the words of the chapter.
func calendarText(d impl.Date) string { return fmt.Sprintf("%d-%02d-%02d", d.Year, d.Month, d.Day) }

func TestDateText(t *testing.T) {
	for _, c := range []struct {
		d    impl.Date
		want string
	}{
		{date(1970, 1, 1), "1970-01-01"},
		{date(2069, 12, 31), "2069-12-31"},
		{date(2024, 10, 4), "2024-10-04"},
		{date(2024, 2, 29), "2024-02-29"},
		{date(2000, 9, 10), "2000-09-10"},
	} {
		if got, code := impl.DateText(c.d); got != c.want || code != impl.ErrNone {
			t.Errorf("DateText %v: got %q, code %d; want %q", c.d, got, code, c.want)
		}
	}
	for _, d := range notDates() {
		if got, code := impl.DateText(d); got != "" || code != impl.ErrInvalid {
			t.Errorf("DateText %v: got %q, code %d; want an empty text, code %d", d, got, code, impl.ErrInvalid)
		}
	}
}

// TestDatesAreRecovered is promise 1 for dates.
func TestDatesAreRecovered(t *testing.T) {
	for _, d := range calendar() {
		text, code := impl.DateText(d)
		if text != calendarText(d) || code != impl.ErrNone {
			t.Errorf("DateText %v: got %q, code %d", d, text, code)
		}
		got, code := impl.ReadDate(text)
		wantDate(t, "ReadDate "+text, got, code, d, impl.ErrNone)
	}
}

func TestReadDateErrors(t *testing.T) {
	texts := []string{
		"", "-", "--", "0", "2024", "2024-10", "2024-10-", "2024-10-4", "2024-1-04", "2024-1-4", "24-10-04", "-10-04", "2024--04", "2024-10-0", "2024-10-004",
		"2024-010-04", "02024-10-04", "12024-10-04", "2024-10-04 ", " 2024-10-04", "2024-10-04\n", "\n2024-10-04", "2024-10-04\x00", "\x002024-10-04",
		"20241004", "2024-1004", "202410-04", "2024.10.04", "2024/10/04", "2024_10_04", "2024 10 04", "2024-10_04", "2024+10-04", "2024-10+04", "2024:10-04",
		"04-10-2024", "10-04-2024", "2024-oct-04", "-2024-10-04", "+2024-10-04", "+024-10-04", "-024-10-04", "2024-+1-04", "2024--1-04", "2024-10-+4", "2024-10--4",
		"2024- 1-04", "2024-1 -04", "2024-10- 4", "2024-10-4 ", " 024-10-04", "2_24-10-04", "2024-1_-04", "2024-10-_4", "0x7d-10-04", "0x7e8-10-04", "2e3-10-04", "2024-0x1-4", "2024-1.-04",
		"2024-00-04", "2024-13-04", "2024-99-04", "2024-10-00", "2024-10-32", "2024-10-99", "2023-02-29", "2024-02-30", "2024-04-31", "2024-06-31", "2024-09-31", "2024-11-31", "2024-12-32",
		"1969-12-31", "2070-01-01", "0000-00-00", "0000-01-01", "9999-12-31", "1900-02-28", "1968-02-29", "2072-02-29",
		"\u0662\u0660\u0662\u0664-10-04", "\uff12024-10-04", "2024\u201010\u201004", "2024\u221210-04", "2024-10-0\u0664", "2024-1\xff-04", "\xff\xff\xff\xff-\xff\xff-\xff\xff",
		"2024-10-04T", "2024-10-04-", "2024-10-04-05", "2024-10-04/2024-10-04", "abcdefghij", "          ", "----------", "2024-W40-5", "2024-278",
		strings.Repeat("2024-10-04", 10000), strings.Repeat("0", 100000) + "2024-10-04", "2024-10-04" + strings.Repeat("0", 100000), strings.Repeat("9", 100000),
	}
	for _, s := range texts {
		got, code := impl.ReadDate(s)
		wantDate(t, fmt.Sprintf("ReadDate %.40q", s), got, code, impl.Date{}, impl.ErrSyntax)
	}
}

// TestReadDateOfChangedTexts reads all texts that differ from that of a date in one place.
func TestReadDateOfChangedTexts(t *testing.T) {
	dates := map[string]impl.Date{}
	for _, d := range calendar() {
		dates[calendarText(d)] = d
	}
	check := func(s string) {
		t.Helper()
		want, known := dates[s]
		wantCode := int64(impl.ErrSyntax)
		if known {
			wantCode = impl.ErrNone
		}
		got, code := impl.ReadDate(s)
		wantDate(t, fmt.Sprintf("ReadDate %q", s), got, code, want, wantCode)
	}
	for _, s := range []string{"1970-01-01", "2069-12-31", "2024-10-04", "2024-02-29", "2023-02-28", "2000-11-30", "1999-09-09"} {
		for changed := range changedTexts(s) {
			check(changed)
		}
	}
}

// TestReadDateOfAllNumbers tries all months and days with two digits, in years in and beside the range.
func TestReadDateOfAllNumbers(t *testing.T) {
	for _, year := range []int64{0, 970, 1968, 1969, 1970, 1972, 2000, 2023, 2024, 2069, 2070, 2072, 9999} {
		for month := range int64(100) {
			for day := range int64(100) {
				d := date(year, month, day)
				text := fmt.Sprintf("%04d-%02d-%02d", year, month, day)
				got, code := impl.ReadDate(text)
				if _, err := time.Parse("2006-01-02", text); err != nil || year < 1970 || year > 2069 {
					wantDate(t, "ReadDate "+text, got, code, impl.Date{}, impl.ErrSyntax)
				} else {
					wantDate(t, "ReadDate "+text, got, code, d, impl.ErrNone)
				}
			}
		}
	}
}
