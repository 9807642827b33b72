package tests

import (
	"fmt"
	"math"
	"math/rand/v2"
	"regexp"
	"slices"
	"strconv"
	"strings"
	"testing"

	"loop.example/g01010/impl"
)

// The functions have the signatures that the chapter lists, and the constants are untyped.
var (
	_ func(impl.Event) bool                                = impl.IsEvent
	_ func([]impl.Event) bool                              = impl.IsLog
	_ func([]impl.Event, []impl.Interest) (bool, int64)    = impl.DoesFit
	_ func([]impl.Event, impl.Event) ([]impl.Event, int64) = impl.AddEvent
	_ func([]impl.Event, int64, int64) ([]int64, int64)    = impl.EventsBetween
	_ func([]impl.Event, string) ([]int64, int64)          = impl.EventsOf
	_ func([]impl.Event) ([]int64, int64)                  = impl.TotalByKind
	_ func(impl.Event) (string, int64)                     = impl.EventText
	_ func(string) (impl.Event, int64)                     = impl.ReadEvent
	_ struct {
		Day        int64
		Kind       int64
		Interest   string
		Amount     int64
		Peril      bool
		Voluntary  bool
		Reasonable bool
	} = impl.Event{}
)

const (
	_ int8    = impl.MaxEvents + impl.EventJettison + impl.EventFire + impl.EventRefloat + impl.EventRefuge + impl.EventTowage + impl.EventRepair + impl.EventDamage
	_ float64 = impl.MaxEvents + impl.EventJettison + impl.EventFire + impl.EventRefloat + impl.EventRefuge + impl.EventTowage + impl.EventRepair + impl.EventDamage
)

// allLetters are the last parts of the texts of events, one for each combination of what is true.
var allLetters = []string{"-", "p", "v", "r", "pv", "pr", "vr", "pvr"}

// notEventKinds are integers that are no kind of an event.
var notEventKinds = []int64{-1, 7, 8, -6, 1 << 8, 1<<8 + 1, 1 << 16, 1 << 32, 1<<32 + 6, -1 << 32, math.MinInt64, math.MinInt64 + 1, math.MaxInt64, math.MaxInt64 - 1}

// event has the truths whose letters occur.
func event(day, kind int64, interest string, amount int64, letters string) impl.Event {
	return impl.Event{
		Day: day, Kind: kind, Interest: interest, Amount: amount,
		Peril: strings.Contains(letters, "p"), Voluntary: strings.Contains(letters, "v"), Reasonable: strings.Contains(letters, "r"),
	}
}

// eventOn is an event for which only the day matters.
func eventOn(day int64) impl.Event { return event(day, impl.EventFire, "mm", 5, "p") }

// logOn has one event on each of the days, each one with another amount, so that they can be told apart.
func logOn(days ...int64) []impl.Event {
	log := []impl.Event{}
	for i, day := range days {
		log = append(log, event(day, int64(i%7), "corn", int64(100+i), allLetters[i%8]))
	}
	return log
}

// sampleLog has days with one event and with several, and kinds and interests that occur not at all, once
// and often; two of its events are equal.
func sampleLog() []impl.Event {
	return []impl.Event{
		event(100, impl.EventFire, "corn", 500, "p"),
		event(100, impl.EventFire, "corn", 500, "p"),
		event(103, impl.EventJettison, "wool", 41, "pvr"),
		event(110, impl.EventRefuge, "ship", 7000, "vr"),
		event(110, impl.EventJettison, "corn", 0, "-"),
		event(110, impl.EventDamage, "ship", impl.MaxAmount, "r"),
		event(150, impl.EventDamage, "ship", impl.MaxAmount-1, "pr"),
	}
}

// longLog has count events, with two of them on each day.
func longLog(count int) []impl.Event {
	log := []impl.Event{}
	for i := range int64(count) {
		log = append(log, event(20+i/2, i%7, "ship", impl.MaxAmount-i, allLetters[i%8]))
	}
	return log
}

// logs are lists that are logs.
func logs() [][]impl.Event {
	lists := [][]impl.Event{
		nil,
		{},
		sampleLog(),
		slices.Repeat([]impl.Event{eventOn(0)}, impl.MaxEvents),
		slices.Repeat([]impl.Event{eventOn(greatestDay)}, impl.MaxEvents),
		{event(0, impl.EventJettison, "a", 0, "-")},
		{event(greatestDay, impl.EventDamage, "zzzzzz", impl.MaxAmount, "pvr")},
		logOn(0),
		logOn(greatestDay),
		logOn(20000),
		logOn(0, 0),
		logOn(0, 1),
		logOn(0, greatestDay),
		logOn(greatestDay-1, greatestDay),
		logOn(greatestDay, greatestDay),
		logOn(0, 0, 0, 1, 1, 1, greatestDay, greatestDay, greatestDay),
		logOn(5, 6, 7, 8),
		logOn(5, 5, 7, 9, 9),
		// Only the days have an order.
		{event(5, 6, "z", 9, "pvr"), event(5, 0, "a", 8, "-"), event(6, 3, "m", 7, "v")},
	}
	for count := 1; count <= impl.MaxEvents; count++ {
		lists = append(lists, longLog(count))
	}
	return lists
}

// notEvents are events that no log may have; but for what is wrong, they are on the day 500.
func notEvents() []impl.Event {
	list := []impl.Event{{}, event(500, 0, "", 0, "-"), event(-1, -1, "", -1, "pvr"), {Peril: true, Voluntary: true, Reasonable: true}}
	for i, letters := range allLetters {
		list = append(list, event(-1, 3, "mm", 5, letters), event(500, -1, "mm", 5, letters), event(500, 7, "mm", 5, letters), event(500, 3, "", 5, letters), event(500, 3, "mm", -1, letters), event(500, int64(i%7), "mm", impl.MaxAmount+1, letters))
	}
	for _, day := range slices.Concat(notDays, farInts) {
		list = append(list, eventOn(day), event(day, day, "mm", day, "-"))
	}
	for _, kind := range slices.Concat(notEventKinds, farInts) {
		list = append(list, event(500, kind, "mm", 5, "p"))
	}
	for _, s := range notPartyCodes {
		list = append(list, event(500, 1, s, 5, "p"))
	}
	for _, amount := range slices.Concat(notAmounts, farInts) {
		list = append(list, event(500, 1, "mm", amount, "p"))
	}
	return list
}

// notLogs are lists that are no logs.
func notLogs() [][]impl.Event {
	lists := [][]impl.Event{
		longLog(impl.MaxEvents + 1),
		longLog(impl.MaxEvents + 2),
		longLog(256),
		longLog(256 + 1),
		longLog(256 + impl.MaxEvents),
		longLog(5000),
		make([]impl.Event, 1),
		make([]impl.Event, impl.MaxEvents),
		make([]impl.Event, 100000),
		slices.Repeat([]impl.Event{eventOn(0)}, impl.MaxEvents+1),
		slices.Repeat([]impl.Event{eventOn(5)}, 100000),
		// Days fall, side by side and apart.
		logOn(1, 0),
		logOn(greatestDay, 0),
		logOn(greatestDay, greatestDay-1),
		logOn(0, 2, 1),
		logOn(1, 2, 0),
		logOn(2, 2, 1),
		logOn(5, 5, 4, 5),
		logOn(5, 4, 5, 5),
		logOn(4, 5, 5, 4),
		logOn(0, 0, 0, 1, 1, 1, greatestDay, greatestDay, 1),
		logOn(9, 8, 7, 6),
	}
	reversed := longLog(impl.MaxEvents)
	slices.Reverse(reversed)
	lists = append(lists, reversed)
	for _, e := range notEvents() {
		front, back := eventOn(0), eventOn(greatestDay)
		lists = append(lists, []impl.Event{e}, []impl.Event{front, e}, []impl.Event{e, back}, []impl.Event{front, e, back}, append(longLog(impl.MaxEvents-1), e), slices.Insert(longLog(impl.MaxEvents-1), 0, e))
	}
	return lists
}

// shownEvents writes the first events of a list for a message, with interests quoted, and cut if they
// are long.
func shownEvents(log []impl.Event) string {
	texts := []string{}
	for _, e := range log[:min(len(log), impl.MaxEvents+1)] {
		texts = append(texts, shownEvent(e))
	}
	return fmt.Sprintf("%d events %v", len(log), texts)
}

func shownEvent(e impl.Event) string {
	return fmt.Sprintf("{%d %d %.20q %d %t %t %t}", e.Day, e.Kind, e.Interest, e.Amount, e.Peril, e.Voluntary, e.Reasonable)
}

func wantEvents(t *testing.T, what string, got []impl.Event, code int64, want []impl.Event, wantCode int64) {
	t.Helper()
	if code != wantCode || !slices.Equal(got, want) {
		t.Errorf("%s: got %s, code %d; want %s, code %d", what, shownEvents(got), code, shownEvents(want), wantCode)
	}
}

func wantEvent(t *testing.T, what string, got impl.Event, code int64, want impl.Event, wantCode int64) {
	t.Helper()
	if code != wantCode || got != want {
		t.Errorf("%s: got %s, code %d; want %s, code %d", what, shownEvent(got), code, shownEvent(want), wantCode)
	}
}

func wantBool(t *testing.T, what string, got bool, code int64, want bool, wantCode int64) {
	t.Helper()
	if code != wantCode || got != want {
		t.Errorf("%s: got %t, code %d; want %t, code %d", what, got, code, want, wantCode)
	}
}

// isEventByHand follows the words of the chapter.
func isEventByHand(e impl.Event) bool {
	return e.Day >= 0 && e.Day <= greatestDay && slices.Contains([]int64{0, 1, 2, 3, 4, 5, 6}, e.Kind) && codePattern.MatchString(e.Interest) && e.Amount >= 0 && e.Amount <= 1000000000
}

// isLogByHand goes through all pairs of events.
func isLogByHand(log []impl.Event) bool {
	for i, e := range log {
		for _, earlier := range log[:i] {
			if earlier.Day > e.Day {
				return false
			}
		}
		if !isEventByHand(e) {
			return false
		}
	}
	return len(log) <= 15
}

func anyEvent(random *rand.Rand, day int64) impl.Event {
	interests := []string{"a", "corn", "ship", "wool", "zzzzzz", anyPartyCode(random)}
	return event(day, random.Int64N(7), interests[random.IntN(len(interests))], anyAmount(random), allLetters[random.IntN(8)])
}

// anyLog often has several events on one day, and several of one interest.
func anyLog(random *rand.Rand, count int) []impl.Event {
	log := []impl.Event{}
	day := random.Int64N(30)
	if random.IntN(3) == 0 {
		day = greatestDay - random.Int64N(30) - 3*int64(count)
	}
	for range count {
		log = append(log, anyEvent(random, day))
		day += max(0, random.Int64N(6)-2)
	}
	return log
}

// logDays are days of dates on and around those of a log.
func logDays(log []impl.Event) []int64 {
	days := []int64{0, 1, greatestDay - 1, greatestDay}
	for _, e := range log {
		days = append(days, e.Day-1, e.Day, e.Day+1)
	}
	slices.Sort(days)
	return slices.DeleteFunc(slices.Compact(days), func(day int64) bool { return day < 0 || day > greatestDay })
}

func TestConstantsOfEvents(t *testing.T) {
	if impl.MaxEvents != 15 {
		t.Error(impl.MaxEvents)
	}
	for i, kind := range []int64{impl.EventJettison, impl.EventFire, impl.EventRefloat, impl.EventRefuge, impl.EventTowage, impl.EventRepair, impl.EventDamage} {
		if kind != int64(i) {
			t.Errorf("kind %d is %d", i, kind)
		}
	}
}

func TestIsEvent(t *testing.T) {
	for _, letters := range allLetters {
		for kind := range int64(7) {
			for _, day := range []int64{0, 1, 20000, greatestDay - 1, greatestDay} {
				for _, interest := range []string{"a", "z", "corn", "aaaaaa", "zzzzzz"} {
					for _, amount := range []int64{0, 1, 500, impl.MaxAmount - 1, impl.MaxAmount} {
						if e := event(day, kind, interest, amount, letters); !impl.IsEvent(e) {
							t.Errorf("%s is an event", shownEvent(e))
						}
					}
				}
			}
		}
	}
	for _, e := range notEvents() {
		if impl.IsEvent(e) {
			t.Errorf("%s is no event", shownEvent(e))
		}
	}
}

// TestIsEventOfAllParts has all events with parts on both sides of their limits.
func TestIsEventOfAllParts(t *testing.T) {
	for _, day := range []int64{-1, 0, 1, greatestDay, greatestDay + 1} {
		for kind := int64(-300); kind <= 300; kind++ {
			for _, interest := range []string{"", "a", "zzzzzz", "aaaaaaa", "A", "a1"} {
				for _, amount := range []int64{-1, 0, impl.MaxAmount, impl.MaxAmount + 1} {
					for _, letters := range []string{"-", "pvr"} {
						e := event(day, kind, interest, amount, letters)
						if got := impl.IsEvent(e); got != isEventByHand(e) {
							t.Errorf("IsEvent %s: got %t", shownEvent(e), got)
						}
					}
				}
			}
		}
	}
}

func TestIsLog(t *testing.T) {
	for _, log := range logs() {
		if !impl.IsLog(log) {
			t.Errorf("%s are a log", shownEvents(log))
		}
	}
	for _, log := range notLogs() {
		if impl.IsLog(log) {
			t.Errorf("%s are no log", shownEvents(log))
		}
	}
}

// TestIsLogOfAllDays has all lists of up to four events with days at both ends of the dates, and one
// beyond them.
func TestIsLogOfAllDays(t *testing.T) {
	check := func(days ...int64) {
		t.Helper()
		log := logOn(days...)
		if got := impl.IsLog(log); got != isLogByHand(log) {
			t.Errorf("IsLog %s: got %t", shownEvents(log), got)
		}
	}
	few := []int64{-1, 0, 1, 2, greatestDay - 1, greatestDay, greatestDay + 1}
	for _, a := range few {
		check(a)
		for _, b := range few {
			check(a, b)
			for _, c := range few {
				check(a, b, c)
				for _, d := range few {
					check(a, b, c, d)
				}
			}
		}
	}
}

func TestIsLogOfAnyEvents(t *testing.T) {
	random := fixedRandom()
	for range 20000 {
		log := anyLog(random, random.IntN(impl.MaxEvents+1))
		if !impl.IsLog(log) {
			t.Fatalf("%s are a log", shownEvents(log))
		}
		for i := range log {
			changed := slices.Clone(log)
			switch random.IntN(4) {
			case 0:
				changed[i].Day += random.Int64N(9) - 4
			case 1:
				changed[i].Kind += random.Int64N(9) - 4
			case 2:
				changed[i].Amount += random.Int64N(9) - 4
			default:
				changed[i].Interest = notPartyCodes[random.IntN(20)]
			}
			if got := impl.IsLog(changed); got != isLogByHand(changed) {
				t.Fatalf("IsLog %s: got %t", shownEvents(changed), got)
			}
		}
	}
}

// eventsFor has one event for each of the interests.
func eventsFor(interests ...string) []impl.Event {
	log := []impl.Event{}
	for i, interest := range interests {
		log = append(log, event(int64(100+i), int64(i%7), interest, int64(i), allLetters[i%8]))
	}
	return log
}

func TestDoesFit(t *testing.T) {
	for _, c := range []struct {
		log  []impl.Event
		list []impl.Interest
		want bool
	}{
		// A log without events fits every manifest.
		{nil, sampleManifest(), true},
		{[]impl.Event{}, []impl.Interest{ship("a")}, true},
		{nil, longManifest(impl.MaxInterests), true},
		{sampleLog(), sampleManifest(), true},
		{eventsFor("bunk"), sampleManifest(), true},
		{eventsFor("wool"), sampleManifest(), true},
		{eventsFor("hemp"), sampleManifest(), true},
		{eventsFor("bunk", "corn", "frt", "hemp", "ship", "tin", "wool"), sampleManifest(), true},
		{eventsFor("wool", "tin", "ship", "hemp", "frt", "corn", "bunk"), sampleManifest(), true},
		{eventsFor(slices.Repeat([]string{"tin"}, impl.MaxEvents)...), sampleManifest(), true},
		{longLog(impl.MaxEvents), []impl.Interest{ship("ship")}, true},
		{eventsFor("ship"), []impl.Interest{ship("ship")}, true},
		// One interest does not occur: alone, first, in between and last.
		{eventsFor("corn"), []impl.Interest{ship("ship")}, false},
		{eventsFor("a"), sampleManifest(), false},
		{eventsFor("zz"), sampleManifest(), false},
		{eventsFor("mm"), sampleManifest(), false},
		{eventsFor("mm", "corn", "ship"), sampleManifest(), false},
		{eventsFor("corn", "mm", "ship"), sampleManifest(), false},
		{eventsFor("corn", "ship", "mm"), sampleManifest(), false},
		{eventsFor("mm", "mm"), sampleManifest(), false},
		{append(longLog(impl.MaxEvents-1), event(greatestDay, 0, "wool", 0, "-")), []impl.Interest{ship("ship")}, false},
		// A code that only begins like another one, or is an owner, does not occur.
		{eventsFor("cor"), sampleManifest(), false},
		{eventsFor("corns"), sampleManifest(), false},
		{eventsFor("c"), sampleManifest(), false},
		{eventsFor("shi"), sampleManifest(), false},
		{eventsFor("zulu"), sampleManifest(), false},
		{eventsFor("alba"), []impl.Interest{ship("ship")}, false},
		{eventsFor("alba"), []impl.Interest{ship("alba")}, true},
	} {
		got, code := impl.DoesFit(c.log, c.list)
		wantBool(t, "DoesFit "+shownEvents(c.log)+" "+shownInterests(c.list), got, code, c.want, impl.ErrNone)
	}
}

func TestDoesFitByHand(t *testing.T) {
	random := fixedRandom()
	fitting := 0
	for range 20000 {
		list := anyManifest(random, 1+random.IntN(impl.MaxInterests))
		log := anyLog(random, random.IntN(impl.MaxEvents+1))
		want := true
		for i := range log {
			if random.IntN(10) > 0 {
				log[i].Interest = list[random.IntN(len(list))].Code
			}
			same := func(x impl.Interest) bool { return x.Code == log[i].Interest }
			want = want && slices.ContainsFunc(list, same)
		}
		if want {
			fitting++
		}
		got, code := impl.DoesFit(log, list)
		wantBool(t, "DoesFit "+shownEvents(log)+" "+shownInterests(list), got, code, want, impl.ErrNone)
	}
	if fitting < 1000 || fitting > 19000 {
		t.Errorf("%d of 20000 logs fit", fitting)
	}
}

// TestNoManifest has lists that are no manifest, also beside logs that would fit every one.
func TestNoManifest(t *testing.T) {
	lists := slices.Concat(logs(), notLogs())
	for _, list := range notManifests() {
		for _, log := range lists {
			if got, code := impl.DoesFit(log, list); got || code != impl.ErrInvalid {
				t.Errorf("DoesFit %s %s: got %t, code %d", shownEvents(log), shownInterests(list), got, code)
			}
		}
	}
}

type logCall struct {
	name string
	call func(log []impl.Event, n int64) (zero bool, code int64)
}

// logDayCalls are the functions with arguments that are days.
func logDayCalls() []logCall {
	return []logCall{
		{"EventsBetween from", func(log []impl.Event, day int64) (bool, int64) {
			got, code := impl.EventsBetween(log, day, 110)
			return len(got) == 0, code
		}},
		{"EventsBetween to", func(log []impl.Event, day int64) (bool, int64) {
			got, code := impl.EventsBetween(log, 100, day)
			return len(got) == 0, code
		}},
		{"EventsBetween", func(log []impl.Event, day int64) (bool, int64) {
			got, code := impl.EventsBetween(log, day, day)
			return len(got) == 0, code
		}},
		{"EventsBetween up to no day", func(log []impl.Event, day int64) (bool, int64) {
			got, code := impl.EventsBetween(log, day, math.MaxInt64)
			return len(got) == 0, code
		}},
		{"EventsBetween down to no day", func(log []impl.Event, day int64) (bool, int64) {
			got, code := impl.EventsBetween(log, day, -1)
			return len(got) == 0, code
		}},
	}
}

// otherLogCalls are the functions with other arguments, or none, which a number stands for.
func otherLogCalls() []logCall {
	return []logCall{
		{"DoesFit", func(log []impl.Event, n int64) (bool, int64) {
			list := []impl.Interest{ship("mm"), cargo("ship")}
			list[0].Age = n
			got, code := impl.DoesFit(log, list)
			return !got, code
		}},
		{"AddEvent", func(log []impl.Event, n int64) (bool, int64) {
			got, code := impl.AddEvent(log, event(n, 1, "mm", 5, "p"))
			return len(got) == 0, code
		}},
		{"AddEvent of any kind", func(log []impl.Event, n int64) (bool, int64) {
			got, code := impl.AddEvent(log, event(20, n, "ship", n, "p"))
			return len(got) == 0, code
		}},
		{"EventsOf", func(log []impl.Event, _ int64) (bool, int64) {
			got, code := impl.EventsOf(log, "ship")
			return len(got) == 0, code
		}},
		{"EventsOf no interest", func(log []impl.Event, _ int64) (bool, int64) {
			got, code := impl.EventsOf(log, "")
			return len(got) == 0, code
		}},
		{"TotalByKind", func(log []impl.Event, _ int64) (bool, int64) {
			got, code := impl.TotalByKind(log)
			return len(got) == 0, code
		}},
	}
}

// TestNoLog has lists that are no log beside arguments that would be wrong too: ErrInvalid is first.
func TestNoLog(t *testing.T) {
	for _, log := range notLogs() {
		for _, c := range append(logDayCalls(), otherLogCalls()...) {
			for _, n := range []int64{0, 1, 5, 6, 7, 20, 100, 500, -1, greatestDay, greatestDay + 1, math.MinInt64, math.MaxInt64} {
				if zero, code := c.call(log, n); !zero || code != impl.ErrInvalid {
					t.Errorf("%s %d of %s: zero value %t, code %d", c.name, n, shownEvents(log), zero, code)
				}
			}
		}
	}
}

// TestLogDaysOfNoDate has days that are none of a date, also where no day would be between them.
func TestLogDaysOfNoDate(t *testing.T) {
	for _, log := range logs() {
		for _, c := range logDayCalls() {
			for _, day := range slices.Concat(notDays, farInts) {
				if zero, code := c.call(log, day); !zero || code != impl.ErrRange {
					t.Errorf("%s %d of %s: zero value %t, code %d", c.name, day, shownEvents(log), zero, code)
				}
			}
		}
	}
}

func TestAddEvent(t *testing.T) {
	for _, c := range []struct {
		days []int64
		day  int64
		at   int
	}{
		// To an empty log.
		{nil, 0, 0},
		{nil, 20000, 0},
		{nil, greatestDay, 0},
		// Before the first one, behind the last one, and between two.
		{[]int64{5}, 4, 0},
		{[]int64{5}, 0, 0},
		{[]int64{5}, 6, 1},
		{[]int64{5}, greatestDay, 1},
		{[]int64{5, 7}, 4, 0},
		{[]int64{5, 7}, 6, 1},
		{[]int64{5, 7}, 8, 2},
		{[]int64{0, greatestDay}, 1, 1},
		{[]int64{0, greatestDay}, greatestDay - 1, 1},
		{[]int64{5, 5, 5}, 4, 0},
		{[]int64{5, 5, 5}, 6, 3},
		{[]int64{5, 5, 8, 8}, 6, 2},
		{[]int64{5, 5, 8, 8}, 7, 2},
		// On a day that occurs once.
		{[]int64{5}, 5, 1},
		{[]int64{5, 7}, 5, 1},
		{[]int64{5, 7}, 7, 2},
		{[]int64{5, 6, 7}, 6, 2},
		{[]int64{0}, 0, 1},
		{[]int64{greatestDay}, greatestDay, 1},
		{[]int64{0, greatestDay}, 0, 1},
		{[]int64{0, greatestDay}, greatestDay, 2},
		// On a day that occurs several times.
		{[]int64{5, 5}, 5, 2},
		{[]int64{5, 5, 7}, 5, 2},
		{[]int64{5, 7, 7}, 7, 3},
		{[]int64{5, 6, 6, 6, 7}, 6, 4},
		{[]int64{0, 0, 0}, 0, 3},
		{[]int64{greatestDay, greatestDay}, greatestDay, 2},
		// To logs that are nearly full.
		{repeated(5, impl.MaxEvents-1), 5, impl.MaxEvents - 1},
		{repeated(5, impl.MaxEvents-1), 4, 0},
		{repeated(5, impl.MaxEvents-1), 6, impl.MaxEvents - 1},
	} {
		log, e := logOn(c.days...), event(c.day, impl.EventTowage, "new", 77, "vr")
		got, code := impl.AddEvent(log, e)
		want := append(logOn(c.days...)[:c.at], e)
		want = append(want, logOn(c.days...)[c.at:]...)
		wantEvents(t, "AddEvent "+shownEvent(e)+" to "+shownEvents(log), got, code, want, impl.ErrNone)
	}
}

// TestAddEventTwice adds an event that the log has already: it occurs twice.
func TestAddEventTwice(t *testing.T) {
	log, want := []impl.Event(nil), []impl.Event{}
	for range impl.MaxEvents {
		want = append(want, eventOn(5))
		got, code := impl.AddEvent(log, eventOn(5))
		wantEvents(t, "AddEvent to "+shownEvents(log), got, code, want, impl.ErrNone)
		log = got
	}
	got, code := impl.AddEvent(log, eventOn(5))
	wantEvents(t, "AddEvent to "+shownEvents(log), got, code, nil, impl.ErrLimit)
}

func TestAddEventErrors(t *testing.T) {
	full := [][]impl.Event{longLog(impl.MaxEvents), slices.Repeat([]impl.Event{eventOn(0)}, impl.MaxEvents), slices.Repeat([]impl.Event{eventOn(greatestDay)}, impl.MaxEvents)}
	for _, log := range full {
		for _, day := range logDays(log) {
			got, code := impl.AddEvent(log, eventOn(day))
			wantEvents(t, fmt.Sprintf("AddEvent on %d to %s", day, shownEvents(log)), got, code, nil, impl.ErrLimit)
		}
	}
	// An event that is none comes before one that is too many.
	for _, e := range notEvents() {
		for _, log := range logs() {
			got, code := impl.AddEvent(log, e)
			wantEvents(t, "AddEvent "+shownEvent(e)+" to "+shownEvents(log), got, code, nil, impl.ErrInvalid)
		}
	}
	for _, log := range notLogs() {
		for _, e := range []impl.Event{{}, eventOn(0), eventOn(500), eventOn(greatestDay), eventOn(-1), eventOn(math.MaxInt64)} {
			got, code := impl.AddEvent(log, e)
			wantEvents(t, "AddEvent "+shownEvent(e)+" to "+shownEvents(log), got, code, nil, impl.ErrInvalid)
		}
	}
}

// checkAddEvent looks for the only place at which an event may have been added: all events before it are of
// the same or an earlier day, all events behind it of a later one, and the others are in their order.
func checkAddEvent(t *testing.T, log []impl.Event, e impl.Event) []impl.Event {
	t.Helper()
	what := "AddEvent " + shownEvent(e) + " to " + shownEvents(log)
	place := 0
	for _, other := range log {
		if other.Day <= e.Day {
			place++
		}
	}
	got, code := impl.AddEvent(log, e)
	if code != impl.ErrNone || len(got) != len(log)+1 {
		t.Errorf("%s: %d events, code %d", what, len(got), code)
		return nil
	}
	if !isLogByHand(got) || !impl.IsLog(got) {
		t.Errorf("%s: %s are no log", what, shownEvents(got))
	}
	if got[place] != e {
		t.Errorf("%s: %s is at its place", what, shownEvent(got[place]))
	}
	wantEvents(t, what+": the others", slices.Delete(slices.Clone(got), place, place+1), code, log, impl.ErrNone)
	return got
}

// TestAddedEventKeepsTheOrder is promise 9.
func TestAddedEventKeepsTheOrder(t *testing.T) {
	for _, log := range logs() {
		for _, day := range logDays(log) {
			if len(log) < impl.MaxEvents {
				checkAddEvent(t, log, event(day, impl.EventRepair, "new", 77, "v"))
			}
		}
	}
	random := fixedRandom()
	for range 3000 {
		log := anyLog(random, random.IntN(impl.MaxEvents))
		for _, day := range logDays(log) {
			checkAddEvent(t, log, anyEvent(random, day))
		}
	}
}

// TestAddEventsInAnyOrder fills logs from nothing: they become what a stable sort by days makes.
func TestAddEventsInAnyOrder(t *testing.T) {
	random := fixedRandom()
	for range 3000 {
		log, want := []impl.Event(nil), []impl.Event{}
		for range impl.MaxEvents {
			e := anyEvent(random, random.Int64N(8))
			log = checkAddEvent(t, log, e)
			want = append(want, e)
		}
		slices.SortStableFunc(want, func(a, b impl.Event) int { return int(a.Day - b.Day) })
		wantEvents(t, "all added events", log, 0, want, 0)
	}
}

func TestEventsBetween(t *testing.T) {
	for _, c := range []struct {
		from, to int64
		want     []int64
	}{
		// No event: before the first one, between two, and behind the last one.
		{0, 99, nil}, {0, 0, nil}, {99, 99, nil}, {101, 102, nil}, {101, 101, nil}, {104, 109, nil}, {111, 149, nil}, {151, greatestDay, nil}, {greatestDay, greatestDay, nil},
		// One event.
		{103, 103, []int64{2}}, {101, 109, []int64{2}}, {102, 104, []int64{2}}, {150, 150, []int64{6}}, {111, greatestDay, []int64{6}}, {149, 151, []int64{6}},
		// Several ones, on one day and on more.
		{100, 100, []int64{0, 1}}, {0, 100, []int64{0, 1}}, {99, 102, []int64{0, 1}}, {110, 110, []int64{3, 4, 5}}, {104, 149, []int64{3, 4, 5}}, {100, 103, []int64{0, 1, 2}}, {103, 110, []int64{2, 3, 4, 5}}, {101, 150, []int64{2, 3, 4, 5, 6}}, {100, 149, []int64{0, 1, 2, 3, 4, 5}},
		// All of them.
		{100, 150, []int64{0, 1, 2, 3, 4, 5, 6}}, {0, greatestDay, []int64{0, 1, 2, 3, 4, 5, 6}}, {99, 151, []int64{0, 1, 2, 3, 4, 5, 6}},
		// To is before from.
		{100, 99, nil}, {150, 100, nil}, {101, 100, nil}, {111, 110, nil}, {110, 109, nil}, {greatestDay, 0, nil}, {1, 0, nil}, {104, 102, nil},
	} {
		got, code := impl.EventsBetween(sampleLog(), c.from, c.to)
		wantInts(t, fmt.Sprint("EventsBetween ", c.from, c.to), got, code, c.want, impl.ErrNone)
	}
	for _, c := range []struct{ from, to int64 }{{0, 0}, {0, greatestDay}, {greatestDay, 0}, {5, 5}} {
		for _, log := range [][]impl.Event{nil, {}} {
			got, code := impl.EventsBetween(log, c.from, c.to)
			wantInts(t, fmt.Sprint("EventsBetween of an empty log ", c.from, c.to), got, code, nil, impl.ErrNone)
		}
	}
	ends := logOn(0, 0, greatestDay, greatestDay)
	for _, c := range []struct {
		from, to int64
		want     []int64
	}{{0, 0, []int64{0, 1}}, {greatestDay, greatestDay, []int64{2, 3}}, {1, greatestDay - 1, nil}, {0, greatestDay - 1, []int64{0, 1}}, {1, greatestDay, []int64{2, 3}}, {0, greatestDay, []int64{0, 1, 2, 3}}} {
		got, code := impl.EventsBetween(ends, c.from, c.to)
		wantInts(t, fmt.Sprint("EventsBetween of both ends ", c.from, c.to), got, code, c.want, impl.ErrNone)
	}
}

func TestEventsBetweenByHand(t *testing.T) {
	random := fixedRandom()
	lists := logs()
	for range 300 {
		lists = append(lists, anyLog(random, random.IntN(impl.MaxEvents+1)))
	}
	for _, log := range lists {
		days := logDays(log)
		for _, from := range days {
			for _, to := range days {
				want := []int64{}
				for i, e := range log {
					if from <= e.Day && e.Day <= to {
						want = append(want, int64(i))
					}
				}
				got, code := impl.EventsBetween(log, from, to)
				wantInts(t, fmt.Sprint("EventsBetween ", from, to, shownEvents(log)), got, code, want, impl.ErrNone)
			}
		}
	}
}

func TestEventsOf(t *testing.T) {
	for _, c := range []struct {
		log      []impl.Event
		interest string
		want     []int64
	}{
		{sampleLog(), "corn", []int64{0, 1, 4}},
		{sampleLog(), "ship", []int64{3, 5, 6}},
		{sampleLog(), "wool", []int64{2}},
		{sampleLog(), "tin", nil},
		{sampleLog(), "cor", nil},
		{sampleLog(), "corns", nil},
		{sampleLog(), "c", nil},
		{sampleLog(), "zzzzzz", nil},
		{longLog(impl.MaxEvents), "ship", []int64{0, 1, 2, 3, 4, 5, 6, 7, 8, 9, 10, 11, 12, 13, 14}},
		{longLog(impl.MaxEvents), "corn", nil},
		{longLog(1), "ship", []int64{0}},
		{append(longLog(impl.MaxEvents-1), event(greatestDay, 0, "corn", 0, "-")), "corn", []int64{14}},
		{nil, "corn", nil},
		{[]impl.Event{}, "a", nil},
	} {
		got, code := impl.EventsOf(c.log, c.interest)
		wantInts(t, fmt.Sprintf("EventsOf %q %s", c.interest, shownEvents(c.log)), got, code, c.want, impl.ErrNone)
	}
	// No event is for an interest that is no code, and the chapter has no error for it.
	for _, s := range slices.Concat(notPartyCodes, []string{"", "corn\x00", " corn", "CORN", strings.Repeat("corn", 100000)}) {
		for _, log := range logs() {
			got, code := impl.EventsOf(log, s)
			wantInts(t, fmt.Sprintf("EventsOf %.20q %s", s, shownEvents(log)), got, code, nil, impl.ErrNone)
		}
	}
}

// TestEventsOfByHand has all interests of any logs: each event is found once.
func TestEventsOfByHand(t *testing.T) {
	random := fixedRandom()
	for range 5000 {
		log := anyLog(random, random.IntN(impl.MaxEvents+1))
		byInterest := map[string][]int64{"none": nil, anyPartyCode(random): nil}
		for i, e := range log {
			byInterest[e.Interest] = append(byInterest[e.Interest], int64(i))
		}
		for code, want := range byInterest {
			got, errorCode := impl.EventsOf(log, code)
			wantInts(t, fmt.Sprintf("EventsOf %q %s", code, shownEvents(log)), got, errorCode, want, impl.ErrNone)
		}
	}
}

func TestTotalByKind(t *testing.T) {
	greatest := int64(impl.MaxAmount)
	full := func(kind int64) []impl.Event {
		return slices.Repeat([]impl.Event{event(5, kind, "corn", greatest, "p")}, impl.MaxEvents)
	}
	for _, c := range []struct {
		log  []impl.Event
		want []int64
	}{
		{nil, []int64{0, 0, 0, 0, 0, 0, 0}},
		{[]impl.Event{}, []int64{0, 0, 0, 0, 0, 0, 0}},
		{sampleLog(), []int64{41, 1000, 0, 7000, 0, 0, 2*greatest - 1}},
		{[]impl.Event{event(5, 0, "a", 7, "-")}, []int64{7, 0, 0, 0, 0, 0, 0}},
		{[]impl.Event{event(5, 1, "a", 7, "-")}, []int64{0, 7, 0, 0, 0, 0, 0}},
		{[]impl.Event{event(5, 2, "a", 7, "-")}, []int64{0, 0, 7, 0, 0, 0, 0}},
		{[]impl.Event{event(5, 3, "a", 7, "-")}, []int64{0, 0, 0, 7, 0, 0, 0}},
		{[]impl.Event{event(5, 4, "a", 7, "-")}, []int64{0, 0, 0, 0, 7, 0, 0}},
		{[]impl.Event{event(5, 5, "a", 7, "-")}, []int64{0, 0, 0, 0, 0, 7, 0}},
		{[]impl.Event{event(5, 6, "a", 7, "-")}, []int64{0, 0, 0, 0, 0, 0, 7}},
		{[]impl.Event{event(5, 6, "a", 0, "-")}, []int64{0, 0, 0, 0, 0, 0, 0}},
		// The sums are greater than an amount, and than 32 bits hold.
		{full(0), []int64{15 * greatest, 0, 0, 0, 0, 0, 0}},
		{full(3), []int64{0, 0, 0, 15 * greatest, 0, 0, 0}},
		{full(6), []int64{0, 0, 0, 0, 0, 0, 15 * greatest}},
		{longLog(impl.MaxEvents), []int64{3*greatest - 21, 2*greatest - 9, 2*greatest - 11, 2*greatest - 13, 2*greatest - 15, 2*greatest - 17, 2*greatest - 19}},
	} {
		got, code := impl.TotalByKind(c.log)
		wantInts(t, "TotalByKind "+shownEvents(c.log), got, code, c.want, impl.ErrNone)
	}
}

func TestTotalByKindByHand(t *testing.T) {
	random := fixedRandom()
	for range 20000 {
		log := anyLog(random, random.IntN(impl.MaxEvents+1))
		sums := map[int64]int64{}
		for _, e := range log {
			sums[e.Kind] += e.Amount
		}
		want := []int64{sums[0], sums[1], sums[2], sums[3], sums[4], sums[5], sums[6]}
		got, code := impl.TotalByKind(log)
		wantInts(t, "TotalByKind "+shownEvents(log), got, code, want, impl.ErrNone)
	}
}

// eventText follows the words of the chapter.
func eventText(e impl.Event) string {
	letters := map[[3]bool]string{
		{false, false, false}: "-", {true, false, false}: "p", {false, true, false}: "v", {false, false, true}: "r",
		{true, true, false}: "pv", {true, false, true}: "pr", {false, true, true}: "vr", {true, true, true}: "pvr",
	}[[3]bool{e.Peril, e.Voluntary, e.Reasonable}]
	return fmt.Sprintf("%s/%d/%s/%d.%02d/%s", calendarText(calendarDate(e.Day)), e.Kind, e.Interest, e.Amount/100, e.Amount%100, letters)
}

func TestEventText(t *testing.T) {
	for _, c := range []struct {
		e    impl.Event
		want string
	}{
		{impl.Event{Day: 20000, Interest: "corn", Amount: 500, Peril: true, Reasonable: true}, "2024-10-04/0/corn/5.00/pr"},
		{impl.Event{Interest: "a"}, "1970-01-01/0/a/0.00/-"},
		{impl.Event{Day: greatestDay, Kind: 6, Interest: "zzzzzz", Amount: impl.MaxAmount, Peril: true, Voluntary: true, Reasonable: true}, "2069-12-31/6/zzzzzz/10000000.00/pvr"},
		{impl.Event{Day: 789, Kind: 1, Interest: "b", Amount: 1, Peril: true}, "1972-02-29/1/b/0.01/p"},
		{impl.Event{Day: 789, Kind: 2, Interest: "b", Amount: 10, Voluntary: true}, "1972-02-29/2/b/0.10/v"},
		{impl.Event{Day: 789, Kind: 3, Interest: "b", Amount: 99, Reasonable: true}, "1972-02-29/3/b/0.99/r"},
		{impl.Event{Day: 789, Kind: 4, Interest: "b", Amount: 100, Peril: true, Voluntary: true}, "1972-02-29/4/b/1.00/pv"},
		{impl.Event{Day: 789, Kind: 5, Interest: "b", Amount: 123456789, Voluntary: true, Reasonable: true}, "1972-02-29/5/b/1234567.89/vr"},
		{impl.Event{Day: 100, Kind: 6, Interest: "pvr", Amount: 705, Peril: true, Reasonable: true}, "1970-04-11/6/pvr/7.05/pr"},
		{impl.Event{Day: 100, Kind: 6, Interest: "pvr", Amount: 705}, "1970-04-11/6/pvr/7.05/-"},
	} {
		got, code := impl.EventText(c.e)
		wantText(t, "EventText "+shownEvent(c.e), got, code, c.want, impl.ErrNone)
		read, code := impl.ReadEvent(c.want)
		wantEvent(t, "ReadEvent "+c.want, read, code, c.e, impl.ErrNone)
	}
	for _, e := range notEvents() {
		got, code := impl.EventText(e)
		wantText(t, "EventText "+shownEvent(e), got, code, "", impl.ErrInvalid)
	}
}

// TestEventsAreRecovered is promise 1 for events.
func TestEventsAreRecovered(t *testing.T) {
	random := fixedRandom()
	texts := map[string]impl.Event{}
	check := func(e impl.Event) {
		t.Helper()
		text, code := impl.EventText(e)
		wantText(t, "EventText "+shownEvent(e), text, code, eventText(e), impl.ErrNone)
		got, code := impl.ReadEvent(text)
		wantEvent(t, "ReadEvent "+text, got, code, e, impl.ErrNone)
		if other, known := texts[text]; known && other != e {
			t.Errorf("%q is the text of %s and of %s", text, shownEvent(e), shownEvent(other))
		}
		texts[text] = e
	}
	for _, letters := range allLetters {
		for kind := range int64(7) {
			for _, interest := range []string{"a", "z", "corn", "p", "v", "r", "pvr", "aaaaaa", "zzzzzz", anyPartyCode(random)} {
				for _, amount := range []int64{0, 1, 9, 10, 99, 100, 101, 5000, impl.MaxAmount - 1, impl.MaxAmount, anyAmount(random)} {
					for _, day := range []int64{0, 1, 789, 20000, greatestDay - 1, greatestDay} {
						check(event(day, kind, interest, amount, letters))
					}
				}
			}
		}
	}
	for day := range int64(greatestDay + 1) {
		check(anyEvent(random, day))
	}
}

func TestReadEventErrors(t *testing.T) {
	texts := []string{
		// Slashes are missing, doubled, or too many.
		"", "/", "//", "///", "////", "/////", "-", "////-", "/////-", "p", "pvr", "2024-10-04", "2024-10-04/0", "2024-10-04/0/corn", "2024-10-04/0/corn/5.00", "2024-10-04/0/corn/5.00/", "/0/corn/5.00/pr", "2024-10-04//corn/5.00/pr", "2024-10-04/0//5.00/pr", "2024-10-04/0/corn//pr",
		"2024-10-040/corn/5.00/pr", "2024-10-04/0corn/5.00/pr", "2024-10-04/0/corn5.00/pr", "2024-10-04/0/corn/5.00pr", "2024-10-04/0/corn/5.00-", "0/corn/5.00/pr", "2024-10-04/corn/5.00/pr", "2024-10-04/0/5.00/pr", "2024-10-04/0/corn/pr",
		"2024-10-04//0/corn/5.00/pr", "2024-10-04/0//corn/5.00/pr", "2024-10-04/0/corn//5.00/pr", "2024-10-04/0/corn/5.00//pr", "/2024-10-04/0/corn/5.00/pr", "2024-10-04/0/corn/5.00/pr/", "2024-10-04/0/corn/5.00/p/r", "2024-10-04/0/corn/5.00/pr/pr", "2024-10-04/0/corn/5.00/pr//", "2024-10-04/0/corn/5.00/-/", "2024-10-04/0/corn/5.00//-",
		"2024/10/04/0/corn/5.00/pr", "2024-10-04/0/co/rn/5.00/pr", "2024-10-04/0/corn/5/00/pr", "2024-10-04\\0\\corn\\5.00\\pr", "2024-10-04 0 corn 5.00 pr", "2024-10-04-0-corn-5.00-pr", "2024-10-04/0/corn/5.00|pr",
		// Letters are in another order, doubled, beside a minus sign, or none.
		"2024-10-04/0/corn/5.00/rp", "2024-10-04/0/corn/5.00/vp", "2024-10-04/0/corn/5.00/rv", "2024-10-04/0/corn/5.00/prv", "2024-10-04/0/corn/5.00/vpr", "2024-10-04/0/corn/5.00/vrp", "2024-10-04/0/corn/5.00/rpv", "2024-10-04/0/corn/5.00/rvp",
		"2024-10-04/0/corn/5.00/pp", "2024-10-04/0/corn/5.00/vv", "2024-10-04/0/corn/5.00/rr", "2024-10-04/0/corn/5.00/ppr", "2024-10-04/0/corn/5.00/prr", "2024-10-04/0/corn/5.00/pvvr", "2024-10-04/0/corn/5.00/pvrp", "2024-10-04/0/corn/5.00/pvrpvr",
		"2024-10-04/0/corn/5.00/-p", "2024-10-04/0/corn/5.00/p-", "2024-10-04/0/corn/5.00/-pvr", "2024-10-04/0/corn/5.00/pvr-", "2024-10-04/0/corn/5.00/p-r", "2024-10-04/0/corn/5.00/p-v", "2024-10-04/0/corn/5.00/--", "2024-10-04/0/corn/5.00/---",
		"2024-10-04/0/corn/5.00/P", "2024-10-04/0/corn/5.00/PR", "2024-10-04/0/corn/5.00/x", "2024-10-04/0/corn/5.00/prx", "2024-10-04/0/corn/5.00/p,r", "2024-10-04/0/corn/5.00/p r", "2024-10-04/0/corn/5.00/+", "2024-10-04/0/corn/5.00/.", "2024-10-04/0/corn/5.00/0", "2024-10-04/0/corn/5.00/1", "2024-10-04/0/corn/5.00/\u2212", "2024-10-04/0/corn/5.00/\uff50", "2024-10-04/0/corn/5.00/\u0440", "2024-10-04/0/corn/5.00/p\xff",
		// A date is none.
		"2024-10-4/0/corn/5.00/pr", "2024-1-04/0/corn/5.00/pr", "24-10-04/0/corn/5.00/pr", "2024-02-30/0/corn/5.00/pr", "2023-02-29/0/corn/5.00/pr", "2024-13-04/0/corn/5.00/pr", "2024-00-04/0/corn/5.00/pr", "2024-10-00/0/corn/5.00/pr", "2024-10-32/0/corn/5.00/pr", "1969-12-31/0/corn/5.00/pr", "2070-01-01/0/corn/5.00/pr", "0000-00-00/0/corn/5.00/pr",
		"20000/0/corn/5.00/pr", "0/0/corn/5.00/pr", "-/0/corn/5.00/pr", "x/0/corn/5.00/pr", "02024-10-04/0/corn/5.00/pr", "2024-010-04/0/corn/5.00/pr", "2024-10-004/0/corn/5.00/pr", "+2024-10-04/0/corn/5.00/pr", "-2024-10-04/0/corn/5.00/pr", "2024-+1-04/0/corn/5.00/pr", "2024--1-04/0/corn/5.00/pr", "2024.10.04/0/corn/5.00/pr", "04-10-2024/0/corn/5.00/pr", "2024-10-\uff10\uff14/0/corn/5.00/pr", "/0/a/0.00/-", "x/0/a/0.00/-", "0/0/a/0.00/-", "1969-12-31/0/a/0.00/-", strings.Repeat("0", 100000) + "2024-10-04/0/corn/5.00/pr",
		// A kind has superfluous zeros or signs, is none, or is no number.
		"2024-10-04/00/corn/5.00/pr", "2024-10-04/01/corn/5.00/pr", "2024-10-04/006/corn/5.00/pr", "2024-10-04/+0/corn/5.00/pr", "2024-10-04/-0/corn/5.00/pr", "2024-10-04/+1/corn/5.00/pr", "2024-10-04/-1/corn/5.00/pr", "2024-10-04/7/corn/5.00/pr", "2024-10-04/8/corn/5.00/pr", "2024-10-04/10/corn/5.00/pr", "2024-10-04/66/corn/5.00/pr", "2024-10-04/-/corn/5.00/pr", "2024-10-04/--1/corn/5.00/pr",
		"2024-10-04/0.0/corn/5.00/pr", "2024-10-04/1e0/corn/5.00/pr", "2024-10-04/0x1/corn/5.00/pr", "2024-10-04/0_1/corn/5.00/pr", "2024-10-04/a/corn/5.00/pr", "2024-10-04/fire/corn/5.00/pr", "2024-10-04/256/corn/5.00/pr", "2024-10-04/4294967296/corn/5.00/pr", "2024-10-04/4294967299/corn/5.00/pr", "2024-10-04/9223372036854775807/corn/5.00/pr", "2024-10-04/9223372036854775808/corn/5.00/pr", "2024-10-04/-9223372036854775808/corn/5.00/pr", "2024-10-04/18446744073709551616/corn/5.00/pr", "2024-10-04/18446744073709551619/corn/5.00/pr", "2024-10-04/\u0663/corn/5.00/pr", "2024-10-04/\xff/corn/5.00/pr", "2024-10-04/3\x00/corn/5.00/pr", "2024-10-04/" + strings.Repeat("0", 100000) + "/corn/5.00/pr",
		// An interest is no code.
		"2024-10-04/0/Corn/5.00/pr", "2024-10-04/0/CORN/5.00/pr", "2024-10-04/0/c0rn/5.00/pr", "2024-10-04/0/abcdefg/5.00/pr", "2024-10-04/0/-/5.00/pr", "2024-10-04/0/co-rn/5.00/pr", "2024-10-04/0/cor\xff/5.00/pr", "2024-10-04/0/caf\u00e9/5.00/pr", "2024-10-04/0/0/5.00/pr", "2024-10-04/0/" + strings.Repeat("a", 100000) + "/5.00/pr",
		// An amount has superfluous zeros or signs, is none, or is no number.
		"2024-10-04/0/corn/05.00/pr", "2024-10-04/0/corn/00.00/pr", "2024-10-04/0/corn/+5.00/pr", "2024-10-04/0/corn/-5.00/pr", "2024-10-04/0/corn/-0.00/pr", "2024-10-04/0/corn/-0.01/pr", "2024-10-04/0/corn/+0.00/pr", "2024-10-04/0/corn/5/pr", "2024-10-04/0/corn/5./pr", "2024-10-04/0/corn/5.0/pr", "2024-10-04/0/corn/5.000/pr", "2024-10-04/0/corn/.00/pr", "2024-10-04/0/corn/.50/pr", "2024-10-04/0/corn/500/pr", "2024-10-04/0/corn/5,00/pr", "2024-10-04/0/corn/5.00.00/pr", "2024-10-04/0/corn/5.-1/pr", "2024-10-04/0/corn/5.+1/pr", "2024-10-04/0/corn/-/pr", "2024-10-04/0/corn/./pr",
		"2024-10-04/0/corn/10000000.01/pr", "2024-10-04/0/corn/10000001.00/pr", "2024-10-04/0/corn/10000000000.00/pr", "2024-10-04/0/corn/10000000000.01/pr", "2024-10-04/0/corn/42949672.96/pr", "2024-10-04/0/corn/92233720368547758.07/pr", "2024-10-04/0/corn/92233720368547758.08/pr", "2024-10-04/0/corn/-92233720368547758.08/pr", "2024-10-04/0/corn/184467440737095516.16/pr", "2024-10-04/0/corn/184467440737095521.16/pr", "2024-10-04/0/corn/0x5.00/pr", "2024-10-04/0/corn/5_0.00/pr", "2024-10-04/0/corn/5e1/pr", "2024-10-04/0/corn/a/pr", "2024-10-04/0/corn/aa.aa/pr", "2024-10-04/0/corn/5.\uff10\uff10/pr", "2024-10-04/0/corn/\xff.\xff\xff/pr", "2024-10-04/0/corn/" + strings.Repeat("0", 100000) + "5.00/pr", "2024-10-04/0/corn/" + strings.Repeat("9", 100000) + ".00/pr",
		// Parts are in another order.
		"0/2024-10-04/corn/5.00/pr", "2024-10-04/corn/0/5.00/pr", "2024-10-04/0/5.00/corn/pr", "2024-10-04/0/corn/pr/5.00", "pr/5.00/corn/0/2024-10-04", "2024-10-04/0/pr/5.00/corn",
		// There are blanks or other bytes before, behind or inside.
		" 2024-10-04/0/corn/5.00/pr", "2024-10-04/0/corn/5.00/pr ", "2024-10-04 /0/corn/5.00/pr", "2024-10-04/ 0/corn/5.00/pr", "2024-10-04/0 /corn/5.00/pr", "2024-10-04/0/ corn/5.00/pr", "2024-10-04/0/corn /5.00/pr", "2024-10-04/0/corn/ 5.00/pr", "2024-10-04/0/corn/5.00 /pr", "2024-10-04/0/corn/5.00/ pr", "2024-10-04/0/co rn/5.00/pr", "2024-10-04/0/corn/5. 00/pr", "2024 10 04/0/corn/5.00/pr", "2024-10-04/0/corn/5.00/ ", "2024-10-04/0/corn/5.00/- ", "2024-10-04/0/corn/5.00/ -", " / / / / ", "     ",
		"\n2024-10-04/0/corn/5.00/pr", "2024-10-04/0/corn/5.00/pr\n", "2024-10-04/0/corn\n/5.00/pr", "\t2024-10-04/0/corn/5.00/pr", "2024-10-04/0/corn/5.00/pr\t", "2024-10-04/0/corn/5.00/pr\r", "2024-10-04/0/corn/5.00/pr\x00", "\x002024-10-04/0/corn/5.00/pr", "\ufeff2024-10-04/0/corn/5.00/pr", "2024-10-04/0/corn/5.00/pr\u00a0",
		strings.Repeat("2024-10-04/0/corn/5.00/pr", 10000), strings.Repeat("/", 100000), strings.Repeat("p", 100000), strings.Repeat("-", 100000), strings.Repeat("\xff", 100000), "2024-10-04/0/corn/5.00/" + strings.Repeat("p", 100000), "2024-10-04/0/corn/5.00/" + strings.Repeat("pvr", 100000), "2024-10-04/0/corn/5.00/pr" + strings.Repeat("/", 100000), "2024-10-04/0/corn/5.00/" + strings.Repeat("-", 100000),
	}
	for _, s := range texts {
		got, code := impl.ReadEvent(s)
		wantEvent(t, fmt.Sprintf("ReadEvent %.60q", s), got, code, impl.Event{}, impl.ErrSyntax)
	}
}

// eventPattern matches the texts of all events, but also some dates and amounts that are none.
var eventPattern = regexp.MustCompile(`\A([0-9]{4}-[0-9]{2}-[0-9]{2})/([0-6])/([a-z]{1,6})/(0|[1-9][0-9]{0,7})\.([0-9]{2})/(-|p|v|r|pv|pr|vr|pvr)\z`)

// eventReader takes texts apart by a pattern, and finds their dates in the calendar of the library.
type eventReader map[string]int64

func (days eventReader) read(s string) (impl.Event, int64) {
	parts := eventPattern.FindStringSubmatch(s)
	if parts == nil {
		return impl.Event{}, impl.ErrSyntax
	}
	day, isDay := days[parts[1]]
	kind, _ := strconv.ParseInt(parts[2], 10, 64)
	amount, _ := strconv.ParseInt(parts[4]+parts[5], 10, 64)
	if !isDay || amount > 1000000000 {
		return impl.Event{}, impl.ErrSyntax
	}
	return event(day, kind, parts[3], amount, parts[6]), impl.ErrNone
}

func (days eventReader) check(t *testing.T, s string) {
	t.Helper()
	want, wantCode := days.read(s)
	got, code := impl.ReadEvent(s)
	wantEvent(t, fmt.Sprintf("ReadEvent %q", s), got, code, want, wantCode)
	if code == impl.ErrNone {
		text, code := impl.EventText(got)
		wantText(t, fmt.Sprintf("EventText of what %q tells", s), text, code, s, impl.ErrNone)
	}
}

// TestReadEventOfChangedTexts reads all texts that differ from that of an event in one place.
func TestReadEventOfChangedTexts(t *testing.T) {
	reader := eventReader(newVoyageReader())
	for _, s := range []string{"2024-10-04/0/corn/5.00/pr", "1970-01-01/0/a/0.00/-", "2069-12-31/6/zzzzzz/10000000.00/pvr", "1972-02-29/5/pvr/0.01/p", "2000-02-28/3/p/9999999.99/v", "1999-12-31/1/aaaaaa/10.10/r", "2024-10-04/2/b/1.00/pv", "2024-10-04/4/b/1.00/vr"} {
		for changed := range changedTexts(s) {
			reader.check(t, changed)
		}
	}
}

// TestReadEventOfAllLetters has all texts of up to four of the letters, and some others.
func TestReadEventOfAllLetters(t *testing.T) {
	reader := eventReader(newVoyageReader())
	for _, part := range textsUpTo(4, "p", "v", "r", "-", "P", " ", "/", "x") {
		reader.check(t, "2024-10-04/0/corn/5.00/"+part)
		reader.check(t, "2024-10-04/0/corn/5.00"+part)
	}
}

// TestReadEventOfAllParts puts together all texts of some parts that are right and some that are not.
func TestReadEventOfAllParts(t *testing.T) {
	reader := eventReader(newVoyageReader())
	dates := []string{"1970-01-01", "2069-12-31", "2070-01-01", "1969-12-31", "1970-02-29", "1972-02-29", "1970-1-1", "", " 1970-01-02"}
	kinds := []string{"0", "3", "6", "7", "-1", "00", "+1", "-0", "", "1 "}
	interests := []string{"a", "zzzzzz", "", "aaaaaaa", "A", "-", "p"}
	amounts := []string{"0.00", "0.01", "50.00", "10000000.00", "10000000.01", "-0.01", "-0.00", "00.00", "+1.00", "50", "", " 1.00"}
	letters := append([]string{"", "rp", "pp", "p-", "-p", "P", "p ", "p/", "/p", "--", "pvrp"}, allLetters...)
	for _, date := range dates {
		for _, kind := range kinds {
			for _, interest := range interests {
				for _, amount := range amounts {
					for _, letter := range letters {
						reader.check(t, strings.Join([]string{date, kind, interest, amount, letter}, "/"))
					}
				}
			}
		}
	}
}

func TestEventsKeepTheirArguments(t *testing.T) {
	log, kept := inSpareRoom(sampleLog(), eventOn(-1), eventOn(greatestDay), impl.Event{})
	list, listKept := inSpareRoom(sampleManifest(), cargo("zzz"), interest("own", -1, "", -1, -1))
	own := event(-1, -1, "own", -1, "pvr")
	impl.IsLog(log)
	impl.DoesFit(log, list)
	for _, day := range []int64{0, 99, 100, 101, 110, 150, 151, greatestDay, -1} {
		added, _ := impl.AddEvent(log, event(day, 3, "new", 77, "v"))
		overwrite(added, own)
		between, _ := impl.EventsBetween(log, 100, day)
		overwrite(between, -1)
	}
	of, _ := impl.EventsOf(log, "corn")
	overwrite(of, -1)
	totals, _ := impl.TotalByKind(log)
	overwrite(totals, -1)
	if !kept() || !listKept() {
		t.Error("an argument, or the memory behind it, has changed")
	}
	between, code := impl.EventsBetween(log, 100, 103)
	wantInts(t, "EventsBetween again", between, code, []int64{0, 1, 2}, impl.ErrNone)
	of, code = impl.EventsOf(log, "corn")
	wantInts(t, "EventsOf again", of, code, []int64{0, 1, 4}, impl.ErrNone)
	totals, code = impl.TotalByKind(nil)
	wantInts(t, "TotalByKind again", totals, code, repeated(0, 7), impl.ErrNone)
}

// TestAddEventSharesNoMemory adds twice to a log with spare room, so that an event that is written into this
// room would show in the first result.
func TestAddEventSharesNoMemory(t *testing.T) {
	log := append(make([]impl.Event, 0, impl.MaxEvents), logOn(10, 20)...)
	first, _ := impl.AddEvent(log, eventOn(30))
	second, _ := impl.AddEvent(first, eventOn(40))
	third, _ := impl.AddEvent(first, eventOn(50))
	fourth, _ := impl.AddEvent(log, eventOn(15))
	fifth, _ := impl.AddEvent(log, eventOn(5))
	wantEvents(t, "the log", log, 0, logOn(10, 20), 0)
	wantEvents(t, "the first result", first, 0, append(logOn(10, 20), eventOn(30)), 0)
	wantEvents(t, "the second result", second, 0, append(logOn(10, 20), eventOn(30), eventOn(40)), 0)
	wantEvents(t, "the third result", third, 0, append(logOn(10, 20), eventOn(30), eventOn(50)), 0)
	wantEvents(t, "the fourth result", fourth, 0, slices.Insert(logOn(10, 20), 1, eventOn(15)), 0)
	wantEvents(t, "the fifth result", fifth, 0, slices.Insert(logOn(10, 20), 0, eventOn(5)), 0)
	if behind := log[len(log):cap(log)]; !slices.Equal(behind, make([]impl.Event, impl.MaxEvents-2)) {
		t.Errorf("the spare room has changed: %s", shownEvents(behind))
	}
}
