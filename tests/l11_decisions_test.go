package tests

import (
	"fmt"
	"math"
	"math/rand/v2"
	"regexp"
	"slices"
	"strconv"
	"strings"
	"testing"

	"loop.example/g01010/impl"
)

// The functions have the signatures that the chapter lists.
var (
	_ func([]impl.Clause, impl.Event) (impl.Decision, int64)     = impl.DecideEvent
	_ func([]impl.Clause, []impl.Event) ([]impl.Decision, int64) = impl.DecideLog
	_ func([]impl.Clause, []impl.Event, int64) ([]int64, int64)  = impl.EventsWith
	_ func([]impl.Clause, []impl.Event) ([]int64, int64)         = impl.TotalsByResult
	_ func([]impl.Clause, []impl.Event) ([]int64, int64)         = impl.CountUses
	_ func([]impl.Clause, []impl.Event) (int64, int64)           = impl.LongestChain
	_ func(impl.Decision) (string, int64)                        = impl.ChainText
	_ func(string) (impl.Decision, int64)                        = impl.ReadChain
	_ struct {
		Result int64
		Chain  []string
	} = impl.Decision{}
)

// notFinal are integers with which no event is decided, also the result that leads on.
var notFinal = slices.Concat([]int64{impl.ResultGo}, notResults, farInts)

// chainPattern matches the texts of all chains, and no others.
var chainPattern = regexp.MustCompile(`\A[a-z]{1,6}(?:->[a-z]{1,6}){0,11}=[012]\z`)

func readChainByHand(s string) (impl.Decision, int64) {
	if !chainPattern.MatchString(s) {
		return impl.Decision{}, impl.ErrSyntax
	}
	result, _ := strconv.ParseInt(s[len(s)-1:], 10, 64)
	return impl.Decision{Result: result, Chain: strings.Split(s[:len(s)-2], "->")}, impl.ErrNone
}

// decision is the one with a text.
func decision(s string) impl.Decision {
	d, code := readChainByHand(s)
	if code != impl.ErrNone {
		panic(s + " is the text of no chain")
	}
	return d
}

// decisions are those whose texts blanks separate.
func decisions(texts string) []impl.Decision {
	list := []impl.Decision{}
	for _, s := range strings.Fields(texts) {
		list = append(list, decision(s))
	}
	return list
}

// throughAll has count clauses, each of which leads each event to the next one.
func throughAll(count int, result int64) []impl.Clause {
	list := []impl.Clause{}
	for i := range count - 1 {
		list = append(list, impl.Clause{Code: clauseCode(i), Kind: -1, Result: impl.ResultGo, To: clauseCode(i + 1)})
	}
	return append(list, impl.Clause{Code: clauseCode(count - 1), Kind: -1, Result: result})
}

// chainOf has the codes of count clauses of throughAll.
func chainOf(count int) []string {
	codes := []string{}
	for i := range count {
		codes = append(codes, clauseCode(i))
	}
	return codes
}

// notDecisions are decisions that have no text; but for what is wrong, they have the code mm.
func notDecisions() []impl.Decision {
	list := []impl.Decision{{}, {Chain: []string{}}, {Result: 2}, {Result: -1, Chain: []string{""}}, {Result: 3, Chain: []string{"MM"}}, {Chain: make([]string, 1)}, {Chain: make([]string, impl.MaxClauses)}, {Chain: make([]string, 100000)}}
	for _, count := range []int{impl.MaxClauses + 1, impl.MaxClauses + 2, 255, 256, 256 + 1, 256 + impl.MaxClauses, 5000} {
		list = append(list, impl.Decision{Chain: chainOf(count)}, impl.Decision{Result: 1, Chain: slices.Repeat([]string{"mm"}, count)})
	}
	for _, result := range notFinal {
		list = append(list, impl.Decision{Result: result, Chain: []string{"mm"}}, impl.Decision{Result: result, Chain: chainOf(impl.MaxClauses)})
	}
	for _, s := range slices.Concat(notPartyCodes, []string{"mm->mm", "mm->", "->mm", "->", "mm=0", "=", "=0", ">", "mm>mm", "mm=0->mm"}) {
		list = append(list, impl.Decision{Chain: []string{s}}, impl.Decision{Result: 1, Chain: []string{s, "mm"}}, impl.Decision{Result: 2, Chain: []string{"mm", s}}, impl.Decision{Chain: []string{"mm", s, "mm"}}, impl.Decision{Chain: append(chainOf(impl.MaxClauses-1), s)})
	}
	return list
}

// shownDecision writes a decision for a message, with codes quoted, and cut if there are many or they are long.
func shownDecision(d impl.Decision) string {
	codes := []string{}
	for _, s := range d.Chain[:min(len(d.Chain), impl.MaxClauses+1)] {
		codes = append(codes, fmt.Sprintf("%.20q", s))
	}
	return fmt.Sprintf("{%d %d codes %v}", d.Result, len(d.Chain), codes)
}

func shownDecisions(list []impl.Decision) string {
	texts := []string{}
	for _, d := range list[:min(len(list), impl.MaxEvents+1)] {
		texts = append(texts, shownDecision(d))
	}
	return fmt.Sprintf("%d decisions %v", len(list), texts)
}

func sameDecision(a, b impl.Decision) bool {
	return a.Result == b.Result && slices.Equal(a.Chain, b.Chain)
}

func wantDecision(t *testing.T, what string, got impl.Decision, code int64, want impl.Decision, wantCode int64) {
	t.Helper()
	if code != wantCode || !sameDecision(got, want) {
		t.Errorf("%s: got %s, code %d; want %s, code %d", what, shownDecision(got), code, shownDecision(want), wantCode)
	}
}

func wantDecisions(t *testing.T, what string, got []impl.Decision, code int64, want []impl.Decision, wantCode int64) {
	t.Helper()
	if code != wantCode || !slices.EqualFunc(got, want, sameDecision) {
		t.Errorf("%s: got %s, code %d; want %s, code %d", what, shownDecisions(got), code, shownDecisions(want), wantCode)
	}
}

// decidedByHand has the codes of the places of the chain.
func decidedByHand(list []impl.Clause, e impl.Event) impl.Decision {
	d := impl.Decision{Result: resultByHand(list, e)}
	for _, place := range chainByHand(list, 0, e) {
		d.Chain = append(d.Chain, list[place].Code)
	}
	return d
}

// isRightByHand is the reader of chapter 12, who only follows the chain.
func isRightByHand(list []impl.Clause, e impl.Event, d impl.Decision) bool {
	codes := map[string]int{}
	for i, c := range list {
		codes[c.Code] = i
	}
	from := 0
	for i, code := range d.Chain {
		place, known := codes[code]
		if !known || place < from || !matchesByHand(list[place], e) {
			return false
		}
		for _, earlier := range list[from:place] {
			if matchesByHand(earlier, e) {
				return false
			}
		}
		c := list[place]
		if isLast := i == len(d.Chain)-1; isLast {
			return c.Result != impl.ResultGo && c.Result == d.Result
		}
		if c.Result != impl.ResultGo {
			return false
		}
		from = codes[c.To]
	}
	return false
}

// checkLog compares what all functions tell about a log with what is found by hand.
func checkLog(t *testing.T, list []impl.Clause, log []impl.Event) {
	t.Helper()
	what := " of " + shownEvents(log) + " by " + shownClauses(list)
	want, totals, uses := []impl.Decision{}, repeated(0, 3), repeated(0, len(list))
	with := [3][]int64{}
	longest, longestCode, length := int64(0), int64(impl.ErrNotFound), 0
	for i, e := range log {
		d := decidedByHand(list, e)
		want = append(want, d)
		with[d.Result] = append(with[d.Result], int64(i))
		totals[d.Result] += e.Amount
		for place, c := range list {
			if slices.Contains(d.Chain, c.Code) {
				uses[place]++
			}
		}
		if len(d.Chain) > length {
			longest, longestCode, length = int64(i), impl.ErrNone, len(d.Chain)
		}
		got, code := impl.DecideEvent(list, e)
		wantDecision(t, "DecideEvent "+shownEvent(e)+" by "+shownClauses(list), got, code, d, impl.ErrNone)
	}
	all, code := impl.DecideLog(list, log)
	wantDecisions(t, "DecideLog"+what, all, code, want, impl.ErrNone)
	for result, indices := range with {
		got, code := impl.EventsWith(list, log, int64(result))
		wantInts(t, fmt.Sprintf("EventsWith %d%s", result, what), got, code, indices, impl.ErrNone)
	}
	sums, code := impl.TotalsByResult(list, log)
	wantInts(t, "TotalsByResult"+what, sums, code, totals, impl.ErrNone)
	counts, code := impl.CountUses(list, log)
	wantInts(t, "CountUses"+what, counts, code, uses, impl.ErrNone)
	index, code := impl.LongestChain(list, log)
	wantInt(t, "LongestChain"+what, index, code, longest, longestCode)
}

func TestDecideEvent(t *testing.T) {
	rules := "aa/-1/+++/0/. bb/6/***/1/. cc/-1/***/2/."
	for _, c := range []struct {
		texts string
		e     impl.Event
		want  string
	}{
		// A chain of one clause: the first one, one in between, and the last one, which nothing but it matches.
		{rules, event(20000, 0, "corn", 5, "pvr"), "aa=0"},
		{rules, event(20000, 6, "corn", 5, "pvr"), "aa=0"},
		{rules, event(20001, 6, "corn", 7, "-"), "bb=1"},
		{rules, event(20001, 5, "corn", 7, "-"), "cc=2"},
		{rules, event(20001, 5, "corn", 7, "pv"), "cc=2"},
		{"a/-1/***/0/.", eventOn(0), "a=0"},
		{"zzzzzz/-1/***/2/.", eventOn(greatestDay), "zzzzzz=2"},
		// Several clauses match: the first one is taken.
		{"a/-1/***/0/. b/-1/***/1/. c/-1/***/2/.", eventOn(5), "a=0"},
		{"b/1/***/1/. a/1/+**/0/. c/-1/***/2/.", eventOn(5), "b=1"},
		{"z/0/***/0/. b/1/+**/1/. a/1/+**/0/. c/-1/***/2/.", eventOn(5), "b=1"},
		// The next clause, one behind others that match too, and the last one.
		{"a/-1/***/3/b b/-1/***/1/.", eventOn(5), "a->b=1"},
		{"a/-1/***/3/c b/-1/***/0/. c/-1/***/1/. d/-1/***/2/.", eventOn(5), "a->c=1"},
		{"a/-1/***/3/d b/-1/***/0/. c/-1/***/1/. d/-1/***/2/.", eventOn(5), "a->d=2"},
		{"a/-1/***/3/b b/-1/***/3/d c/-1/***/1/. d/-1/***/2/.", eventOn(5), "a->b->d=2"},
		// To leads to a clause that does not match: the next one from there on that does is taken.
		{"a/-1/***/3/c b/-1/***/0/. c/0/***/0/. d/2/***/0/. e/1/***/1/. f/-1/***/2/.", eventOn(5), "a->e=1"},
		{"a/-1/***/3/c b/-1/***/0/. c/0/***/0/. d/-1/-**/0/. e/1/*+*/1/. f/-1/***/2/.", eventOn(5), "a->f=2"},
		{"a/-1/***/3/b b/0/***/0/. c/1/***/3/d d/0/***/1/. e/-1/***/2/.", eventOn(5), "a->c->e=2"},
		// What leads on is not looked at if it does not match.
		{"a/0/***/3/d b/-1/-**/3/d c/1/***/1/. d/-1/***/2/.", eventOn(5), "c=1"},
		// Codes are in no order, and begin alike.
		{"aaa/-1/***/3/a aa/-1/***/3/aaaa a/-1/***/3/aaaa aaaa/-1/***/0/.", eventOn(5), "aaa->a->aaaa=0"},
		{"z/1/***/3/a y/1/***/0/. a/-1/***/1/.", eventOn(5), "z->a=1"},
	} {
		got, code := impl.DecideEvent(clauses(c.texts), c.e)
		wantDecision(t, "DecideEvent "+shownEvent(c.e)+" by "+c.texts, got, code, decision(c.want), impl.ErrNone)
		all, code := impl.DecideLog(clauses(c.texts), []impl.Event{c.e, c.e})
		wantDecisions(t, "DecideLog "+shownEvent(c.e)+" twice by "+c.texts, all, code, decisions(c.want+" "+c.want), impl.ErrNone)
	}
}

// TestDecideEventByTheSample has chains of up to four clauses in one rulebook.
func TestDecideEventByTheSample(t *testing.T) {
	for want, list := range map[string][]impl.Event{
		"fire->mer->rea=0":  {event(1, 1, "a", 1, "pr"), event(1, 1, "a", 1, "pvr")},
		"fire->mer->last=2": {event(1, 1, "a", 1, "p"), event(1, 1, "a", 1, "pv")},
		"fire->m=2":         {event(1, 1, "a", 1, "-"), event(1, 1, "a", 1, "v")},
		"fire->rea=0":       {event(1, 1, "a", 1, "r"), event(1, 1, "a", 1, "vr")},
		"jet=0":             {event(1, 0, "a", 1, "pv"), event(1, 0, "a", 1, "pvr")},
		"mer->rea=0":        {event(1, 0, "a", 1, "pr"), event(1, 3, "a", 1, "pr"), event(1, 6, "a", 1, "pvr")},
		"ref->last=2":       {event(1, 2, "a", 1, "-"), event(1, 2, "a", 1, "pvr")},
		"mer->last=2":       {event(1, 0, "a", 1, "p"), event(1, 4, "a", 1, "pv")},
		"rea=0":             {event(1, 0, "a", 1, "vr"), event(1, 5, "a", 1, "r"), event(1, 5, "a", 1, "vr")},
		"last=2":            {event(1, 0, "a", 1, "v"), event(1, 3, "a", 1, "-"), event(1, 6, "a", 1, "v")},
	} {
		for _, e := range list {
			got, code := impl.DecideEvent(sampleRulebook(), e)
			wantDecision(t, "DecideEvent "+shownEvent(e), got, code, decision(want), impl.ErrNone)
		}
	}
}

// TestDecideThroughAllClauses has chains over all clauses of rulebooks up to the longest one.
func TestDecideThroughAllClauses(t *testing.T) {
	for count := 1; count <= impl.MaxClauses; count++ {
		for result := range int64(impl.ResultGo) {
			list := throughAll(count, result)
			for _, e := range allShapes() {
				got, code := impl.DecideEvent(list, e)
				wantDecision(t, fmt.Sprintf("DecideEvent %s by %d clauses", shownEvent(e), count), got, code, impl.Decision{Result: result, Chain: chainOf(count)}, impl.ErrNone)
			}
			uses, code := impl.CountUses(list, longLog(impl.MaxEvents))
			wantInts(t, fmt.Sprintf("CountUses of %d clauses", count), uses, code, repeated(impl.MaxEvents, count), impl.ErrNone)
		}
	}
}

// TestDecideByOneShape has a clause that matches one shape alone, which decides it, or leads it past others.
func TestDecideByOneShape(t *testing.T) {
	for _, e := range shapeEvents() {
		deciding := append(clauses("none/-1/***/3/only"), onlyFor("only", e, impl.ResultParticular), clause(forAll))
		leading := onlyFor("only", e, impl.ResultGo)
		leading.To = "to"
		passing := append([]impl.Clause{leading}, clauses("by/-1/***/0/. to/-1/***/1/. last/-1/***/2/.")...)
		for _, other := range allShapes() {
			isOnly := other.Kind == e.Kind && other.Peril == e.Peril && other.Voluntary == e.Voluntary && other.Reasonable == e.Reasonable
			wants := []string{"none->last=2", "by=0"}
			if isOnly {
				wants = []string{"none->only=1", "only->to=1"}
			}
			for i, list := range [][]impl.Clause{deciding, passing} {
				got, code := impl.DecideEvent(list, other)
				wantDecision(t, "DecideEvent "+shownEvent(other)+" by "+shownClauses(list), got, code, decision(wants[i]), impl.ErrNone)
			}
		}
	}
}

// TestDecideOtherFields has events that differ only in what decisions do not depend on.
func TestDecideOtherFields(t *testing.T) {
	for _, e := range allShapes() {
		want := decidedByHand(sampleRulebook(), e)
		for _, day := range []int64{0, 1, 20000, greatestDay} {
			for _, interest := range []string{"a", "fire", "last", "zzzzzz"} {
				for _, amount := range []int64{0, 1, impl.MaxAmount} {
					e.Day, e.Interest, e.Amount = day, interest, amount
					got, code := impl.DecideEvent(sampleRulebook(), e)
					wantDecision(t, "DecideEvent "+shownEvent(e), got, code, want, impl.ErrNone)
				}
			}
		}
	}
}

// shapesAsLog has an event of each shape; their days do not fall, but there are too many of them for one log.
func shapesAsLog() []impl.Event {
	events := allShapes()
	slices.SortStableFunc(events, func(a, b impl.Event) int { return int(a.Day - b.Day) })
	return events
}

func TestDecisionsByHand(t *testing.T) {
	for _, list := range rulebooks() {
		for part := range slices.Chunk(shapesAsLog(), impl.MaxEvents) {
			checkLog(t, list, part)
		}
		for _, log := range logs() {
			checkLog(t, list, log)
		}
	}
	random := fixedRandom()
	for range 3000 {
		checkLog(t, anyRulebook(random, 1+random.IntN(impl.MaxClauses)), anyLog(random, random.IntN(impl.MaxEvents+1)))
	}
}

// threeResults decides a jettison as general, a fire as particular, by way of another clause, and all else as
// rejected.
func threeResults() []impl.Clause {
	return clauses("jet/0/***/0/. fire/1/***/3/part never/1/***/0/. part/1/***/1/. last/-1/***/2/.")
}

// logOf has one event of each of the kinds, with amounts that can be told apart in each sum.
func logOf(kinds ...int64) []impl.Event {
	log := []impl.Event{}
	for i, kind := range kinds {
		log = append(log, event(int64(i), kind, "corn", 1<<i, "-"))
	}
	return log
}

func TestEventsWith(t *testing.T) {
	for _, c := range []struct {
		kinds []int64
		want  [3][]int64
	}{
		{nil, [3][]int64{}},
		{[]int64{0}, [3][]int64{{0}}},
		{[]int64{1}, [3][]int64{nil, {0}}},
		{[]int64{6}, [3][]int64{nil, nil, {0}}},
		{[]int64{0, 0, 0}, [3][]int64{{0, 1, 2}}},
		{[]int64{0, 1, 2}, [3][]int64{{0}, {1}, {2}}},
		{[]int64{2, 1, 0, 0, 1, 2}, [3][]int64{{2, 3}, {1, 4}, {0, 5}}},
		{[]int64{5, 0, 4, 0, 3, 0, 6, 0, 2, 0, 5, 0, 4, 0, 3}, [3][]int64{{1, 3, 5, 7, 9, 11, 13}, nil, {0, 2, 4, 6, 8, 10, 12, 14}}},
		{slices.Repeat([]int64{1}, 15), [3][]int64{nil, {0, 1, 2, 3, 4, 5, 6, 7, 8, 9, 10, 11, 12, 13, 14}}},
	} {
		totals := repeated(0, 3)
		for result, want := range c.want {
			got, code := impl.EventsWith(threeResults(), logOf(c.kinds...), int64(result))
			wantInts(t, fmt.Sprintf("EventsWith %d of kinds %v", result, c.kinds), got, code, want, impl.ErrNone)
			for _, i := range want {
				totals[result] += 1 << i
			}
		}
		got, code := impl.TotalsByResult(threeResults(), logOf(c.kinds...))
		wantInts(t, fmt.Sprintf("TotalsByResult of kinds %v", c.kinds), got, code, totals, impl.ErrNone)
	}
}

// TestEventsWithNoResult has results that no decision may have, also for logs without events.
func TestEventsWithNoResult(t *testing.T) {
	for _, result := range notFinal {
		for _, log := range logs() {
			for _, list := range [][]impl.Clause{threeResults(), sampleRulebook(), throughAll(impl.MaxClauses, 0)} {
				got, code := impl.EventsWith(list, log, result)
				wantInts(t, fmt.Sprintf("EventsWith %d of %s", result, shownEvents(log)), got, code, nil, impl.ErrRange)
			}
		}
	}
	for result := int64(-300); result < 600; result++ {
		want := int64(impl.ErrRange)
		if result >= 0 && result <= 2 {
			want = impl.ErrNone
		}
		got, code := impl.EventsWith(clauses("a/-1/***/0/."), nil, result)
		wantInts(t, fmt.Sprintf("EventsWith %d", result), got, code, nil, want)
	}
}

// TestTotalsByResult has sums at the greatest amount and beyond it, which are no errors.
func TestTotalsByResult(t *testing.T) {
	withAmounts := func(kind int64, amounts ...int64) []impl.Event {
		log := []impl.Event{}
		for _, amount := range amounts {
			log = append(log, event(5, kind, "corn", amount, "pvr"))
		}
		return log
	}
	const most = int64(impl.MaxAmount)
	for _, c := range []struct {
		log  []impl.Event
		want []int64
	}{
		{nil, repeated(0, 3)},
		{withAmounts(0, 0), repeated(0, 3)},
		{withAmounts(0, 1), []int64{1, 0, 0}},
		{withAmounts(0, most), []int64{most, 0, 0}},
		{withAmounts(0, most-1, 1), []int64{most, 0, 0}},
		{withAmounts(1, most, 1), []int64{0, most + 1, 0}},
		{withAmounts(1, most, 0, most), []int64{0, 2 * most, 0}},
		{withAmounts(6, slices.Repeat([]int64{most}, impl.MaxEvents)...), []int64{0, 0, 15 * most}},
		{slices.Concat(withAmounts(0, most, most, 7), withAmounts(1, most, most, most, 8), withAmounts(6, most, most, most, most, 9)), []int64{2*most + 7, 3*most + 8, 4*most + 9}},
		{slices.Concat(withAmounts(6, 1), withAmounts(1, 20), withAmounts(0, 300), withAmounts(4, 4000), withAmounts(1, 50000), withAmounts(0, 600000)), []int64{600300, 50020, 4001}},
	} {
		got, code := impl.TotalsByResult(threeResults(), c.log)
		wantInts(t, "TotalsByResult of "+shownEvents(c.log), got, code, c.want, impl.ErrNone)
	}
}

func TestCountUses(t *testing.T) {
	for _, c := range []struct {
		list []impl.Clause
		log  []impl.Event
		want []int64
	}{
		{threeResults(), nil, repeated(0, 5)},
		{threeResults(), logOf(0), []int64{1, 0, 0, 0, 0}},
		{threeResults(), logOf(1), []int64{0, 1, 0, 1, 0}},
		{threeResults(), logOf(2), []int64{0, 0, 0, 0, 1}},
		{threeResults(), logOf(1, 1, 0, 1, 6, 5), []int64{1, 3, 0, 3, 2}},
		{threeResults(), logOf(slices.Repeat([]int64{1}, impl.MaxEvents)...), []int64{0, 15, 0, 15, 0}},
		{clauses("a/-1/***/0/."), logOf(0, 1, 2), []int64{3}},
		{throughAll(impl.MaxClauses, 1), logOf(4), repeated(1, 12)},
		{throughAll(impl.MaxClauses, 1), logOf(0, 1, 2, 3, 4, 5, 6), repeated(7, 12)},
		// Several clauses lead to one, which is in each chain once.
		{clauses("a/0/***/3/d b/1/***/3/d c/2/***/3/d d/-1/***/0/."), logOf(0, 1, 2, 3, 0), []int64{2, 1, 1, 5}},
		{clauses("a/-1/***/3/c b/-1/***/0/. c/0/***/3/d d/-1/***/1/."), logOf(0, 1, 2), []int64{3, 0, 1, 3}},
	} {
		got, code := impl.CountUses(c.list, c.log)
		wantInts(t, "CountUses of "+shownEvents(c.log)+" by "+shownClauses(c.list), got, code, c.want, impl.ErrNone)
	}
}

func TestLongestChain(t *testing.T) {
	// The chains of the kinds 0 to 3 have one to four clauses.
	list := clauses("a/0/***/0/. b/1/***/3/last c/2/***/3/d d/2/***/3/last e/3/***/3/f f/3/***/3/g g/3/***/3/last last/-1/***/2/.")
	for _, c := range []struct {
		kinds []int64
		want  int64
	}{
		{[]int64{0}, 0}, {[]int64{3}, 0}, {[]int64{6}, 0},
		{[]int64{0, 0, 0}, 0}, {[]int64{3, 3, 3}, 0}, {[]int64{1, 0, 1}, 0},
		{[]int64{0, 1, 2, 3}, 3}, {[]int64{3, 2, 1, 0}, 0}, {[]int64{1, 3, 2, 0}, 1}, {[]int64{0, 2, 1}, 1},
		{[]int64{0, 1, 1, 0}, 1}, {[]int64{0, 2, 1, 2, 0}, 1}, {[]int64{2, 3, 2, 3}, 1}, {[]int64{0, 6, 5, 1}, 3},
		{append(slices.Repeat([]int64{2}, impl.MaxEvents-1), 3), 14},
		{append(slices.Repeat([]int64{2}, impl.MaxEvents-2), 3, 3), 13},
		{slices.Repeat([]int64{2}, impl.MaxEvents), 0},
	} {
		got, code := impl.LongestChain(list, logOf(c.kinds...))
		wantInt(t, fmt.Sprintf("LongestChain of kinds %v", c.kinds), got, code, c.want, impl.ErrNone)
	}
	for _, list := range rulebooks() {
		for _, log := range [][]impl.Event{nil, {}, make([]impl.Event, 0, 5)} {
			got, code := impl.LongestChain(list, log)
			wantInt(t, "LongestChain of no events", got, code, 0, impl.ErrNotFound)
			all, code := impl.DecideLog(list, log)
			wantDecisions(t, "DecideLog of no events", all, code, nil, impl.ErrNone)
		}
	}
}

// checkInvalid has all functions for logs return ErrInvalid and nothing else, also for results that are none.
func checkInvalid(t *testing.T, list []impl.Clause, log []impl.Event) {
	t.Helper()
	what := " of " + shownEvents(log) + " by " + shownClauses(list)
	all, code := impl.DecideLog(list, log)
	wantDecisions(t, "DecideLog"+what, all, code, nil, impl.ErrInvalid)
	for _, result := range []int64{0, 1, 2, 3, -1, math.MinInt64, math.MaxInt64} {
		got, code := impl.EventsWith(list, log, result)
		wantInts(t, fmt.Sprintf("EventsWith %d%s", result, what), got, code, nil, impl.ErrInvalid)
	}
	totals, code := impl.TotalsByResult(list, log)
	wantInts(t, "TotalsByResult"+what, totals, code, nil, impl.ErrInvalid)
	uses, code := impl.CountUses(list, log)
	wantInts(t, "CountUses"+what, uses, code, nil, impl.ErrInvalid)
	longest, code := impl.LongestChain(list, log)
	wantInt(t, "LongestChain"+what, longest, code, 0, impl.ErrInvalid)
}

// TestDecisionsByNoRulebook has lists that are no rulebook, also where there is nothing to decide.
func TestDecisionsByNoRulebook(t *testing.T) {
	for _, list := range notRulebooks() {
		for _, e := range []impl.Event{eventOn(5), event(5, 0, "a", 0, "pvr"), {}, eventOn(-1)} {
			got, code := impl.DecideEvent(list, e)
			wantDecision(t, "DecideEvent "+shownEvent(e)+" by "+shownClauses(list), got, code, impl.Decision{}, impl.ErrInvalid)
		}
		for _, log := range [][]impl.Event{nil, {}, sampleLog(), longLog(impl.MaxEvents), longLog(impl.MaxEvents + 1), {{}}} {
			checkInvalid(t, list, log)
		}
	}
}

func TestDecisionsOfNoEvents(t *testing.T) {
	lists := [][]impl.Clause{sampleRulebook(), clauses(forAll), throughAll(impl.MaxClauses, 0)}
	for _, e := range notEvents() {
		for _, list := range lists {
			got, code := impl.DecideEvent(list, e)
			wantDecision(t, "DecideEvent "+shownEvent(e), got, code, impl.Decision{}, impl.ErrInvalid)
		}
	}
	for _, log := range notLogs() {
		for _, list := range lists {
			checkInvalid(t, list, log)
		}
	}
}

// otherDecisions are those that differ from d in one place, with the codes of a rulebook.
func otherDecisions(list []impl.Clause, d impl.Decision) []impl.Decision {
	others := []impl.Decision{}
	for result := int64(-1); result <= impl.ResultGo; result++ {
		if result != d.Result {
			others = append(others, impl.Decision{Result: result, Chain: d.Chain})
		}
	}
	add := func(chain ...string) { others = append(others, impl.Decision{Result: d.Result, Chain: chain}) }
	for i := range len(d.Chain) + 1 {
		for _, c := range list {
			add(slices.Insert(slices.Clone(d.Chain), i, c.Code)...)
			if i < len(d.Chain) && c.Code != d.Chain[i] {
				changed := slices.Clone(d.Chain)
				changed[i] = c.Code
				add(changed...)
			}
		}
		if i < len(d.Chain) {
			add(slices.Delete(slices.Clone(d.Chain), i, i+1)...)
		}
	}
	return others
}

// checkTold has a reader accept the decisions about a log, but none that differs from them in one place.
func checkTold(t *testing.T, list []impl.Clause, log []impl.Event) {
	t.Helper()
	all, code := impl.DecideLog(list, log)
	if code != impl.ErrNone || len(all) != len(log) {
		t.Fatalf("DecideLog of %s by %s: %d decisions, code %d", shownEvents(log), shownClauses(list), len(all), code)
	}
	for i, d := range all {
		what := shownDecision(d) + " about " + shownEvent(log[i]) + " by " + shownClauses(list)
		if !isRightByHand(list, log[i], d) {
			t.Errorf("%s is not right", what)
		}
		for _, other := range otherDecisions(list, d) {
			if isRightByHand(list, log[i], other) {
				t.Errorf("%s is right, beside %s", shownDecision(other), what)
			}
		}
		last := -1
		for _, taken := range d.Chain {
			place := slices.IndexFunc(list, func(c impl.Clause) bool { return c.Code == taken })
			if place <= last {
				t.Errorf("%s: the places do not increase", what)
			}
			last = place
		}
	}
}

// TestToldDecisionsAreRight is promise 12 as far as chapter 11 tells decisions, with the guarantee of the
// chapter: the reader is that of the test.
func TestToldDecisionsAreRight(t *testing.T) {
	check := func(list []impl.Clause, log []impl.Event) {
		t.Helper()
		checkTold(t, list, log)
		sum, all := int64(0), int64(0)
		totals, _ := impl.TotalsByResult(list, log)
		for _, total := range totals {
			sum += total
		}
		for _, e := range log {
			all += e.Amount
		}
		if len(totals) != 3 || sum != all {
			t.Errorf("TotalsByResult of %s by %s: %v are not %d in all", shownEvents(log), shownClauses(list), totals, all)
		}
		// Each event is decided with one result.
		indices := []int64{}
		for result := range int64(impl.ResultGo) {
			with, _ := impl.EventsWith(list, log, result)
			indices = append(indices, with...)
		}
		slices.Sort(indices)
		for i := range max(len(log), len(indices)) {
			if len(indices) != len(log) || indices[i] != int64(i) {
				t.Fatalf("EventsWith of %s by %s: %v in all", shownEvents(log), shownClauses(list), indices)
			}
		}
	}
	for _, list := range rulebooks() {
		for _, log := range logs() {
			check(list, log)
		}
	}
	random := fixedRandom()
	for range 3000 {
		check(anyRulebook(random, 1+random.IntN(impl.MaxClauses)), anyLog(random, random.IntN(impl.MaxEvents+1)))
	}
}

func TestChainText(t *testing.T) {
	for _, c := range []struct {
		d    impl.Decision
		want string
	}{
		{impl.Decision{Result: 1, Chain: []string{"aa", "bb"}}, "aa->bb=1"},
		{impl.Decision{Chain: []string{"a"}}, "a=0"},
		{impl.Decision{Result: impl.ResultGeneral, Chain: []string{"zzzzzz"}}, "zzzzzz=0"},
		{impl.Decision{Result: impl.ResultParticular, Chain: []string{"a", "zzzzzz", "b"}}, "a->zzzzzz->b=1"},
		{impl.Decision{Result: impl.ResultRejected, Chain: []string{"c", "b", "a"}}, "c->b->a=2"},
		// No rulebook has such a chain, but a text needs none.
		{impl.Decision{Result: 2, Chain: []string{"a", "a", "a"}}, "a->a->a=2"},
		{impl.Decision{Result: 2, Chain: slices.Repeat([]string{"a"}, impl.MaxClauses)}, "a->a->a->a->a->a->a->a->a->a->a->a=2"},
		{impl.Decision{Result: 0, Chain: slices.Repeat([]string{"zzzzzz"}, impl.MaxClauses)}, strings.Repeat("zzzzzz->", impl.MaxClauses-1) + "zzzzzz=0"},
		{impl.Decision{Result: 1, Chain: slices.Repeat([]string{"mm"}, impl.MaxClauses-1)}, strings.Repeat("mm->", impl.MaxClauses-2) + "mm=1"},
	} {
		got, code := impl.ChainText(c.d)
		wantText(t, "ChainText "+shownDecision(c.d), got, code, c.want, impl.ErrNone)
		read, code := impl.ReadChain(c.want)
		wantDecision(t, "ReadChain "+c.want, read, code, c.d, impl.ErrNone)
	}
	for _, d := range notDecisions() {
		got, code := impl.ChainText(d)
		wantText(t, "ChainText "+shownDecision(d), got, code, "", impl.ErrInvalid)
	}
}

// anyDecision often has codes that occur twice, which matters to no text.
func anyDecision(random *rand.Rand) impl.Decision {
	d := impl.Decision{Result: random.Int64N(3)}
	for range 1 + random.IntN(impl.MaxClauses) {
		d.Chain = append(d.Chain, anyPartyCode(random))
	}
	return d
}

// TestChainsAreRecovered is promise 1 for chains.
func TestChainsAreRecovered(t *testing.T) {
	texts := map[string]impl.Decision{}
	check := func(d impl.Decision) {
		t.Helper()
		text, code := impl.ChainText(d)
		wantText(t, "ChainText "+shownDecision(d), text, code, fmt.Sprintf("%s=%d", strings.Join(d.Chain, "->"), d.Result), impl.ErrNone)
		got, code := impl.ReadChain(text)
		wantDecision(t, "ReadChain "+text, got, code, d, impl.ErrNone)
		if other, known := texts[text]; known && !sameDecision(other, d) {
			t.Errorf("%q is the text of %s and of %s", text, shownDecision(d), shownDecision(other))
		}
		texts[text] = d
	}
	for result := range int64(impl.ResultGo) {
		for count := 1; count <= impl.MaxClauses; count++ {
			check(impl.Decision{Result: result, Chain: chainOf(count)})
			check(impl.Decision{Result: result, Chain: slices.Repeat([]string{"zzzzzz"}, count)})
		}
	}
	random := fixedRandom()
	for range 20000 {
		check(anyDecision(random))
	}
	for _, list := range rulebooks() {
		for _, e := range allShapes() {
			d, _ := impl.DecideEvent(list, e)
			check(d)
		}
	}
}

func TestReadChainErrors(t *testing.T) {
	texts := []string{
		// There is no equals sign, or no chain, or no result, or two of them.
		"", "=", "->", "->=", "0", "1", "=0", "=1", "a", "aa", "aa->bb", "aa0", "aa->bb1", "aa=", "aa->bb=", "aa->bb->=1", "->=1", "->aa=1", "aa->=1",
		"aa==1", "aa=1=", "=aa=1", "aa=1=1", "aa=0=1", "aa=bb=1", "aa=1->bb=1", "aa=->bb=1", "aa->=bb=1", "aa->bb=1=1", "aa->bb==1", "=aa->bb=1", "aa->bb=1=", "aa=bb", "1=aa", "aa:1", "aa-1", "aa->1", "aa->bb->1", "aa->bb 1", "aa->bb=>1",
		// An arrow is at the beginning, at the end, twice, or none.
		"->aa->bb=1", "aa->bb->=1", "aa->->bb=1", "aa->->->bb=1", "->->aa=1", "aa->->=1", "aa-bb=1", "aa>bb=1", "aa>-bb=1", "aa-->bb=1", "aa->>bb=1", "aa=>bb=1", "aa<-bb=1", "aa-> ->bb=1", "aa,bb=1", "aa bb=1", "aa.bb=1", "aa/bb=1", "aa->bb=1->", "aa->bb->1=", "aa->bb=->1", "aa\u2192bb=1", "aa\u2212>bb=1", "aa-\uff1ebb=1", "aa\xffbb=1", "aa\x00bb=1", "aa-\x00>bb=1", "aa\u2013>bb=1",
		// A code is none.
		"A=0", "aA=0", "Aa->bb=1", "aa->Bb=1", "aa->bB=1", "a1=0", "1a=0", "aaaaaaa=0", "aa->bbbbbbb=0", "aaaaaaa->bb=0", "aa->b1->cc=0", ".=0", "-=0", ">=0", "*=0", "a-a=0", "a>a=0", "a\xff=0", "\xff=0", "caf\u00e9=0", "\u0430=0", "aa->caf\u00e9=0", "a_b=0", "a'=0", "0=0", "00=0",
		strings.Repeat("a", 100000) + "=0", "aa->" + strings.Repeat("a", 100000) + "=0", strings.Repeat("a", 100000),
		// There are too many codes.
		strings.Repeat("a->", impl.MaxClauses) + "a=0", strings.Repeat("zzzzzz->", impl.MaxClauses) + "zzzzzz=2", strings.Repeat("a->", impl.MaxClauses+1) + "a=0", strings.Repeat("a->", 255) + "a=0", strings.Repeat("a->", 256) + "a=0", strings.Repeat("a->", 256+impl.MaxClauses-1) + "a=0", strings.Repeat("a->", 100000) + "a=0", strings.Repeat("a->", impl.MaxClauses) + "=0", strings.Repeat("->a", impl.MaxClauses) + "=0",
		// A result has superfluous zeros or signs, is none, or is no number.
		"aa=00", "aa=01", "aa=02", "aa=001", "aa=+0", "aa=+1", "aa=+2", "aa=-0", "aa=-1", "aa=-2", "aa=--1", "aa=3", "aa=4", "aa=9", "aa=10", "aa=12", "aa=22", "aa=-3", "aa=+", "aa=-", "aa=.", "aa=*",
		"aa=0.0", "aa=1.0", "aa=1.", "aa=.1", "aa=1e0", "aa=0x1", "aa=0b1", "aa=0o1", "aa=0_1", "aa=1_", "aa=a", "aa=aa", "aa=I", "aa=general", "aa=true", "aa=1a", "aa=1%", "aa=256", "aa=257", "aa=65537", "aa=4294967296", "aa=4294967297", "aa=9223372036854775807", "aa=9223372036854775808", "aa=-9223372036854775808", "aa=-9223372036854775809", "aa=18446744073709551616", "aa=18446744073709551617",
		"aa=\u0661", "aa=\uff11", "aa=\u00b9", "aa=\u22121", "aa=\xff", "aa=\x01", "aa=\x00", "aa=1\x00", "aa=" + strings.Repeat("0", 100000), "aa=" + strings.Repeat("0", 100000) + "1", "aa=" + strings.Repeat("1", 100000), "aa=-" + strings.Repeat("0", 100000) + "1",
		// Parts are in another order.
		"1=aa->bb", "aa=1->bb", "=1aa->bb", "1->aa=bb", "aa->1=bb", "1aa->bb=",
		// There are blanks or other bytes before, behind or inside.
		" aa->bb=1", "aa->bb=1 ", "aa ->bb=1", "aa-> bb=1", "aa -> bb=1", "aa- >bb=1", "aa->bb =1", "aa->bb= 1", "aa->bb = 1", "a a->bb=1", "aa->b b=1", "aa->bb=1 1", " ", "  =1", "aa= ", " =1", "-> =1",
		"\naa->bb=1", "aa->bb=1\n", "aa\n->bb=1", "aa->\nbb=1", "aa->bb\n=1", "aa->bb=\n1", "\taa->bb=1", "aa->bb=1\t", "aa->bb=1\r", "aa->bb=1\x00", "\x00aa->bb=1", "\ufeffaa->bb=1", "aa->bb=1\u00a0", "aa->bb\uff1d1", "aa->bb=1;", "aa->bb=1,cc=2", "\"aa->bb=1\"", "(aa->bb=1)",
		strings.Repeat("aa->bb=1", 10000), strings.Repeat("=", 100000), strings.Repeat("->", 100000), strings.Repeat("->", 100000) + "=1", strings.Repeat("\xff", 100000), strings.Repeat("aa=1->", 10000) + "aa=1",
	}
	for _, s := range texts {
		got, code := impl.ReadChain(s)
		wantDecision(t, fmt.Sprintf("ReadChain %.60q", s), got, code, impl.Decision{}, impl.ErrSyntax)
	}
}

func checkReadChain(t *testing.T, s string) {
	t.Helper()
	want, wantCode := readChainByHand(s)
	got, code := impl.ReadChain(s)
	wantDecision(t, fmt.Sprintf("ReadChain %q", s), got, code, want, wantCode)
	if code == impl.ErrNone {
		text, code := impl.ChainText(got)
		wantText(t, fmt.Sprintf("ChainText of what %q tells", s), text, code, s, impl.ErrNone)
	}
}

// TestReadChainOfChangedTexts reads all texts that differ from that of a chain in one place.
func TestReadChainOfChangedTexts(t *testing.T) {
	for _, s := range []string{"a=0", "aa->bb=1", "zzzzzz->a->zzzzzz=2", "aaaaaa->bbbbbb=0", strings.Repeat("a->", impl.MaxClauses-1) + "a=1"} {
		for changed := range changedTexts(s) {
			checkReadChain(t, changed)
		}
	}
}

// TestReadChainOfAllShortTexts has all texts of up to seven letters, and what stands behind a code.
func TestReadChainOfAllShortTexts(t *testing.T) {
	for _, s := range textsUpTo(7, "a", "-", ">", "=", "1") {
		checkReadChain(t, s)
	}
	for _, end := range textsUpTo(5, "b", "->", "=", "0", "2", "3", "+", " ") {
		checkReadChain(t, "aa"+end)
	}
}

// TestReadChainOfAllResults has each number at the place of the result.
func TestReadChainOfAllResults(t *testing.T) {
	for n := int64(-300); n < 1000; n++ {
		for _, form := range []string{"aa=%d", "aa->bb=%d", "aa=%+d", "aa=%02d"} {
			checkReadChain(t, fmt.Sprintf(form, n))
		}
	}
}

func TestDecisionsKeepTheirArguments(t *testing.T) {
	list, kept := inSpareRoom(sampleRulebook(), clause("own/-1/***/0/."), impl.Clause{})
	log, logKept := inSpareRoom(sampleLog(), eventOn(-1), eventOn(greatestDay), impl.Event{})
	chain, chainKept := inSpareRoom([]string{"aa", "bb"}, "own", "", "cc")
	for range 2 {
		for _, e := range log {
			d, _ := impl.DecideEvent(list, e)
			overwrite(d.Chain, "own")
		}
		all, _ := impl.DecideLog(list, log)
		for _, d := range all {
			overwrite(d.Chain, "own")
		}
		overwrite(all, impl.Decision{Result: -1})
		for result := range int64(impl.ResultGo) {
			with, _ := impl.EventsWith(list, log, result)
			overwrite(with, -1)
		}
		totals, _ := impl.TotalsByResult(list, log)
		overwrite(totals, -1)
		uses, _ := impl.CountUses(list, log)
		overwrite(uses, -1)
		impl.LongestChain(list, log)
		text, code := impl.ChainText(impl.Decision{Result: 2, Chain: chain})
		wantText(t, "ChainText", text, code, "aa->bb=2", impl.ErrNone)
		d, _ := impl.ReadChain("aa->bb=2")
		overwrite(d.Chain, "own")
		if !kept() || !logKept() || !chainKept() {
			t.Fatal("an argument, or the memory behind it, has changed")
		}
		// What is written into results shows in none that comes later.
		checkLog(t, list, log)
	}
	// The same list again, but for a clause that has been changed since: nothing is kept between calls.
	list[0] = clause("own/-1/***/0/.")
	checkLog(t, list, log)
	log[0] = event(1, 2, "wool", 77, "v")
	checkLog(t, list, log)
	d, code := impl.DecideEvent(list, log[0])
	wantDecision(t, "DecideEvent again", d, code, decision("own=0"), impl.ErrNone)
}

// TestDecisionsShareNoMemory writes over the chain of each decision of a result in turn, and over the memory
// behind it: no other one, and no other result, may show it.
func TestDecisionsShareNoMemory(t *testing.T) {
	list, log := sampleRulebook(), longLog(impl.MaxEvents)
	want := []impl.Decision{}
	for _, e := range log {
		want = append(want, decidedByHand(list, e))
	}
	for i := range want {
		first, _ := impl.DecideLog(list, log)
		second, _ := impl.DecideLog(list, log)
		overwrite(first[i].Chain, "own")
		for j, d := range first {
			if j != i {
				wantDecision(t, fmt.Sprintf("decision %d beside %d", j, i), d, 0, want[j], 0)
			}
		}
		overwrite(first, impl.Decision{Result: -1})
		wantDecisions(t, "another result", second, 0, want, 0)
	}
	first, _ := impl.ReadChain("aa->bb->cc=1")
	second, _ := impl.ReadChain("aa->bb->cc=1")
	overwrite(first.Chain, "own")
	wantDecision(t, "another result of ReadChain", second, 0, decision("aa->bb->cc=1"), 0)
}
