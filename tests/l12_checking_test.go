package tests

import (
	"fmt"
	"math"
	"slices"
	"strings"
	"testing"

	"loop.example/g01010/impl"
)

// The functions have the signatures that the chapter lists, and the constants are untyped.
var (
	_ func([]impl.Clause, impl.Event, impl.Decision) (bool, int64)      = impl.IsRight
	_ func([]impl.Clause, []impl.Event, []impl.Decision) (int64, int64) = impl.FirstWrong
	_ func(impl.Clause, impl.Event) (int64, int64)                      = impl.WhyNot
	_ func([]impl.Clause, impl.Event) ([]string, int64)                 = impl.SkippedClauses
	_ func([]impl.Clause, impl.Event, int64) (int64, int64)             = impl.TruthsToChange
	_ func([]impl.Clause, int64) (impl.Event, int64)                    = impl.WitnessFor
	_ func([]impl.Clause) ([]int64, int64)                              = impl.CountShapes
	_ func([]impl.Clause, []impl.Clause, []impl.Event) (int64, int64)   = impl.Agreement
)

const (
	_ int8    = impl.ReasonKind + impl.ReasonPeril + impl.ReasonVoluntary + impl.ReasonReasonable
	_ float64 = impl.ReasonKind + impl.ReasonPeril + impl.ReasonVoluntary + impl.ReasonReasonable
)

// chained is a decision with any result and any codes, also such as has no text.
func chained(result int64, codes ...string) impl.Decision {
	return impl.Decision{Result: result, Chain: codes}
}

func checkRight(t *testing.T, list []impl.Clause, e impl.Event, d impl.Decision, want bool) {
	t.Helper()
	if got, code := impl.IsRight(list, e, d); got != want || code != impl.ErrNone {
		t.Errorf("IsRight %s about %s by %s: got %t, code %d; want %t, code 0", shownDecision(d), shownEvent(e), shownClauses(list), got, code, want)
	}
}

// checkOnlyRight has one decision right for an event, but none of the others, and not with another result.
func checkOnlyRight(t *testing.T, list []impl.Clause, e impl.Event, right impl.Decision, others ...impl.Decision) {
	t.Helper()
	checkRight(t, list, e, right, true)
	for _, d := range others {
		checkRight(t, list, e, d, false)
	}
	for _, result := range slices.Concat([]int64{0, 1, 2}, notFinal) {
		if result != right.Result {
			checkRight(t, list, e, chained(result, right.Chain...), false)
		}
	}
}

// firstWrongByHand has a reader go through the decisions, once there are not too many.
func firstWrongByHand(list []impl.Clause, log []impl.Event, told []impl.Decision) (int64, int64) {
	if len(told) > len(log) {
		return 0, impl.ErrRange
	}
	for i, e := range log {
		if i >= len(told) || !isRightByHand(list, e, told[i]) {
			return int64(i), impl.ErrNone
		}
	}
	return 0, impl.ErrNotFound
}

func checkFirstWrong(t *testing.T, list []impl.Clause, log []impl.Event, told []impl.Decision) {
	t.Helper()
	want, wantCode := firstWrongByHand(list, log, told)
	got, code := impl.FirstWrong(list, log, told)
	wantInt(t, "FirstWrong of "+shownDecisions(told)+" about "+shownEvents(log)+" by "+shownClauses(list), got, code, want, wantCode)
}

// reasonByHand follows the words of the chapter.
func reasonByHand(c impl.Clause, e impl.Event) (int64, int64) {
	switch {
	case c.Kind != -1 && c.Kind != e.Kind:
		return impl.ReasonKind, impl.ErrNone
	case !isMetByHand(c.Peril, e.Peril):
		return impl.ReasonPeril, impl.ErrNone
	case !isMetByHand(c.Voluntary, e.Voluntary):
		return impl.ReasonVoluntary, impl.ErrNone
	case !isMetByHand(c.Reasonable, e.Reasonable):
		return impl.ReasonReasonable, impl.ErrNone
	}
	return 0, impl.ErrState
}

func skippedByHand(list []impl.Clause, e impl.Event) []string {
	codes := []string{}
	chain := chainByHand(list, 0, e)
	for _, c := range list[:chain[len(chain)-1]] {
		if !matchesByHand(c, e) {
			codes = append(codes, c.Code)
		}
	}
	return codes
}

// changesByHand turns the truths of an event over: none of them, then each one, two of them, and all three.
func changesByHand(list []impl.Clause, e impl.Event, result int64) (int64, int64) {
	for _, turned := range []struct {
		letters string
		count   int64
	}{{"", 0}, {"p", 1}, {"v", 1}, {"r", 1}, {"pv", 2}, {"pr", 2}, {"vr", 2}, {"pvr", 3}} {
		other := e
		other.Peril = e.Peril != strings.Contains(turned.letters, "p")
		other.Voluntary = e.Voluntary != strings.Contains(turned.letters, "v")
		other.Reasonable = e.Reasonable != strings.Contains(turned.letters, "r")
		if resultByHand(list, other) == result {
			return turned.count, impl.ErrNone
		}
	}
	return 0, impl.ErrNotFound
}

// checkShapes compares what is told about the shapes of a rulebook with what is found by hand.
func checkShapes(t *testing.T, list []impl.Clause) {
	t.Helper()
	counts, witnesses := repeated(0, 3), [3]impl.Event{}
	for _, e := range shapeEvents() {
		result := resultByHand(list, e)
		if counts[result] == 0 {
			witnesses[result] = e
		}
		counts[result]++
	}
	what := " by " + shownClauses(list)
	got, code := impl.CountShapes(list)
	wantInts(t, "CountShapes"+what, got, code, counts, impl.ErrNone)
	for result, want := range witnesses {
		wantCode := int64(impl.ErrNone)
		if counts[result] == 0 {
			wantCode = impl.ErrNotFound
		}
		e, code := impl.WitnessFor(list, int64(result))
		wantEvent(t, fmt.Sprintf("WitnessFor %d%s", result, what), e, code, want, wantCode)
	}
}

// checkEvent compares what is told about an event with what is found by hand.
func checkEvent(t *testing.T, list []impl.Clause, e impl.Event) {
	t.Helper()
	what := " of " + shownEvent(e) + " by " + shownClauses(list)
	skipped, code := impl.SkippedClauses(list, e)
	wantList(t, "SkippedClauses"+what, skipped, code, skippedByHand(list, e), impl.ErrNone)
	for result := range int64(impl.ResultGo) {
		want, wantCode := changesByHand(list, e, result)
		got, code := impl.TruthsToChange(list, e, result)
		wantInt(t, fmt.Sprintf("TruthsToChange for %d%s", result, what), got, code, want, wantCode)
	}
}

// checkAgreement compares two rulebooks in both orders.
func checkAgreement(t *testing.T, a, b []impl.Clause, log []impl.Event) {
	t.Helper()
	want := int64(0)
	for _, e := range log {
		if resultByHand(a, e) == resultByHand(b, e) {
			want++
		}
	}
	for _, pair := range [][2][]impl.Clause{{a, b}, {b, a}} {
		got, code := impl.Agreement(pair[0], pair[1], log)
		wantInt(t, "Agreement about "+shownEvents(log)+" of "+shownClauses(pair[0])+" and "+shownClauses(pair[1]), got, code, want, impl.ErrNone)
	}
}

func TestConstantsOfChecking(t *testing.T) {
	for i, reason := range []int64{impl.ReasonKind, impl.ReasonPeril, impl.ReasonVoluntary, impl.ReasonReasonable} {
		if reason != int64(i) {
			t.Errorf("reason %d is %d", i, reason)
		}
	}
}

func TestIsRight(t *testing.T) {
	rules := clauses("aa/-1/+++/0/. bb/6/***/1/. cc/-1/***/2/.")
	checkOnlyRight(t, rules, event(20000, 6, "corn", 5, "-"), decision("bb=1"), decisions("aa=0 aa=1 cc=1 cc=2 bb->cc=2 bb->cc=1 bb->bb=1 aa->bb=1 cc->bb=1")...)
	checkOnlyRight(t, rules, event(20000, 6, "corn", 5, "pvr"), decision("aa=0"), decisions("bb=1 bb=0 cc=2 aa->bb=1 aa->aa=0 cc->aa=0")...)
	checkOnlyRight(t, rules, event(20000, 5, "corn", 5, "pv"), decision("cc=2"), decisions("aa=0 bb=1 bb=2 aa=2 cc->cc=2 aa->cc=2 bb->cc=2 aa->bb->cc=2")...)
	checkOnlyRight(t, clauses("a/-1/***/0/."), eventOn(0), decision("a=0"), decisions("b=0 a->a=0 a->b=0 b->a=0 aa=0")...)
	checkOnlyRight(t, clauses("zzzzzz/-1/***/2/."), eventOn(greatestDay), decision("zzzzzz=2"), decisions("zzzzz=2 z=2 a=2")...)
	// Several clauses match, and have the same result, but only the first one is right.
	checkOnlyRight(t, clauses("a/-1/***/1/. b/-1/***/1/. c/-1/***/1/."), eventOn(5), decision("a=1"), decisions("b=1 c=1 a->b=1 a->c=1 b->a=1 a->b->c=1")...)
	checkOnlyRight(t, clauses("z/0/***/1/. b/1/+**/1/. a/1/+**/1/. c/-1/***/1/."), eventOn(5), decision("b=1"), decisions("a=1 c=1 z=1 b->a=1 z->b=1")...)
}

// TestIsRightOfLongerChains has chains that lead past clauses, also past some that match.
func TestIsRightOfLongerChains(t *testing.T) {
	// The event is a fire with a peril.
	e := eventOn(5)
	list := clauses("z/0/***/3/f a/-1/***/3/c b/-1/***/1/. c/0/***/1/. d/1/***/3/f e/1/***/1/. f/-1/-**/1/. g/1/+**/1/. h/-1/***/1/.")
	for _, texts := range []string{
		// There is one code too few, or there are two.
		"d->g=1 a->g=1 a->d=1 a=1 d=1 g=1",
		// There is one too many: of a clause that matches, of one that does not, or one that is there already.
		"z->a->d->g=1 a->a->d->g=1 a->b->d->g=1 a->c->d->g=1 a->d->d->g=1 a->d->e->g=1 a->d->f->g=1 a->d->g->g=1 a->d->g->h=1 b->a->d->g=1",
		// One is exchanged.
		"z->d->g=1 b->d->g=1 c->d->g=1 e->d->g=1 a->b->g=1 a->c->g=1 a->e->g=1 a->f->g=1 a->h->g=1 a->d->z=1 a->d->a=1 a->d->e=1 a->d->f=1 a->d->h=1",
		// The chain ends with a clause that decides alike, but does not match, or is not the first one that does.
		"b=1 c=1 e=1 f=1 h=1 a->b=1 a->c=1 a->e=1 a->f=1 a->h=1 a->d->c=1 a->d->b=1",
		// The order is another one.
		"g->d->a=1 d->a->g=1 a->g->d=1 g->a->d=1 d->g->a=1",
		// No clause has a code.
		"x=1 x->d->g=1 a->x->g=1 a->d->x=1 a->d->g->x=1 x->a->d->g=1 a->x->d->g=1 aa->d->g=1 a->d->gg=1",
	} {
		checkOnlyRight(t, list, e, decision("a->d->g=1"), decisions(texts)...)
	}
	// The clause that To names does not match: the next one from there on that does is taken.
	checkOnlyRight(t, clauses("a/-1/***/3/c b/-1/***/1/. c/0/***/1/. d/-1/-**/1/. e/1/*-*/1/. f/-1/***/1/."), e, decision("a->e=1"), decisions("a->c=1 a->d=1 a->f=1 a->b=1 b=1 e=1 a=1 a->c->e=1 a->d->e=1")...)
	// Several clauses lead on to the same one.
	checkOnlyRight(t, clauses("a/1/***/3/c b/1/***/3/c c/1/***/3/d d/-1/***/0/."), e, decision("a->c->d=0"), decisions("a->b->c->d=0 b->c->d=0 a->c->a->c->d=0 a->a->c->d=0 a->c->b->c->d=0 a->d=0 c->d=0")...)
	// Codes begin alike.
	checkOnlyRight(t, clauses("aaa/-1/***/3/a aa/-1/***/3/aaaa a/-1/***/3/aaaa aaaa/-1/***/0/."), e, decision("aaa->a->aaaa=0"), decisions("aaa->aa->aaaa=0 aaa->aaaa=0 aaa->a=0 aaa->a->aaa=0 aaa->a->aa=0 a->a->aaaa=0")...)
}

// TestIsRightOfChainsThatLeadOn has chains whose last clause has the Result ResultGo, also as that of the
// decision, and chains with more codes than there are clauses.
func TestIsRightOfChainsThatLeadOn(t *testing.T) {
	for count := 1; count <= impl.MaxClauses; count++ {
		list := throughAll(count, impl.ResultParticular)
		others := []impl.Decision{chained(1, chainOf(count+1)...), chained(1, chainOf(count)[1:]...), chained(1, slices.Repeat(chainOf(count), 2)...)}
		for fewer := range count {
			for result := int64(-1); result <= impl.ResultGo+1; result++ {
				others = append(others, chained(result, chainOf(fewer)...))
			}
		}
		for _, e := range allShapes() {
			checkOnlyRight(t, list, e, chained(1, chainOf(count)...), others...)
		}
	}
}

// brokenDecisions are right for no event, because their chains are none of the rulebook.
func brokenDecisions(list []impl.Clause) []impl.Decision {
	codes := []string{}
	for _, c := range list {
		codes = append(codes, c.Code)
	}
	all := []impl.Decision{chained(0, slices.Repeat(codes, 10000)...), chained(1, slices.Repeat(codes[:1], 100000)...), chained(2, make([]string, 100000)...)}
	for result := int64(-1); result <= impl.ResultGo+1; result++ {
		all = append(all, chained(result), impl.Decision{Result: result, Chain: []string{}}, impl.Decision{Result: result, Chain: make([]string, 0, 5)}, chained(result, slices.Repeat(codes, 2)...))
		for _, s := range slices.Concat(notPartyCodes, []string{"nocode", "=", "->", "aa->bb", "fire->mer", strings.Repeat("a", 100000)}) {
			for i := range len(codes) + 1 {
				all = append(all, chained(result, slices.Insert(slices.Clone(codes), i, s)...), chained(result, append(slices.Clone(codes[:i]), s)...))
			}
		}
		for _, s := range codes {
			all = append(all, chained(result, s, s))
		}
	}
	return all
}

func TestIsRightOfBrokenDecisions(t *testing.T) {
	events := []impl.Event{eventOn(5), event(0, 0, "mm", 0, "-"), event(greatestDay, 6, "zzzzzz", 7, "pvr")}
	for _, list := range [][]impl.Clause{sampleRulebook(), clauses("a/-1/***/0/."), clauses("zz/-1/***/1/."), throughAll(impl.MaxClauses, 0), threeResults()} {
		for _, e := range events {
			for _, d := range brokenDecisions(list) {
				checkRight(t, list, e, d, false)
			}
			// Some decisions without texts have the codes of a rulebook, and more of them.
			for _, d := range notDecisions() {
				checkRight(t, list, e, d, isRightByHand(list, e, d))
			}
		}
	}
}

// allChains are the chains of up to count codes of a rulebook, and of one that it does not have.
func allChains(list []impl.Clause, count int) [][]string {
	chains := [][]string{nil}
	for i := 0; len(chains[i]) < count; i++ {
		chains = append(chains, append(slices.Clone(chains[i]), "nocode"))
		for _, c := range list {
			chains = append(chains, append(slices.Clone(chains[i]), c.Code))
		}
	}
	return chains
}

// TestOnlyToldDecisionsAreRight is promise 12, for all chains of the codes of small rulebooks, and some more,
// with all results.
func TestOnlyToldDecisionsAreRight(t *testing.T) {
	for _, texts := range []string{
		"a/-1/***/0/.",
		"a/1/***/0/. b/-1/***/1/.",
		"a/1/+**/3/b b/-1/***/1/.",
		"a/-1/***/3/b b/-1/***/1/.",
		"a/0/***/3/c b/-1/***/3/c c/-1/***/2/.",
		"c/1/***/3/a b/1/*+*/1/. a/-1/***/2/.",
		"a/1/***/3/b b/-1/**+/3/c c/-1/***/0/.",
		"a/1/***/3/c b/-1/***/0/. c/1/-**/1/. d/-1/***/2/.",
		"a/-1/+**/3/b b/1/*+*/3/c c/-1/**+/3/d d/-1/***/1/.",
	} {
		list := clauses(texts)
		chains := allChains(list, len(list)+1)
		for _, e := range slices.DeleteFunc(allShapes(), func(e impl.Event) bool { return e.Kind > 1 }) {
			told, _ := impl.DecideEvent(list, e)
			isThere := false
			for _, chain := range chains {
				for result := int64(-1); result <= impl.ResultGo+1; result++ {
					d := chained(result, chain...)
					isThere = isThere || sameDecision(d, told)
					checkRight(t, list, e, d, sameDecision(d, told))
				}
			}
			if !isThere {
				t.Errorf("%s about %s by %s is not among all chains", shownDecision(told), shownEvent(e), texts)
			}
		}
	}
}

// checkReader has a reader accept the decisions about a log, but none that differs from them in one place, nor
// those about other events of the log: promise 12.
func checkReader(t *testing.T, list []impl.Clause, log []impl.Event) {
	t.Helper()
	told, _ := impl.DecideLog(list, log)
	wrong, code := impl.FirstWrong(list, log, told)
	wantInt(t, "FirstWrong of what is told about "+shownEvents(log)+" by "+shownClauses(list), wrong, code, 0, impl.ErrNotFound)
	for i, d := range told {
		checkRight(t, list, log[i], d, true)
		for _, other := range otherDecisions(list, d) {
			checkRight(t, list, log[i], other, false)
		}
		for _, other := range told {
			checkRight(t, list, log[i], other, sameDecision(d, other))
		}
	}
}

func TestReaderAcceptsToldDecisions(t *testing.T) {
	for _, list := range rulebooks() {
		for _, log := range logs() {
			checkReader(t, list, log)
		}
		for part := range slices.Chunk(shapesAsLog(), impl.MaxEvents) {
			checkReader(t, list, part)
		}
	}
	random := fixedRandom()
	for range 1500 {
		checkReader(t, anyRulebook(random, 1+random.IntN(impl.MaxClauses)), anyLog(random, random.IntN(impl.MaxEvents+1)))
	}
}

// TestReaderOfAnyChains has chains of any codes of a rulebook, in their order and in others.
func TestReaderOfAnyChains(t *testing.T) {
	random := fixedRandom()
	accepted := 0
	for range 20000 {
		list := anyRulebook(random, 1+random.IntN(4))
		e := anyEvent(random, 5)
		d := impl.Decision{Result: random.Int64N(5) - 1}
		for place := random.IntN(2); place < len(list); place += 1 + random.IntN(3) {
			d.Chain = append(d.Chain, list[place].Code)
		}
		if random.IntN(5) == 0 {
			random.Shuffle(len(d.Chain), func(i, j int) { d.Chain[i], d.Chain[j] = d.Chain[j], d.Chain[i] })
		}
		want := isRightByHand(list, e, d)
		if want {
			accepted++
		}
		checkRight(t, list, e, d, want)
	}
	if accepted < 500 {
		t.Errorf("only %d of the chains are right", accepted)
	}
}

func TestFirstWrong(t *testing.T) {
	for _, c := range []struct {
		kinds []int64
		told  string
		want  int64
		code  int64
	}{
		// No decision is wrong.
		{nil, "", 0, impl.ErrNotFound},
		{[]int64{0}, "jet=0", 0, impl.ErrNotFound},
		{[]int64{0, 1, 2}, "jet=0 fire->part=1 last=2", 0, impl.ErrNotFound},
		{[]int64{1, 1, 1, 1}, "fire->part=1 fire->part=1 fire->part=1 fire->part=1", 0, impl.ErrNotFound},
		// Decisions are wrong first, in between, last, and in several places.
		{[]int64{0}, "last=2", 0, impl.ErrNone},
		{[]int64{0, 1, 2}, "jet=1 fire->part=1 last=2", 0, impl.ErrNone},
		{[]int64{0, 1, 2}, "jet=0 part=1 last=2", 1, impl.ErrNone},
		{[]int64{0, 1, 2}, "jet=0 fire->part=1 last=0", 2, impl.ErrNone},
		{[]int64{0, 1, 2}, "jet=0 fire->never=0 jet=0", 1, impl.ErrNone},
		{[]int64{0, 1, 2}, "none=0 none=1 none=2", 0, impl.ErrNone},
		{[]int64{0, 1}, "fire->part=1 jet=0", 0, impl.ErrNone},
		{[]int64{0, 1, 0}, "jet=0 jet=0 fire->part=1", 1, impl.ErrNone},
		// There are fewer decisions than events: none, one less, and with a wrong one before.
		{[]int64{0}, "", 0, impl.ErrNone},
		{[]int64{0, 1, 2}, "", 0, impl.ErrNone},
		{[]int64{0, 1, 2}, "jet=0", 1, impl.ErrNone},
		{[]int64{0, 1, 2}, "jet=0 fire->part=1", 2, impl.ErrNone},
		{[]int64{0, 1, 2}, "jet=0 last=2", 1, impl.ErrNone},
		{[]int64{0, 1, 2}, "fire->part=1 last=2", 0, impl.ErrNone},
		// There are more: right ones, and wrong ones.
		{nil, "jet=0", 0, impl.ErrRange},
		{[]int64{0}, "jet=0 jet=0", 0, impl.ErrRange},
		{[]int64{0}, "last=2 jet=0", 0, impl.ErrRange},
		{[]int64{0, 1}, "jet=0 jet=0 jet=0", 0, impl.ErrRange},
		{[]int64{0, 1}, "jet=0 fire->part=1 last=2 last=2", 0, impl.ErrRange},
	} {
		got, code := impl.FirstWrong(threeResults(), logOf(c.kinds...), decisions(c.told))
		wantInt(t, fmt.Sprintf("FirstWrong of %s about kinds %v", c.told, c.kinds), got, code, c.want, c.code)
	}
}

// TestFirstWrongOfLongLogs has each number of decisions about each number of events, of which one may be wrong.
func TestFirstWrongOfLongLogs(t *testing.T) {
	list := threeResults()
	for count := range impl.MaxEvents + 1 {
		log := longLog(count)
		for given := range impl.MaxEvents + 2 {
			told := []impl.Decision{}
			for i := range given {
				told = append(told, decidedByHand(list, longLog(impl.MaxEvents + 1)[i]))
			}
			checkFirstWrong(t, list, log, told)
			for i := range told {
				changed := slices.Clone(told)
				changed[i] = chained(told[i].Result, append(slices.Clone(told[i].Chain), "last")...)
				checkFirstWrong(t, list, log, changed)
				changed[i] = impl.Decision{}
				checkFirstWrong(t, list, log, changed)
				// All from this one on are wrong.
				checkFirstWrong(t, list, log, slices.Concat(told[:i], make([]impl.Decision, given-i)))
			}
		}
	}
}

// TestFirstWrongOfTooMany has decisions that are far too many, or that broken ones are among.
func TestFirstWrongOfTooMany(t *testing.T) {
	list := threeResults()
	for _, count := range []int{impl.MaxEvents + 1, 256, 256 + 1, 256 + impl.MaxEvents, 65536, 100000} {
		for _, log := range logs() {
			for _, d := range []impl.Decision{{}, decision("jet=0"), chained(3, "jet"), chained(0, make([]string, 1000)...)} {
				got, code := impl.FirstWrong(list, log, slices.Repeat([]impl.Decision{d}, count))
				wantInt(t, fmt.Sprintf("FirstWrong of %d decisions about %s", count, shownEvents(log)), got, code, 0, impl.ErrRange)
			}
		}
	}
	log := longLog(3)
	for _, broken := range slices.Concat(brokenDecisions(list), notDecisions()) {
		for i := range log {
			told, _ := impl.DecideLog(list, log)
			told[i] = broken
			got, code := impl.FirstWrong(list, log, told)
			wantInt(t, "FirstWrong of "+shownDecisions(told), got, code, int64(i), impl.ErrNone)
		}
	}
}

func TestFirstWrongByHand(t *testing.T) {
	random := fixedRandom()
	for range 5000 {
		list, log := anyRulebook(random, 1+random.IntN(impl.MaxClauses)), anyLog(random, random.IntN(impl.MaxEvents+1))
		told, _ := impl.DecideLog(list, log)
		if len(told) > 0 && random.IntN(4) > 0 {
			i := random.IntN(len(told))
			others := otherDecisions(list, told[i])
			told[i] = others[random.IntN(len(others))]
		}
		if random.IntN(4) == 0 {
			told = told[:random.IntN(len(told)+1)]
		}
		if random.IntN(4) == 0 {
			told = append(told, decision("a=0"))
		}
		checkFirstWrong(t, list, log, told)
	}
}

func TestWhyNot(t *testing.T) {
	for _, c := range []struct {
		text    string
		kind    int64
		letters string
		want    int64
		code    int64
	}{
		// Each reason alone, for what is needed and for what must not be.
		{"aa/0/***/0/.", 1, "-", impl.ReasonKind, impl.ErrNone},
		{"aa/6/+++/0/.", 5, "pvr", impl.ReasonKind, impl.ErrNone},
		{"aa/-1/+**/0/.", 3, "vr", impl.ReasonPeril, impl.ErrNone},
		{"aa/-1/-**/0/.", 3, "p", impl.ReasonPeril, impl.ErrNone},
		{"aa/-1/*+*/0/.", 3, "pr", impl.ReasonVoluntary, impl.ErrNone},
		{"aa/-1/*-*/0/.", 3, "v", impl.ReasonVoluntary, impl.ErrNone},
		{"aa/-1/**+/0/.", 3, "pv", impl.ReasonReasonable, impl.ErrNone},
		{"aa/-1/**-/0/.", 3, "r", impl.ReasonReasonable, impl.ErrNone},
		{"aa/3/+-+/0/.", 3, "r", impl.ReasonPeril, impl.ErrNone},
		{"aa/3/+-+/0/.", 3, "pvr", impl.ReasonVoluntary, impl.ErrNone},
		{"aa/3/+-+/0/.", 3, "p", impl.ReasonReasonable, impl.ErrNone},
		// Several at once: the first one counts.
		{"aa/3/+++/0/.", 2, "-", impl.ReasonKind, impl.ErrNone},
		{"aa/3/**+/0/.", 2, "-", impl.ReasonKind, impl.ErrNone},
		{"aa/3/*+*/0/.", 2, "r", impl.ReasonKind, impl.ErrNone},
		{"aa/3/+++/0/.", 3, "-", impl.ReasonPeril, impl.ErrNone},
		{"aa/-1/---/0/.", 3, "pvr", impl.ReasonPeril, impl.ErrNone},
		{"aa/-1/-*+/0/.", 3, "pv", impl.ReasonPeril, impl.ErrNone},
		{"aa/-1/+++/0/.", 3, "p", impl.ReasonVoluntary, impl.ErrNone},
		{"aa/-1/*--/0/.", 3, "vr", impl.ReasonVoluntary, impl.ErrNone},
		// The clause matches.
		{"aa/-1/***/0/.", 3, "-", 0, impl.ErrState},
		{"aa/-1/***/0/.", 6, "pvr", 0, impl.ErrState},
		{"aa/0/+-+/0/.", 0, "pr", 0, impl.ErrState},
		{"aa/6/---/0/.", 6, "-", 0, impl.ErrState},
		// The Result and To do not matter.
		{"aa/0/***/3/zz", 1, "-", impl.ReasonKind, impl.ErrNone},
		{"aa/-1/**+/3/zz", 1, "-", impl.ReasonReasonable, impl.ErrNone},
		{"aa/1/**+/3/aa", 1, "r", 0, impl.ErrState},
		{"aa/1/+**/2/.", 1, "r", impl.ReasonPeril, impl.ErrNone},
	} {
		got, code := impl.WhyNot(clause(c.text), event(20000, c.kind, "corn", 5, c.letters))
		wantInt(t, fmt.Sprintf("WhyNot %s, kind %d, %s", c.text, c.kind, c.letters), got, code, c.want, c.code)
	}
}

// TestWhyNotOfAllShapes has all kinds and needs of clauses beside all shapes of events; there is a reason if
// the clause does not match.
func TestWhyNotOfAllShapes(t *testing.T) {
	for kind := -1; kind <= 6; kind++ {
		for i, needs := range allNeeds() {
			c := clause(fmt.Sprintf("%s/%d/%s/%s", clauseCode(i), kind, needs, []string{"0/.", "1/.", "2/.", "3/mm"}[i%4]))
			for _, e := range allShapes() {
				want, wantCode := reasonByHand(c, e)
				got, code := impl.WhyNot(c, e)
				wantInt(t, "WhyNot "+shownClause(c)+" "+shownEvent(e), got, code, want, wantCode)
				matches, _ := impl.DoesMatch(c, e)
				if matches != (code == impl.ErrState) {
					t.Errorf("WhyNot %s %s: code %d, though DoesMatch tells %t", shownClause(c), shownEvent(e), code, matches)
				}
			}
		}
	}
}

// TestWhyNotErrors has clauses and events that are not as described, of which some would match.
func TestWhyNotErrors(t *testing.T) {
	for _, c := range notClauses() {
		for _, e := range append(notEvents()[:20], allShapes()...) {
			got, code := impl.WhyNot(c, e)
			wantInt(t, "WhyNot "+shownClause(c)+" "+shownEvent(e), got, code, 0, impl.ErrInvalid)
		}
	}
	for _, s := range []string{"aa/-1/***/0/.", "aa/3/***/0/.", "aa/1/+**/3/zz", "aa/0/---/0/."} {
		for _, e := range notEvents() {
			got, code := impl.WhyNot(clause(s), e)
			wantInt(t, "WhyNot "+s+" "+shownEvent(e), got, code, 0, impl.ErrInvalid)
		}
	}
}

func TestSkippedClauses(t *testing.T) {
	rules := "aa/-1/+++/0/. bb/6/***/1/. cc/-1/***/2/."
	twelve := longRulebook(impl.MaxClauses)
	for i := range impl.MaxClauses - 1 {
		twelve[i].Kind = 0
	}
	for _, c := range []struct {
		list []impl.Clause
		e    impl.Event
		want string
	}{
		// No clause is passed by, one is, and several are.
		{clauses(rules), event(1, 6, "corn", 5, "pvr"), ""},
		{clauses(rules), event(1, 6, "corn", 5, "-"), "aa"},
		{clauses(rules), event(1, 5, "corn", 5, "-"), "aa bb"},
		{clauses("a/-1/***/0/."), eventOn(5), ""},
		{throughAll(impl.MaxClauses, 0), eventOn(5), ""},
		{twelve, eventOn(5), strings.Join(chainOf(impl.MaxClauses-1), " ")},
		// Clauses behind the last one of the chain do not count.
		{clauses("a/0/***/0/. b/1/***/0/. c/0/***/0/. d/-1/***/0/."), eventOn(5), "a"},
		{clauses("a/1/***/0/. b/0/***/0/. c/0/***/0/. d/-1/***/0/."), eventOn(5), ""},
		// A clause that matches does not count, though the chain leads past it, but each one that does not.
		{clauses("a/-1/***/3/d b/-1/***/0/. c/1/***/0/. d/-1/***/1/. e/0/***/0/. f/-1/***/2/."), eventOn(5), ""},
		{clauses("a/-1/***/3/d b/-1/***/0/. c/0/***/0/. d/-1/***/1/. e/0/***/0/. f/-1/***/2/."), eventOn(5), "c"},
		{clauses("a/-1/***/3/d b/2/***/0/. c/0/***/0/. d/-1/***/1/. e/0/***/0/. f/-1/***/2/."), eventOn(5), "b c"},
		{clauses("a/0/***/3/d b/1/***/3/d c/-1/-**/0/. d/-1/*+*/1/. e/1/***/0/. f/-1/***/2/."), eventOn(5), "a c d"},
		// They have the order of the rulebook.
		{clauses("z/0/***/0/. a/0/***/0/. m/1/-**/0/. b/1/***/0/. last/-1/***/2/."), eventOn(5), "z a m"},
	} {
		got, code := impl.SkippedClauses(c.list, c.e)
		wantList(t, "SkippedClauses of "+shownEvent(c.e)+" by "+shownClauses(c.list), got, code, strings.Fields(c.want), impl.ErrNone)
	}
}

func TestTruthsToChange(t *testing.T) {
	all := "all/-1/+++/0/. last/-1/***/2/."
	byKind := "a/1/+**/0/. b/2/***/1/. c/3/*-*/3/d dead/3/*-*/1/. d/-1/**+/0/. last/-1/***/2/."
	dead := "a/-1/***/2/. dead/-1/***/0/. last/-1/***/1/."
	for _, c := range []struct {
		texts   string
		kind    int64
		letters string
		result  int64
		want    int64
		code    int64
	}{
		// None, one, two and three.
		{all, 1, "pvr", 0, 0, impl.ErrNone}, {all, 1, "-", 2, 0, impl.ErrNone}, {all, 1, "vr", 2, 0, impl.ErrNone},
		{all, 1, "pv", 0, 1, impl.ErrNone}, {all, 1, "pr", 0, 1, impl.ErrNone}, {all, 1, "vr", 0, 1, impl.ErrNone}, {all, 1, "pvr", 2, 1, impl.ErrNone},
		{all, 1, "p", 0, 2, impl.ErrNone}, {all, 1, "v", 0, 2, impl.ErrNone}, {all, 1, "r", 0, 2, impl.ErrNone},
		{all, 1, "-", 0, 3, impl.ErrNone}, {all, 6, "-", 0, 3, impl.ErrNone}, {all, 0, "-", 0, 3, impl.ErrNone},
		{"none/-1/---/1/. last/-1/***/2/.", 4, "pvr", 1, 3, impl.ErrNone}, {"none/-1/-+-/1/. last/-1/***/2/.", 4, "pr", 1, 3, impl.ErrNone},
		// Several ways lead to the result: the shortest one counts.
		{"three/-1/+++/0/. one/-1/*-+/0/. last/-1/***/2/.", 1, "-", 0, 1, impl.ErrNone},
		{"one/-1/--+/0/. three/-1/+++/0/. last/-1/***/2/.", 1, "pv", 0, 1, impl.ErrNone},
		{"two/-1/++*/0/. one/-1/**+/0/. last/-1/***/2/.", 1, "-", 0, 1, impl.ErrNone},
		// From the event's kind, the result can be reached, or only from another one.
		{byKind, 1, "v", 0, 1, impl.ErrNone}, {byKind, 1, "v", 2, 0, impl.ErrNone}, {byKind, 1, "p", 1, 0, impl.ErrNotFound},
		{byKind, 2, "p", 1, 0, impl.ErrNone}, {byKind, 2, "p", 0, 0, impl.ErrNotFound}, {byKind, 2, "r", 2, 0, impl.ErrNotFound},
		{byKind, 3, "v", 0, 1, impl.ErrNone}, {byKind, 3, "vr", 2, 1, impl.ErrNone}, {byKind, 3, "-", 1, 0, impl.ErrNotFound},
		// It can be reached from no kind, though a clause has it.
		{all, 1, "pvr", 1, 0, impl.ErrNotFound}, {dead, 5, "-", 0, 0, impl.ErrNotFound}, {dead, 5, "-", 1, 0, impl.ErrNotFound}, {dead, 5, "-", 2, 0, impl.ErrNone},
		// One result is below all and one above, and so is the result that leads on.
		{all, 1, "-", -1, 0, impl.ErrRange}, {all, 1, "pvr", 3, 0, impl.ErrRange}, {byKind, 3, "-", 3, 0, impl.ErrRange}, {dead, 5, "-", 4, 0, impl.ErrRange},
	} {
		got, code := impl.TruthsToChange(clauses(c.texts), event(20000, c.kind, "corn", 5, c.letters), c.result)
		wantInt(t, fmt.Sprintf("TruthsToChange of kind %d, %s, for %d by %s", c.kind, c.letters, c.result, c.texts), got, code, c.want, c.code)
	}
}

func TestWitnessFor(t *testing.T) {
	shape := func(kind int64, letters string) impl.Event { return event(0, kind, "", 0, letters) }
	for _, c := range []struct {
		texts  string
		result int64
		want   impl.Event
		code   int64
	}{
		{"a/-1/***/0/.", 0, shape(0, "-"), impl.ErrNone},
		{"a/-1/***/0/.", 1, shape(0, "-"), impl.ErrNotFound},
		{"a/-1/***/0/.", 2, shape(0, "-"), impl.ErrNotFound},
		// The first one of several by kind, whatever their clauses and truths.
		{"a/6/---/1/. b/5/***/1/. c/-1/***/2/.", 1, shape(5, "-"), impl.ErrNone},
		{"a/4/---/1/. b/3/+++/1/. c/-1/***/2/.", 1, shape(3, "pvr"), impl.ErrNone},
		{"a/0/***/0/. b/1/***/1/. c/-1/***/2/.", 2, shape(2, "-"), impl.ErrNone},
		// Then by peril, by voluntary and by reasonable.
		{"a/2/+--/1/. b/2/-++/1/. c/-1/***/2/.", 1, shape(2, "vr"), impl.ErrNone},
		{"a/2/*+-/1/. b/2/+-+/1/. c/-1/***/2/.", 1, shape(2, "v"), impl.ErrNone},
		{"a/2/++-/1/. b/2/+-+/1/. c/-1/***/2/.", 1, shape(2, "pr"), impl.ErrNone},
		{"a/2/-+-/1/. b/2/--+/1/. c/-1/***/2/.", 1, shape(2, "r"), impl.ErrNone},
		{"a/2/+++/1/. b/2/++-/1/. c/-1/***/2/.", 1, shape(2, "pv"), impl.ErrNone},
		{"a/-1/+++/0/. b/-1/***/2/.", 0, shape(0, "pvr"), impl.ErrNone},
		{"a/-1/-**/0/. b/-1/*-*/0/. c/-1/**-/0/. d/6/***/1/. e/-1/***/2/.", 1, shape(6, "pvr"), impl.ErrNone},
		// By way of another clause.
		{"a/3/**+/3/c b/3/***/1/. c/-1/***/2/.", 2, shape(0, "-"), impl.ErrNone},
		{"a/3/**+/3/c b/3/***/1/. c/3/+**/2/. d/-1/***/0/.", 2, shape(3, "pr"), impl.ErrNone},
		// No event gets to the clause with the result.
		{"a/-1/***/2/. b/-1/***/0/. c/-1/***/1/.", 0, shape(0, "-"), impl.ErrNotFound},
		{"a/-1/***/2/. b/-1/***/0/. c/-1/***/1/.", 1, shape(0, "-"), impl.ErrNotFound},
		{"a/-1/***/3/c b/0/***/0/. c/-1/***/1/.", 0, shape(0, "-"), impl.ErrNotFound},
	} {
		got, code := impl.WitnessFor(clauses(c.texts), c.result)
		wantEvent(t, fmt.Sprintf("WitnessFor %d by %s", c.result, c.texts), got, code, c.want, c.code)
	}
}

// TestWitnessForOneShape has each shape as the only one with a result.
func TestWitnessForOneShape(t *testing.T) {
	for _, e := range shapeEvents() {
		for result := range int64(impl.ResultGo) {
			other := (result + 1) % impl.ResultGo
			list := []impl.Clause{onlyFor("only", e, result), {Code: "last", Kind: -1, Result: other}}
			got, code := impl.WitnessFor(list, result)
			wantEvent(t, "WitnessFor by "+shownClauses(list), got, code, e, impl.ErrNone)
			counts, code := impl.CountShapes(list)
			want := repeated(0, 3)
			want[result], want[other] = 1, 55
			wantInts(t, "CountShapes by "+shownClauses(list), counts, code, want, impl.ErrNone)
			checkShapes(t, list)
			if got != e {
				continue
			}
			// The witness is no event of a log, but it is one as soon as it has an interest.
			got.Interest = "corn"
			d, code := impl.DecideEvent(list, got)
			wantDecision(t, "DecideEvent "+shownEvent(got), d, code, chained(result, "only"), impl.ErrNone)
		}
	}
}

// TestResultsOutOfRange has results that no decision may have.
func TestResultsOutOfRange(t *testing.T) {
	for _, list := range [][]impl.Clause{threeResults(), sampleRulebook(), clauses("a/-1/***/0/."), throughAll(impl.MaxClauses, 2)} {
		for _, result := range notFinal {
			e, code := impl.WitnessFor(list, result)
			wantEvent(t, fmt.Sprintf("WitnessFor %d", result), e, code, impl.Event{}, impl.ErrRange)
			for _, e := range allShapes() {
				got, code := impl.TruthsToChange(list, e, result)
				wantInt(t, fmt.Sprintf("TruthsToChange for %d", result), got, code, 0, impl.ErrRange)
			}
		}
	}
	list := threeResults()
	for result := int64(-300); result < 600; result++ {
		want := int64(impl.ErrRange)
		if result >= 0 && result <= 2 {
			want = impl.ErrNone
		}
		if _, code := impl.WitnessFor(list, result); code != want {
			t.Errorf("WitnessFor %d: code %d", result, code)
		}
		if want == impl.ErrNone {
			continue
		}
		got, code := impl.TruthsToChange(list, eventOn(5), result)
		wantInt(t, fmt.Sprintf("TruthsToChange for %d", result), got, code, 0, impl.ErrRange)
	}
}

func TestCountShapes(t *testing.T) {
	for _, c := range []struct {
		texts string
		want  []int64
	}{
		{"a/-1/***/0/.", []int64{56, 0, 0}},
		{"a/-1/***/1/.", []int64{0, 56, 0}},
		{"a/-1/***/2/.", []int64{0, 0, 56}},
		{"aa/-1/+++/0/. bb/6/***/1/. cc/-1/***/2/.", []int64{7, 7, 42}},
		{"bb/6/***/1/. aa/-1/+++/0/. cc/-1/***/2/.", []int64{6, 8, 42}},
		{"a/0/***/0/. b/1/***/1/. c/-1/***/2/.", []int64{8, 8, 40}},
		{"a/-1/+**/0/. b/-1/*+*/1/. c/-1/***/2/.", []int64{28, 14, 14}},
		{"a/3/+-+/1/. b/-1/***/0/.", []int64{55, 1, 0}},
		// Results of clauses that lead on, or that no event gets to, do not count.
		{"a/-1/+**/3/c b/-1/***/1/. c/-1/***/0/.", []int64{28, 28, 0}},
		{"a/-1/***/2/. b/-1/***/0/. c/-1/***/1/.", []int64{0, 0, 56}},
	} {
		got, code := impl.CountShapes(clauses(c.texts))
		wantInts(t, "CountShapes by "+c.texts, got, code, c.want, impl.ErrNone)
	}
	for count := 1; count <= impl.MaxClauses; count++ {
		for result := range int64(impl.ResultGo) {
			want := repeated(0, 3)
			want[result] = 56
			got, code := impl.CountShapes(throughAll(count, result))
			wantInts(t, fmt.Sprintf("CountShapes by %d clauses", count), got, code, want, impl.ErrNone)
		}
	}
}

func TestAgreement(t *testing.T) {
	three := "jet/0/***/0/. fire/1/***/3/part never/1/***/0/. part/1/***/1/. last/-1/***/2/."
	for _, c := range []struct {
		a, b  string
		kinds []int64
		want  int64
	}{
		// Everywhere, also by other clauses and other chains.
		{three, three, []int64{0, 1, 2, 3, 4, 5, 6}, 7},
		{three, "b/0/***/0/. a/1/***/1/. z/-1/***/2/.", []int64{0, 1, 2, 1, 0}, 5},
		{"a/-1/***/0/.", "b/-1/***/3/c c/-1/***/0/.", []int64{5}, 1},
		{three, three, slices.Repeat([]int64{1}, impl.MaxEvents), 15},
		// Nowhere.
		{"a/-1/***/0/.", "a/-1/***/1/.", []int64{0, 1, 2, 3}, 0},
		{"a/-1/***/0/.", "a/-1/***/2/.", slices.Repeat([]int64{4}, impl.MaxEvents), 0},
		{three, "a/0/***/2/. b/1/***/2/. c/-1/***/1/.", []int64{0, 1, 2}, 0},
		// On some events: first, last, in between.
		{three, "a/-1/***/0/.", []int64{0, 1, 2}, 1},
		{three, "a/-1/***/2/.", []int64{0, 1, 2}, 1},
		{three, "a/-1/***/1/.", []int64{0, 1, 2, 1, 0}, 2},
		{three, "a/-1/***/2/.", []int64{2, 3, 0, 4, 5, 6, 1}, 5},
		{three, "a/1/***/3/c b/0/***/0/. c/-1/***/2/.", []int64{0, 0, 1, 1, 6, 6}, 4},
		{"a/5/***/0/. b/-1/***/1/.", "a/6/***/0/. b/-1/***/1/.", []int64{0, 5, 1, 6, 2}, 3},
		// There are no events.
		{three, three, nil, 0},
		{three, "a/-1/***/1/.", nil, 0},
	} {
		for _, pair := range [][2]string{{c.a, c.b}, {c.b, c.a}} {
			got, code := impl.Agreement(clauses(pair[0]), clauses(pair[1]), logOf(c.kinds...))
			wantInt(t, fmt.Sprintf("Agreement about kinds %v of %s and %s", c.kinds, pair[0], pair[1]), got, code, c.want, impl.ErrNone)
		}
	}
}

func TestCheckingByHand(t *testing.T) {
	check := func(a, b []impl.Clause, log []impl.Event) {
		t.Helper()
		checkShapes(t, a)
		checkAgreement(t, a, b, log)
		checkAgreement(t, a, a, log)
		for _, e := range log {
			checkEvent(t, a, e)
		}
	}
	for _, list := range rulebooks() {
		for _, e := range allShapes() {
			checkEvent(t, list, e)
		}
		for _, log := range logs() {
			check(list, sampleRulebook(), log)
		}
	}
	random := fixedRandom()
	for range 3000 {
		list, log := anyRulebook(random, 1+random.IntN(impl.MaxClauses)), anyLog(random, random.IntN(impl.MaxEvents+1))
		check(list, anyChangedRulebook(random, list), log)
	}
}

// TestCheckingOtherFields has events that differ only in what checks do not depend on.
func TestCheckingOtherFields(t *testing.T) {
	list := sampleRulebook()
	for _, e := range allShapes() {
		told := decidedByHand(list, e)
		for _, day := range []int64{0, 20000, greatestDay} {
			for _, interest := range []string{"a", "fire", "last", "zzzzzz"} {
				for _, amount := range []int64{0, 1, impl.MaxAmount} {
					e.Day, e.Interest, e.Amount = day, interest, amount
					checkRight(t, list, e, told, true)
					checkEvent(t, list, e)
					want, wantCode := reasonByHand(list[1], e)
					got, code := impl.WhyNot(list[1], e)
					wantInt(t, "WhyNot "+shownEvent(e), got, code, want, wantCode)
				}
			}
		}
	}
}

// checkWrongEvent has all functions for events return ErrInvalid and nothing else, whatever comes beside.
func checkWrongEvent(t *testing.T, list []impl.Clause, e impl.Event) {
	t.Helper()
	what := " of " + shownEvent(e) + " by " + shownClauses(list)
	for _, d := range []impl.Decision{{}, decision("a=0"), decision("fire->mer->rea=0"), decision("last=2"), chained(3), chained(0, make([]string, 100)...)} {
		got, code := impl.IsRight(list, e, d)
		wantBool(t, "IsRight "+shownDecision(d)+what, got, code, false, impl.ErrInvalid)
	}
	skipped, code := impl.SkippedClauses(list, e)
	wantList(t, "SkippedClauses"+what, skipped, code, nil, impl.ErrInvalid)
	for _, result := range []int64{0, 1, 2, 3, -1, math.MinInt64, math.MaxInt64} {
		got, code := impl.TruthsToChange(list, e, result)
		wantInt(t, fmt.Sprintf("TruthsToChange for %d%s", result, what), got, code, 0, impl.ErrInvalid)
	}
}

// checkWrongLog has all functions for logs return ErrInvalid and nothing else, also for too many decisions.
func checkWrongLog(t *testing.T, list []impl.Clause, log []impl.Event) {
	t.Helper()
	what := " about " + shownEvents(log) + " by " + shownClauses(list)
	for _, count := range []int{0, 1, len(log), len(log) + 1, impl.MaxEvents + 1} {
		got, code := impl.FirstWrong(list, log, make([]impl.Decision, count))
		wantInt(t, fmt.Sprintf("FirstWrong of %d decisions%s", count, what), got, code, 0, impl.ErrInvalid)
	}
	for _, other := range [][]impl.Clause{clauses(forAll), list, nil} {
		for _, pair := range [][2][]impl.Clause{{list, other}, {other, list}} {
			got, code := impl.Agreement(pair[0], pair[1], log)
			wantInt(t, "Agreement with "+shownClauses(other)+what, got, code, 0, impl.ErrInvalid)
		}
	}
}

// TestCheckingByNoRulebook has lists that are no rulebook, also where there is nothing to check.
func TestCheckingByNoRulebook(t *testing.T) {
	for _, list := range notRulebooks() {
		what := " by " + shownClauses(list)
		for _, e := range []impl.Event{eventOn(5), event(5, 0, "a", 0, "pvr"), {}, eventOn(-1)} {
			checkWrongEvent(t, list, e)
		}
		for _, log := range [][]impl.Event{nil, sampleLog(), longLog(impl.MaxEvents), longLog(impl.MaxEvents + 1), {{}}} {
			checkWrongLog(t, list, log)
		}
		counts, code := impl.CountShapes(list)
		wantInts(t, "CountShapes"+what, counts, code, nil, impl.ErrInvalid)
		for _, result := range []int64{0, 1, 2, 3, -1, math.MinInt64, math.MaxInt64} {
			e, code := impl.WitnessFor(list, result)
			wantEvent(t, fmt.Sprintf("WitnessFor %d%s", result, what), e, code, impl.Event{}, impl.ErrInvalid)
		}
	}
}

func TestCheckingOfNoEvents(t *testing.T) {
	lists := [][]impl.Clause{sampleRulebook(), clauses(forAll), throughAll(impl.MaxClauses, 0)}
	for _, list := range lists {
		for _, e := range notEvents() {
			checkWrongEvent(t, list, e)
			// The decision would be right for an event with this shape.
			if e.Kind >= 0 && e.Kind <= 6 {
				got, code := impl.IsRight(list, e, decidedByHand(list, e))
				wantBool(t, "IsRight about "+shownEvent(e), got, code, false, impl.ErrInvalid)
			}
		}
		for _, log := range notLogs() {
			checkWrongLog(t, list, log)
		}
	}
}

func TestCheckingKeepsItsArguments(t *testing.T) {
	list, kept := inSpareRoom(sampleRulebook(), clause("own/-1/***/0/."), impl.Clause{})
	log, logKept := inSpareRoom(sampleLog(), eventOn(-1), eventOn(greatestDay), impl.Event{})
	told, _ := impl.DecideLog(list, log)
	keeps := []func() bool{kept, logKept}
	for i, d := range told {
		chain, chainKept := inSpareRoom(d.Chain, "own", "", "last")
		told[i].Chain = chain
		keeps = append(keeps, chainKept)
	}
	// Behind the decisions there are others, in their spare room.
	memory := append(slices.Clone(told), chained(0, "own"), impl.Decision{}, told[0])
	before := slices.Clone(memory)
	told = memory[:len(told)]
	for range 2 {
		wrong, code := impl.FirstWrong(list, log, told)
		wantInt(t, "FirstWrong", wrong, code, 0, impl.ErrNotFound)
		for i, e := range log {
			checkRight(t, list, e, told[i], true)
			skipped, _ := impl.SkippedClauses(list, e)
			overwrite(skipped, "own")
			checkEvent(t, list, e)
			for _, c := range list {
				impl.WhyNot(c, e)
			}
		}
		counts, _ := impl.CountShapes(list)
		overwrite(counts, -1)
		// What is written into results shows in none that comes later.
		checkShapes(t, list)
		checkAgreement(t, list, list, log)
		for _, isKept := range keeps {
			if !isKept() {
				t.Fatal("an argument, or the memory behind it, has changed")
			}
		}
		if !slices.EqualFunc(memory, before, sameDecision) {
			t.Fatal("the decisions, or the memory behind them, have changed")
		}
	}
	// The same lists again, but for a clause and a decision that have been changed since: nothing is kept
	// between calls.
	list[0] = clause("own/-1/***/0/.")
	wrong, code := impl.FirstWrong(list, log, told)
	wantInt(t, "FirstWrong again", wrong, code, 0, impl.ErrNone)
	for i := range told {
		told[i] = decision("own=0")
	}
	wrong, code = impl.FirstWrong(list, log, told)
	wantInt(t, "FirstWrong of the changed clause", wrong, code, 0, impl.ErrNotFound)
	checkShapes(t, list)
	checkEvent(t, list, log[0])
}
