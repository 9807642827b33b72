package tests

import (
	"fmt"
	"math"
	"math/rand/v2"
	"regexp"
	"slices"
	"strconv"
	"strings"
	"testing"

	"loop.example/g01010/impl"
)

// The functions have the signatures that the chapter lists, and the constants are untyped.
var (
	_ func(impl.Clause) bool                                = impl.IsClause
	_ func([]impl.Clause) bool                              = impl.IsRulebook
	_ func(impl.Clause, impl.Event) (bool, int64)           = impl.DoesMatch
	_ func([]impl.Clause, string) (int64, int64)            = impl.FindClause
	_ func([]impl.Clause, int64, impl.Event) (int64, int64) = impl.FirstMatch
	_ func([]impl.Clause, string) (bool, int64)             = impl.IsReachable
	_ func(impl.Clause) (string, int64)                     = impl.ClauseText
	_ func(string) (impl.Clause, int64)                     = impl.ReadClause
	_ struct {
		Code       string
		Kind       int64
		Peril      int64
		Voluntary  int64
		Reasonable int64
		Result     int64
		To         string
	} = impl.Clause{}
)

const (
	_ int8    = impl.MaxClauses + impl.ResultGeneral + impl.ResultParticular + impl.ResultRejected + impl.ResultGo + impl.NeedNothing + impl.NeedTrue + impl.NeedFalse
	_ float64 = impl.MaxClauses + impl.ResultGeneral + impl.ResultParticular + impl.ResultRejected + impl.ResultGo + impl.NeedNothing + impl.NeedTrue + impl.NeedFalse
)

// forAll is the text of a clause that may be the last one of a rulebook.
const forAll = "last/-1/***/2/."

// Integers that are no kind, no need and no result of a clause, at the limits and at the ends of int64.
var (
	notClauseKinds = []int64{-2, 7, -3, 8, -7, 1<<8 - 1, 1 << 8, 1<<16 - 1, 1<<32 - 1, 1<<32 + 1, -1<<32 - 1, math.MinInt64, math.MinInt64 + 1, math.MaxInt64, math.MaxInt64 - 1}
	notNeeds       = []int64{-1, 3, -2, 4, 1 << 8, 1<<8 + 1, 1<<32 + 1, 1<<32 + 2, -1 << 32, math.MinInt64, math.MinInt64 + 1, math.MaxInt64, math.MaxInt64 - 1}
	notResults     = []int64{-1, 4, -3, 5, 1 << 8, 1<<8 + 3, 1 << 32, 1<<32 + 3, -1 << 32, math.MinInt64, math.MinInt64 + 3, math.MaxInt64, math.MaxInt64 - 1}
)

// clausePattern matches the texts of all clauses, and no others.
var clausePattern = regexp.MustCompile(`\A([a-z]{1,6})/(-1|[0-6])/([*+-])([*+-])([*+-])/(?:([0-2])/\.|(3)/([a-z]{1,6}))\z`)

func readClauseByHand(s string) (impl.Clause, int64) {
	parts := clausePattern.FindStringSubmatch(s)
	if parts == nil {
		return impl.Clause{}, impl.ErrSyntax
	}
	kind, _ := strconv.ParseInt(parts[2], 10, 64)
	result, _ := strconv.ParseInt(parts[6]+parts[7], 10, 64)
	need := map[string]int64{"*": 0, "+": 1, "-": 2}
	return impl.Clause{Code: parts[1], Kind: kind, Peril: need[parts[3]], Voluntary: need[parts[4]], Reasonable: need[parts[5]], Result: result, To: parts[8]}, impl.ErrNone
}

// clause is the one with a text.
func clause(s string) impl.Clause {
	c, code := readClauseByHand(s)
	if code != impl.ErrNone {
		panic(s + " is the text of no clause")
	}
	return c
}

// clauses are those whose texts blanks separate.
func clauses(texts string) []impl.Clause {
	list := []impl.Clause{}
	for _, s := range strings.Fields(texts) {
		list = append(list, clause(s))
	}
	return list
}

// clauseCode gives different codes for numbers up to 26 * 26 * 26.
func clauseCode(i int) string {
	return string([]byte{byte('z' - i%26), byte('a' + i/26%26), byte('a' + i/26/26%26)})
}

// sampleRulebook has clauses that are first matches of events, that a To leads to, and both; three that are in
// no chain (dead, stop and none), and codes that are in no order and begin alike.
func sampleRulebook() []impl.Clause {
	return clauses("fire/1/***/3/mer jet/0/++*/0/. dead/0/+++/1/. ref/2/***/3/last stop/2/+++/0/. mer/-1/+**/3/rea m/1/-*-/2/. rea/-1/**+/0/. none/-1/+*+/1/. last/-1/***/2/.")
}

// longRulebook has count clauses, each of which leads to the next one for some events.
func longRulebook(count int) []impl.Clause {
	list := []impl.Clause{}
	for i := range count - 1 {
		list = append(list, impl.Clause{Code: clauseCode(i), Kind: int64(i%8 - 1), Peril: int64(i % 3), Voluntary: int64(i / 3 % 3), Reasonable: int64(i / 9 % 3), Result: impl.ResultGo, To: clauseCode(i + 1)})
	}
	return append(list, impl.Clause{Code: clauseCode(count - 1), Kind: -1, Result: int64(count % 3)})
}

// rulebooks are lists that are rulebooks.
func rulebooks() [][]impl.Clause {
	lists := [][]impl.Clause{sampleRulebook()}
	for _, texts := range []string{
		"a/-1/***/0/.",
		"zzzzzz/-1/***/1/.",
		"last/-1/***/2/.",
		"aa/-1/+++/0/. bb/6/***/1/. cc/-1/***/2/.",
		// To leads to the next clause, to the last one, to one in between, and from several ones.
		"a/0/***/3/b b/-1/***/0/.",
		"a/0/***/3/b b/0/***/3/c c/-1/***/0/.",
		"a/0/***/3/c b/0/***/3/c c/-1/***/0/.",
		"a/0/***/3/c b/0/***/0/. c/0/***/3/d d/-1/***/0/.",
		"a/0/***/3/d b/0/***/3/d c/0/***/3/d d/-1/***/0/.",
		"a/0/***/3/b b/0/***/1/. c/0/***/3/d d/-1/***/0/.",
		// Clauses before the last one match all events too, or the same ones.
		"a/-1/***/0/. b/-1/***/0/.",
		"a/-1/***/3/b b/-1/***/0/.",
		"a/5/+-*/0/. b/5/+-*/0/. c/5/+-*/0/. d/-1/***/0/.",
		// Codes are in no order, and begin alike.
		"z/0/***/3/a y/0/***/3/a a/-1/***/0/.",
		"a/0/***/3/aaa aa/0/***/3/aaa aaa/0/***/3/aaaaaa aaaa/0/***/3/aaaaaa aaaaaa/-1/***/0/.",
		"aaa/0/***/3/a aa/0/***/3/a a/-1/***/0/.",
	} {
		lists = append(lists, clauses(texts))
	}
	for count := 1; count <= impl.MaxClauses; count++ {
		leading := longRulebook(count)
		for i := range count - 1 {
			leading[i].To = leading[count-1].Code
		}
		lists = append(lists, longRulebook(count), leading)
	}
	return lists
}

// notClauses are clauses that no rulebook may have; but for what is wrong, they have the code mm.
func notClauses() []impl.Clause {
	list := []impl.Clause{{}, {Kind: -1}, {Code: "mm", Result: impl.ResultGo}, {Code: "mm", To: "zz"}, {Code: "mm", Kind: -2, Peril: -1, Voluntary: -1, Reasonable: -1, Result: -1}, {Code: "MM", Kind: 7, Peril: 3, Voluntary: 3, Reasonable: 3, Result: 4, To: "zz"}}
	add := func(change func(c *impl.Clause)) {
		for _, s := range []string{"mm/-1/***/0/.", "mm/3/+-*/1/.", "mm/6/---/2/.", "mm/0/+++/3/zz"} {
			c := clause(s)
			change(&c)
			list = append(list, c)
		}
	}
	for _, s := range notPartyCodes {
		add(func(c *impl.Clause) { c.Code = s })
		list = append(list, impl.Clause{Code: "mm", Kind: -1, Result: impl.ResultGo, To: s})
	}
	for _, s := range append([]string{"a", "zz", "mm", "zzzzzz", "."}, notPartyCodes[1:]...) {
		for result := range int64(impl.ResultGo) {
			list = append(list, impl.Clause{Code: "mm", Kind: -1, Result: result, To: s})
		}
	}
	for _, kind := range slices.Concat(notClauseKinds, farInts) {
		add(func(c *impl.Clause) { c.Kind = kind })
	}
	for _, need := range slices.Concat(notNeeds, farInts) {
		add(func(c *impl.Clause) { c.Peril = need })
		add(func(c *impl.Clause) { c.Voluntary = need })
		add(func(c *impl.Clause) { c.Reasonable = need })
	}
	for _, result := range slices.Concat(notResults, farInts) {
		add(func(c *impl.Clause) { c.Result = result })
	}
	return list
}

// notRulebooks are lists that are no rulebooks.
func notRulebooks() [][]impl.Clause {
	lists := [][]impl.Clause{
		nil,
		{},
		longRulebook(impl.MaxClauses + 1),
		longRulebook(impl.MaxClauses + 2),
		longRulebook(256),
		longRulebook(256 + 1),
		longRulebook(256 + impl.MaxClauses),
		longRulebook(5000),
		make([]impl.Clause, 1),
		make([]impl.Clause, impl.MaxClauses),
		make([]impl.Clause, 100000),
		slices.Repeat(clauses(forAll), impl.MaxClauses),
		slices.Repeat(clauses(forAll), 100000),
	}
	for _, texts := range []string{
		// A code occurs twice: side by side, apart, in the last clause, and with the same contents.
		"a/0/***/0/. a/1/***/0/. z/-1/***/0/.",
		"a/0/***/0/. a/0/***/0/. z/-1/***/0/.",
		"a/0/***/0/. b/0/***/0/. a/1/***/0/. z/-1/***/0/.",
		"b/0/***/0/. a/0/***/0/. a/1/***/0/. z/-1/***/0/.",
		"z/-1/***/0/. z/-1/***/0/.",
		"z/0/***/0/. a/0/***/0/. z/-1/***/0/.",
		"a/0/***/0/. z/0/***/0/. z/-1/***/0/.",
		"z/0/***/3/z z/-1/***/0/.",
		"a/0/***/3/b a/0/***/0/. b/-1/***/0/.",
		"a/0/***/3/b b/0/***/0/. b/0/***/0/. z/-1/***/0/.",
		"b/0/***/0/. a/0/***/3/b b/0/***/0/. z/-1/***/0/.",
		// To leads to the clause itself, to an earlier one, or to none.
		"a/0/***/3/a z/-1/***/0/.",
		"a/0/***/0/. b/0/***/3/b z/-1/***/0/.",
		"a/0/***/0/. b/0/***/3/a z/-1/***/0/.",
		"a/0/***/3/b b/0/***/3/a z/-1/***/0/.",
		"a/0/***/0/. b/0/***/0/. c/0/***/3/a z/-1/***/0/.",
		"a/0/***/0/. b/0/***/0/. c/0/***/3/b z/-1/***/0/.",
		"a/0/***/3/b z/-1/***/0/.",
		"a/0/***/0/. b/0/***/3/c z/-1/***/0/.",
		"a/0/***/3/zz z/-1/***/0/.",
		"aa/0/***/3/b bb/0/***/0/. z/-1/***/0/.",
		"a/0/***/3/zzzzzz zzzzz/-1/***/0/.",
		// The last clause has a kind, a need, or leads on.
		"a/0/***/0/.",
		"a/6/***/0/.",
		"a/-1/+**/0/.",
		"a/-1/-**/0/.",
		"a/-1/*+*/0/.",
		"a/-1/*-*/0/.",
		"a/-1/**+/0/.",
		"a/-1/**-/0/.",
		"a/-1/***/3/a",
		"a/-1/***/3/b",
		"a/-1/***/0/. z/0/***/0/.",
		"a/-1/***/0/. z/-1/+**/0/.",
		"a/-1/***/0/. z/-1/*-*/0/.",
		"a/-1/***/0/. z/-1/**+/0/.",
		"a/-1/***/0/. z/-1/***/3/a",
		"a/-1/***/0/. z/-1/***/3/z",
		"a/-1/***/0/. z/-1/***/3/zz",
		"z/-1/***/0/. a/6/---/0/.",
	} {
		lists = append(lists, clauses(texts))
	}
	for _, c := range notClauses() {
		front, back := clause("a/0/***/3/zz"), clause("zz/-1/***/0/.")
		lists = append(lists, []impl.Clause{c}, []impl.Clause{c, back}, []impl.Clause{front, c, back}, []impl.Clause{front, back, c}, slices.Insert(longRulebook(impl.MaxClauses-1), impl.MaxClauses-2, c))
	}
	return lists
}

// shownClauses writes the first clauses of a list for a message, with codes quoted, and cut if they are long.
func shownClauses(list []impl.Clause) string {
	texts := []string{}
	for _, c := range list[:min(len(list), impl.MaxClauses+1)] {
		texts = append(texts, shownClause(c))
	}
	return fmt.Sprintf("%d clauses %v", len(list), texts)
}

func shownClause(c impl.Clause) string {
	return fmt.Sprintf("{%.20q %d %d %d %d %d %.20q}", c.Code, c.Kind, c.Peril, c.Voluntary, c.Reasonable, c.Result, c.To)
}

func wantClause(t *testing.T, what string, got impl.Clause, code int64, want impl.Clause, wantCode int64) {
	t.Helper()
	if code != wantCode || got != want {
		t.Errorf("%s: got %s, code %d; want %s, code %d", what, shownClause(got), code, shownClause(want), wantCode)
	}
}

// isClauseByHand follows the words of the chapter.
func isClauseByHand(c impl.Clause) bool {
	for _, need := range []int64{c.Peril, c.Voluntary, c.Reasonable} {
		if !slices.Contains([]int64{0, 1, 2}, need) {
			return false
		}
	}
	leads := c.Result == 3 && codePattern.MatchString(c.To)
	decides := slices.Contains([]int64{0, 1, 2}, c.Result) && c.To == ""
	return codePattern.MatchString(c.Code) && slices.Contains([]int64{-1, 0, 1, 2, 3, 4, 5, 6}, c.Kind) && (leads || decides)
}

// isRulebookByHand keeps the place of each code.
func isRulebookByHand(list []impl.Clause) bool {
	if len(list) < 1 || len(list) > 12 {
		return false
	}
	places := map[string]int{}
	for i, c := range list {
		if _, twice := places[c.Code]; twice || !isClauseByHand(c) {
			return false
		}
		places[c.Code] = i
	}
	for i, c := range list {
		if place, found := places[c.To]; c.Result == 3 && (!found || place <= i) {
			return false
		}
	}
	last := list[len(list)-1]
	return last.Kind == -1 && last.Peril == 0 && last.Voluntary == 0 && last.Reasonable == 0 && last.Result != 3
}

func isMetByHand(need int64, truth bool) bool {
	return need == 0 || need == 1 && truth || need == 2 && !truth
}

func matchesByHand(c impl.Clause, e impl.Event) bool {
	return (c.Kind == -1 || c.Kind == e.Kind) && isMetByHand(c.Peril, e.Peril) && isMetByHand(c.Voluntary, e.Voluntary) && isMetByHand(c.Reasonable, e.Reasonable)
}

// chainByHand has the places of the chain of chapter 11, from a place on.
func chainByHand(list []impl.Clause, from int, e impl.Event) []int {
	for place := from; place < len(list); place++ {
		c := list[place]
		if !matchesByHand(c, e) {
			continue
		}
		if c.Result != impl.ResultGo {
			return []int{place}
		}
		next := slices.IndexFunc(list, func(other impl.Clause) bool { return other.Code == c.To })
		return append([]int{place}, chainByHand(list, next, e)...)
	}
	panic("no clause matches")
}

// reachableByHand has the codes of all clauses that are in chains.
func reachableByHand(list []impl.Clause) map[string]bool {
	codes := map[string]bool{}
	for _, e := range allShapes() {
		for _, place := range chainByHand(list, 0, e) {
			codes[list[place].Code] = true
		}
	}
	return codes
}

// allShapes has an event of each kind with all truths; what else they have differs.
func allShapes() []impl.Event {
	list := []impl.Event{}
	for kind := range int64(7) {
		for i, letters := range allLetters {
			list = append(list, event(int64(i)*5000, kind, []string{"a", "corn", "zzzzzz"}[i%3], kind*int64(i), letters))
		}
	}
	return list
}

// allNeeds are the third parts of the texts of clauses.
func allNeeds() []string {
	return slices.DeleteFunc(textsUpTo(3, "*", "+", "-"), func(s string) bool { return len(s) < 3 })
}

func anyClause(random *rand.Rand, code string) impl.Clause {
	kinds := []int64{-1, -1, -1, 0, 1, 2, 3, 4, 5, 6}
	need := func() int64 { return []int64{0, 0, 1, 2}[random.IntN(4)] }
	return impl.Clause{Code: code, Kind: kinds[random.IntN(10)], Peril: need(), Voluntary: need(), Reasonable: need(), Result: random.Int64N(3)}
}

// anyRulebook often has clauses that lead on, and some that are in no chain.
func anyRulebook(random *rand.Rand, count int) []impl.Clause {
	list, taken := []impl.Clause{}, map[string]bool{}
	for len(list) < count {
		if code := anyPartyCode(random); !taken[code] {
			taken[code] = true
			list = append(list, anyClause(random, code))
		}
	}
	for i := range count - 1 {
		if random.IntN(2) == 0 {
			list[i].Result, list[i].To = impl.ResultGo, list[i+1+random.IntN(count-1-i)].Code
		}
	}
	list[count-1] = impl.Clause{Code: list[count-1].Code, Kind: -1, Result: random.Int64N(3)}
	return list
}

func TestConstantsOfClauses(t *testing.T) {
	if impl.MaxClauses != 12 {
		t.Error(impl.MaxClauses)
	}
	for i, result := range []int64{impl.ResultGeneral, impl.ResultParticular, impl.ResultRejected, impl.ResultGo} {
		if result != int64(i) {
			t.Errorf("result %d is %d", i, result)
		}
	}
	for i, need := range []int64{impl.NeedNothing, impl.NeedTrue, impl.NeedFalse} {
		if need != int64(i) {
			t.Errorf("need %d is %d", i, need)
		}
	}
}

func TestIsClause(t *testing.T) {
	for _, s := range []string{"a/-1/***/0/.", "zzzzzz/6/---/2/.", "aaaaaa/0/+++/1/.", "aa/-1/+*-/0/.", "mm/3/*+-/3/a", "mm/3/-*+/3/zzzzzz", "mm/3/+-*/3/mm"} {
		if c := clause(s); !impl.IsClause(c) {
			t.Errorf("%s is a clause", shownClause(c))
		}
	}
	for _, c := range notClauses() {
		if impl.IsClause(c) {
			t.Errorf("%s is no clause", shownClause(c))
		}
	}
}

// TestIsClauseOfAllParts has all clauses with parts on both sides of their limits.
func TestIsClauseOfAllParts(t *testing.T) {
	needs := []int64{-1, 0, 1, 2, 3}
	for _, code := range []string{"", "a", "zzzzzz", "aaaaaaa", "A", "."} {
		for kind := int64(-3); kind <= 8; kind++ {
			for i := range 5 * 5 * 5 {
				for result := int64(-2); result <= 5; result++ {
					for _, to := range []string{"", "a", "zzzzzz", "aaaaaaa", "A", ".", "-"} {
						c := impl.Clause{Code: code, Kind: kind, Peril: needs[i/25], Voluntary: needs[i/5%5], Reasonable: needs[i%5], Result: result, To: to}
						if got := impl.IsClause(c); got != isClauseByHand(c) {
							t.Errorf("IsClause %s: got %t", shownClause(c), got)
						}
					}
				}
			}
		}
	}
}

func TestIsRulebook(t *testing.T) {
	for _, list := range rulebooks() {
		if !impl.IsRulebook(list) {
			t.Errorf("%s are a rulebook", shownClauses(list))
		}
	}
	for _, list := range notRulebooks() {
		if impl.IsRulebook(list) {
			t.Errorf("%s are no rulebook", shownClauses(list))
		}
	}
}

// TestIsRulebookOfAllCodes has all lists of three and of four clauses with a few codes that decide or lead
// to one of a few codes.
func TestIsRulebookOfAllCodes(t *testing.T) {
	codes, leads := []string{"a", "b", "c", "d"}, []string{"", "a", "b", "c", "d"}
	variant := func(n int) impl.Clause {
		c := impl.Clause{Code: codes[n/5], Kind: -1, To: leads[n%5]}
		if c.To != "" {
			c.Result = impl.ResultGo
		}
		return c
	}
	check := func(list []impl.Clause) {
		t.Helper()
		if got := impl.IsRulebook(list); got != isRulebookByHand(list) {
			t.Errorf("IsRulebook %s: got %t", shownClauses(list), got)
		}
	}
	for first := range 20 {
		for second := range 20 {
			for third := range 20 {
				list := []impl.Clause{variant(first), variant(second), variant(third)}
				check(list)
				check(append(list, clause("d/-1/***/0/.")))
			}
		}
	}
}

// TestIsRulebookOfLastClause has all last clauses, behind one that leads to it and alone.
func TestIsRulebookOfLastClause(t *testing.T) {
	front := clause("a/1/+**/3/z")
	for kind := -2; kind <= 7; kind++ {
		for _, needs := range allNeeds() {
			for result := range int64(4) {
				last := clause("z/-1/" + needs + "/0/.")
				last.Kind, last.Result = int64(kind), result
				if result == impl.ResultGo {
					last.To = "a"
				}
				want := kind == -1 && needs == "***" && result != impl.ResultGo
				for _, list := range [][]impl.Clause{{last}, {front, last}} {
					if got := impl.IsRulebook(list); got != want {
						t.Errorf("IsRulebook %s: got %t", shownClauses(list), got)
					}
				}
			}
		}
	}
}

func TestIsRulebookOfAnyClauses(t *testing.T) {
	random := fixedRandom()
	still := 0
	for range 5000 {
		list := anyRulebook(random, 1+random.IntN(impl.MaxClauses))
		if !impl.IsRulebook(list) {
			t.Fatalf("%s are a rulebook", shownClauses(list))
		}
		for i := range list {
			changed := slices.Clone(list)
			other := list[random.IntN(len(list))]
			switch random.IntN(6) {
			case 0:
				changed[i].Kind = random.Int64N(10) - 2
			case 1:
				changed[i].Voluntary = random.Int64N(5) - 1
			case 2:
				changed[i].Result, changed[i].To = impl.ResultGo, other.Code
			case 3:
				changed[i].Code = other.Code
			case 4:
				changed[i].To = ""
			default:
				changed[i], changed[len(list)-1-i] = changed[len(list)-1-i], changed[i]
			}
			got := impl.IsRulebook(changed)
			if got != isRulebookByHand(changed) {
				t.Fatalf("IsRulebook %s: got %t", shownClauses(changed), got)
			}
			if got {
				still++
			}
		}
	}
	if still < 5000 || still > 25000 {
		t.Errorf("%d of about 32500 changed lists are rulebooks", still)
	}
}

func TestDoesMatch(t *testing.T) {
	for _, c := range []struct {
		text    string
		kind    int64
		letters string
		want    bool
	}{
		// Kinds agree, differ, or do not matter.
		{"aa/0/***/0/.", impl.EventJettison, "-", true},
		{"aa/0/***/0/.", impl.EventFire, "-", false},
		{"aa/6/***/0/.", impl.EventDamage, "pvr", true},
		{"aa/6/***/0/.", impl.EventRepair, "pvr", false},
		{"aa/1/***/0/.", impl.EventJettison, "p", false},
		{"aa/1/***/0/.", impl.EventRefloat, "p", false},
		{"aa/-1/***/0/.", impl.EventJettison, "-", true},
		{"aa/-1/***/0/.", impl.EventTowage, "pvr", true},
		{"aa/-1/***/0/.", impl.EventDamage, "v", true},
		// One truth is needed.
		{"aa/-1/+**/0/.", 3, "p", true},
		{"aa/-1/+**/0/.", 3, "vr", false},
		{"aa/-1/-**/0/.", 3, "vr", true},
		{"aa/-1/-**/0/.", 3, "p", false},
		{"aa/-1/*+*/0/.", 3, "v", true},
		{"aa/-1/*+*/0/.", 3, "pr", false},
		{"aa/-1/*-*/0/.", 3, "pr", true},
		{"aa/-1/*-*/0/.", 3, "v", false},
		{"aa/-1/**+/0/.", 3, "r", true},
		{"aa/-1/**+/0/.", 3, "pv", false},
		{"aa/-1/**-/0/.", 3, "pv", true},
		{"aa/-1/**-/0/.", 3, "r", false},
		// All truths are needed, and one of them differs.
		{"aa/3/+-+/0/.", 3, "pr", true},
		{"aa/3/+-+/0/.", 3, "r", false},
		{"aa/3/+-+/0/.", 3, "pvr", false},
		{"aa/3/+-+/0/.", 3, "p", false},
		{"aa/3/+-+/0/.", 2, "pr", false},
		{"aa/3/---/0/.", 3, "-", true},
		{"aa/3/+++/0/.", 3, "pvr", true},
		// The Result and To do not matter.
		{"aa/3/+-*/1/.", 3, "pr", true},
		{"aa/3/+-*/2/.", 3, "p", true},
		{"aa/3/+-*/3/zz", 3, "p", true},
		{"aa/3/+-*/3/aa", 3, "v", false},
	} {
		got, code := impl.DoesMatch(clause(c.text), event(20000, c.kind, "corn", 5, c.letters))
		wantBool(t, fmt.Sprintf("DoesMatch %s, kind %d, %s", c.text, c.kind, c.letters), got, code, c.want, impl.ErrNone)
	}
}

// TestDoesMatchOfAllShapes has all kinds and needs of clauses beside all shapes of events.
func TestDoesMatchOfAllShapes(t *testing.T) {
	for kind := -1; kind <= 6; kind++ {
		for i, needs := range allNeeds() {
			c := clause(fmt.Sprintf("%s/%d/%s/%s", clauseCode(i), kind, needs, []string{"0/.", "1/.", "2/.", "3/mm"}[i%4]))
			for _, e := range allShapes() {
				got, code := impl.DoesMatch(c, e)
				wantBool(t, "DoesMatch "+shownClause(c)+" "+shownEvent(e), got, code, matchesByHand(c, e), impl.ErrNone)
			}
		}
	}
}

func TestDoesMatchErrors(t *testing.T) {
	bad := []impl.Event{{}, eventOn(-1), event(5, -1, "mm", 5, "p"), event(5, 7, "mm", 5, "p"), event(5, 1, "", 5, "p"), event(5, 1, "mm", -1, "p")}
	for _, c := range notClauses() {
		for _, e := range append(allShapes(), bad...) {
			got, code := impl.DoesMatch(c, e)
			wantBool(t, "DoesMatch "+shownClause(c)+" "+shownEvent(e), got, code, false, impl.ErrInvalid)
		}
	}
	for _, s := range []string{"aa/-1/***/0/.", "aa/3/***/0/.", "aa/1/+**/3/zz", "aa/0/---/0/."} {
		for _, e := range notEvents() {
			got, code := impl.DoesMatch(clause(s), e)
			wantBool(t, "DoesMatch "+s+" "+shownEvent(e), got, code, false, impl.ErrInvalid)
		}
	}
}

func TestFindClause(t *testing.T) {
	for _, c := range []struct {
		code string
		want int64
	}{
		{"fire", 0}, {"jet", 1}, {"dead", 2}, {"ref", 3}, {"stop", 4}, {"mer", 5}, {"m", 6}, {"rea", 7}, {"none", 8}, {"last", 9},
	} {
		got, code := impl.FindClause(sampleRulebook(), c.code)
		wantInt(t, "FindClause "+c.code, got, code, c.want, impl.ErrNone)
	}
	// Codes that begin like those that occur, or are their beginnings, and other ones.
	for _, s := range append([]string{"a", "zzzzzz", "fir", "fires", "me", "mere", "r", "re", "las", "lasts", "firela", "nonela"}, notPartyCodes...) {
		got, code := impl.FindClause(sampleRulebook(), s)
		wantInt(t, fmt.Sprintf("FindClause %.20q", s), got, code, 0, impl.ErrNotFound)
	}
}

func TestFindClauseOfAllRulebooks(t *testing.T) {
	for _, list := range rulebooks() {
		for i, c := range list {
			got, code := impl.FindClause(list, c.Code)
			wantInt(t, "FindClause "+c.Code+" of "+shownClauses(list), got, code, int64(i), impl.ErrNone)
		}
		for _, s := range []string{"", "nocode", "q", ".", "-1"} {
			got, code := impl.FindClause(list, s)
			wantInt(t, fmt.Sprintf("FindClause %q of %s", s, shownClauses(list)), got, code, 0, impl.ErrNotFound)
		}
	}
}

func TestFirstMatch(t *testing.T) {
	for _, c := range []struct {
		from    int64
		kind    int64
		letters string
		want    int64
	}{
		// At from itself.
		{0, impl.EventFire, "-", 0},
		{1, impl.EventJettison, "pv", 1},
		{2, impl.EventJettison, "pvr", 2},
		{5, impl.EventJettison, "p", 5},
		{6, impl.EventFire, "v", 6},
		{7, impl.EventTowage, "r", 7},
		// Behind from.
		{0, impl.EventJettison, "pv", 1},
		{0, impl.EventRefloat, "pvr", 3},
		{0, impl.EventDamage, "p", 5},
		{1, impl.EventFire, "p", 5},
		{1, impl.EventFire, "v", 6},
		{1, impl.EventFire, "r", 7},
		{2, impl.EventJettison, "pv", 5},
		{6, impl.EventFire, "vr", 7},
		{8, impl.EventFire, "pr", 8},
		// At the last clause, which is from too.
		{0, impl.EventJettison, "v", 9},
		{0, impl.EventDamage, "-", 9},
		{4, impl.EventRefloat, "v", 9},
		{8, impl.EventFire, "p", 9},
		{9, impl.EventFire, "pvr", 9},
		{9, impl.EventJettison, "-", 9},
	} {
		got, code := impl.FirstMatch(sampleRulebook(), c.from, event(20000, c.kind, "corn", 5, c.letters))
		wantInt(t, fmt.Sprintf("FirstMatch from %d, kind %d, %s", c.from, c.kind, c.letters), got, code, c.want, impl.ErrNone)
	}
}

// checkMatches finds the first match of all events in a rulebook, from all places on.
func checkMatches(t *testing.T, list []impl.Clause, events []impl.Event) {
	t.Helper()
	for _, e := range events {
		for from := range list {
			want := from
			for !matchesByHand(list[want], e) {
				want++
			}
			got, code := impl.FirstMatch(list, int64(from), e)
			wantInt(t, fmt.Sprintf("FirstMatch of %s from %d in %s", shownEvent(e), from, shownClauses(list)), got, code, int64(want), impl.ErrNone)
		}
	}
}

func TestFirstMatchByHand(t *testing.T) {
	for _, list := range rulebooks() {
		checkMatches(t, list, allShapes())
	}
	random := fixedRandom()
	for range 10000 {
		checkMatches(t, anyRulebook(random, 1+random.IntN(impl.MaxClauses)), []impl.Event{anyEvent(random, 500), anyEvent(random, 500)})
	}
}

// TestFirstMatchBeyond has numbers that are no index of a clause; an event that is none comes first.
func TestFirstMatchBeyond(t *testing.T) {
	for _, list := range rulebooks() {
		count := int64(len(list))
		for _, from := range slices.Concat([]int64{-1, -2, count, count + 1, impl.MaxClauses, 1<<8 + 12, -count, -1 << 8}, farInts) {
			for _, e := range []impl.Event{eventOn(5), event(0, 0, "a", 0, "-"), event(greatestDay, 6, "zzzzzz", impl.MaxAmount, "pvr")} {
				got, code := impl.FirstMatch(list, from, e)
				wantInt(t, fmt.Sprintf("FirstMatch from %d in %s", from, shownClauses(list)), got, code, 0, impl.ErrRange)
			}
			for _, e := range []impl.Event{{}, eventOn(-1), event(5, 7, "mm", 5, "p"), event(5, -1, "mm", 5, "p")} {
				got, code := impl.FirstMatch(list, from, e)
				wantInt(t, fmt.Sprintf("FirstMatch of %s from %d in %s", shownEvent(e), from, shownClauses(list)), got, code, 0, impl.ErrInvalid)
			}
		}
	}
}

func TestFirstMatchOfNoEvent(t *testing.T) {
	for _, list := range [][]impl.Clause{sampleRulebook(), clauses(forAll), longRulebook(impl.MaxClauses)} {
		for _, e := range notEvents() {
			for _, from := range []int64{0, int64(len(list)) - 1} {
				got, code := impl.FirstMatch(list, from, e)
				wantInt(t, "FirstMatch of "+shownEvent(e), got, code, 0, impl.ErrInvalid)
			}
		}
	}
}

// TestLastClauseMatchesAllEvents is promise 10.
func TestLastClauseMatchesAllEvents(t *testing.T) {
	check := func(list []impl.Clause, events []impl.Event) {
		t.Helper()
		last := len(list) - 1
		for _, e := range events {
			matched, code := impl.DoesMatch(list[last], e)
			wantBool(t, "DoesMatch of the last of "+shownClauses(list)+" "+shownEvent(e), matched, code, true, impl.ErrNone)
			got, code := impl.FirstMatch(list, int64(last), e)
			wantInt(t, "FirstMatch from the last of "+shownClauses(list), got, code, int64(last), impl.ErrNone)
			// So there is a match from the beginning on too.
			got, code = impl.FirstMatch(list, 0, e)
			if code != impl.ErrNone || got < 0 || got > int64(last) {
				t.Errorf("FirstMatch of %s in %s: got %d, code %d", shownEvent(e), shownClauses(list), got, code)
			}
		}
	}
	for _, list := range rulebooks() {
		check(list, allShapes())
	}
	random := fixedRandom()
	for range 1000 {
		list := anyRulebook(random, 1+random.IntN(impl.MaxClauses))
		check(list, append(allShapes(), anyEvent(random, 0), anyEvent(random, greatestDay)))
	}
	// Whatever the last clause is: where one event is not matched, the list is no rulebook.
	for range 20000 {
		list := anyRulebook(random, 1+random.IntN(4))
		list[len(list)-1] = anyClause(random, "last")
		if impl.IsRulebook(list) {
			check(list, allShapes())
		}
	}
}

func TestIsReachable(t *testing.T) {
	for _, c := range []struct {
		texts     string
		reachable string
	}{
		{"a/-1/***/0/.", "a"},
		{"aa/-1/+++/0/. bb/6/***/1/. cc/-1/***/2/.", "aa bb cc"},
		// An earlier clause matches all that a later one matches.
		{"a/-1/***/0/. z/-1/***/2/.", "a"},
		{"a/1/***/0/. b/1/***/1/. z/-1/***/2/.", "a z"},
		{"a/1/***/0/. b/1/+-+/1/. z/-1/***/2/.", "a z"},
		{"a/-1/+**/0/. b/4/+-+/1/. z/-1/***/2/.", "a z"},
		{"a/1/+-+/0/. b/1/***/1/. z/-1/***/2/.", "a b z"},
		{"a/1/***/0/. b/2/***/1/. z/-1/***/2/.", "a b z"},
		// Several earlier clauses together do.
		{"a/1/+**/0/. b/1/-**/0/. c/1/***/1/. z/-1/***/2/.", "a b z"},
		{"a/1/*+*/0/. b/1/*-*/0/. c/1/***/1/. z/-1/***/2/.", "a b z"},
		{"a/-1/**+/0/. b/-1/**-/0/. z/-1/***/2/.", "a b"},
		{"a/0/***/0/. b/1/***/0/. c/2/***/0/. d/3/***/0/. e/4/***/0/. f/5/***/0/. g/6/***/0/. z/-1/***/2/.", "a b c d e f g"},
		{"a/0/***/0/. b/1/***/0/. c/2/***/0/. e/4/***/0/. f/5/***/0/. g/6/***/0/. z/-1/***/2/.", "a b c e f g z"},
		// A clause that leads on takes its events past others.
		{"a/1/***/3/c b/1/***/0/. c/1/***/1/. z/-1/***/2/.", "a c z"},
		{"a/-1/***/3/c b/-1/***/0/. c/2/***/1/. z/-1/***/2/.", "a c z"},
		{"a/-1/***/3/z b/-1/***/0/. c/2/***/1/. z/-1/***/2/.", "a z"},
		{"a/1/***/3/z b/2/***/3/z c/-1/***/1/. z/-1/***/2/.", "a b c z"},
		{"a/-1/***/3/c b/-1/***/3/c c/-1/***/0/. z/-1/***/2/.", "a c"},
		// The clause of a To does not match what is led to it, and one behind it does.
		{"a/1/***/3/c b/-1/***/0/. c/2/***/1/. d/1/***/0/. z/-1/***/2/.", "a b d"},
		{"a/-1/+**/3/c b/-1/***/0/. c/-1/-**/1/. z/-1/***/2/.", "a b z"},
		{"a/-1/+**/3/c b/-1/***/0/. c/-1/*+*/1/. z/-1/***/2/.", "a b c z"},
		{"a/4/***/3/b b/5/***/3/c c/-1/***/0/. z/-1/***/2/.", "a b c"},
		// A clause is in chains only because a To leads to it, or before it.
		{"a/1/***/3/c b/-1/***/0/. c/-1/***/1/. z/-1/***/2/.", "a b c"},
		{"a/1/+**/3/d b/1/***/0/. c/-1/***/0/. d/1/*+*/1/. z/-1/***/2/.", "a b c d z"},
		{"a/1/***/3/b b/1/+**/3/c c/1/*+*/3/d d/1/**+/3/e e/1/+++/0/. z/-1/***/2/.", "a b c d e z"},
		{"a/1/***/3/b b/1/+**/3/c c/1/*+*/3/d d/1/**+/3/e e/1/++-/0/. z/-1/***/2/.", "a b c d e z"},
		{"a/1/***/3/b b/1/+**/3/c c/1/*+*/3/d d/1/-*+/3/e e/1/+++/0/. z/-1/***/2/.", "a b c d e z"},
		{"a/1/***/3/b b/1/+++/3/c c/1/***/0/. d/1/***/0/. z/-1/***/2/.", "a b c z"},
		{"a/1/+**/3/c b/-1/+**/3/d c/1/*+*/0/. d/1/+**/0/. z/-1/***/2/.", "a b c d z"},
		// No To leads before a clause, but only behind it.
		{"a/-1/***/3/e b/1/***/3/d c/2/***/0/. d/-1/***/0/. e/-1/***/2/.", "a e"},
		{"a/1/***/3/e b/1/***/3/d c/1/***/0/. d/1/***/0/. e/-1/***/2/.", "a e"},
	} {
		list := clauses(c.texts)
		for _, other := range list {
			got, code := impl.IsReachable(list, other.Code)
			wantBool(t, "IsReachable "+other.Code+" of "+c.texts, got, code, slices.Contains(strings.Fields(c.reachable), other.Code), impl.ErrNone)
		}
	}
}

func TestIsReachableInSample(t *testing.T) {
	list := sampleRulebook()
	for _, c := range list {
		got, code := impl.IsReachable(list, c.Code)
		wantBool(t, "IsReachable "+c.Code, got, code, !slices.Contains([]string{"dead", "stop", "none"}, c.Code), impl.ErrNone)
	}
	for _, s := range append([]string{"a", "zzzzzz", "fir", "fires", "las", "lasts", "."}, notPartyCodes...) {
		got, code := impl.IsReachable(list, s)
		wantBool(t, fmt.Sprintf("IsReachable %.20q", s), got, code, false, impl.ErrNotFound)
	}
}

// TestIsReachableByOneShape has clauses that only one shape of events reaches, for each shape, and such that
// none does.
func TestIsReachableByOneShape(t *testing.T) {
	for _, e := range allShapes() {
		needs, others := "", []string{}
		for place, truth := range []bool{e.Peril, e.Voluntary, e.Reasonable} {
			need, other := "-", "+"
			if truth {
				need, other = "+", "-"
			}
			needs += need
			others = append(others, fmt.Sprintf("%s/-1/%s/0/.", []string{"p", "v", "r"}[place], strings.Repeat("*", place)+other+strings.Repeat("*", 2-place)))
		}
		only := fmt.Sprintf("only/%d/%s/0/.", e.Kind, needs)
		for kind := range int64(7) {
			if kind != e.Kind {
				others = append(others, fmt.Sprintf("%s/%d/***/0/.", clauseCode(int(kind)), kind))
			}
		}
		for _, c := range []struct {
			texts string
			code  string
			want  bool
		}{
			{only + " " + forAll, "only", true},
			{strings.Join(others, " ") + " " + forAll, "last", true},
			{strings.Join(others, " ") + " " + only + " " + forAll, "only", true},
			{strings.Join(others, " ") + " " + only + " " + forAll, "last", false},
			{strings.Replace(only, "0/.", "3/to", 1) + " " + strings.Join(others, " ") + " to/-1/***/0/. " + forAll, "to", true},
			{strings.Replace(only, "0/.", "3/last", 1) + " " + strings.Join(others, " ") + " to/-1/***/0/. " + forAll, "to", false},
		} {
			got, code := impl.IsReachable(clauses(c.texts), c.code)
			wantBool(t, "IsReachable "+c.code+" of "+c.texts, got, code, c.want, impl.ErrNone)
		}
	}
}

func TestIsReachableByHand(t *testing.T) {
	reached, all := 0, 0
	check := func(list []impl.Clause) {
		t.Helper()
		codes := reachableByHand(list)
		for _, c := range list {
			got, code := impl.IsReachable(list, c.Code)
			wantBool(t, "IsReachable "+c.Code+" of "+shownClauses(list), got, code, codes[c.Code], impl.ErrNone)
		}
		got, code := impl.IsReachable(list, "nocode")
		wantBool(t, "IsReachable nocode of "+shownClauses(list), got, code, false, impl.ErrNotFound)
		reached += len(codes)
		all += len(list)
	}
	for _, list := range rulebooks() {
		check(list)
	}
	random := fixedRandom()
	for range 5000 {
		check(anyRulebook(random, 1+random.IntN(impl.MaxClauses)))
	}
	if reached < all/4 || reached > all*9/10 {
		t.Errorf("%d of %d clauses are reachable", reached, all)
	}
}

// TestNoRulebook has lists that are no rulebook beside arguments that would be wrong too: ErrInvalid is
// first.
func TestNoRulebook(t *testing.T) {
	for _, list := range notRulebooks() {
		codes := []string{"a", "z", "mm", "last", "nocode", "", "A", strings.Repeat("a", 1000)}
		for _, c := range list[:min(len(list), 3)] {
			codes = append(codes, c.Code, c.To)
		}
		for _, s := range codes {
			place, code := impl.FindClause(list, s)
			wantInt(t, fmt.Sprintf("FindClause %.20q of %s", s, shownClauses(list)), place, code, 0, impl.ErrInvalid)
			reached, code := impl.IsReachable(list, s)
			wantBool(t, fmt.Sprintf("IsReachable %.20q of %s", s, shownClauses(list)), reached, code, false, impl.ErrInvalid)
		}
		for _, from := range []int64{0, 1, int64(len(list)) - 1, int64(len(list)), -1, 255, math.MinInt64, math.MaxInt64} {
			for _, e := range []impl.Event{eventOn(5), event(5, 0, "a", 0, "pvr"), {}, eventOn(-1)} {
				got, code := impl.FirstMatch(list, from, e)
				wantInt(t, fmt.Sprintf("FirstMatch from %d in %s", from, shownClauses(list)), got, code, 0, impl.ErrInvalid)
			}
		}
	}
}

// clauseText follows the words of the chapter.
func clauseText(c impl.Clause) string {
	character := map[int64]string{0: "*", 1: "+", 2: "-"}
	to := c.To
	if to == "" {
		to = "."
	}
	return fmt.Sprintf("%s/%d/%s%s%s/%d/%s", c.Code, c.Kind, character[c.Peril], character[c.Voluntary], character[c.Reasonable], c.Result, to)
}

func TestClauseText(t *testing.T) {
	for _, c := range []struct {
		c    impl.Clause
		want string
	}{
		{impl.Clause{Code: "aa", Kind: -1, Peril: impl.NeedTrue, Reasonable: impl.NeedFalse}, "aa/-1/+*-/0/."},
		{impl.Clause{Code: "aa", Kind: -1, Peril: impl.NeedTrue, Voluntary: impl.NeedTrue, Reasonable: impl.NeedTrue}, "aa/-1/+++/0/."},
		{impl.Clause{Code: "a", Kind: 0}, "a/0/***/0/."},
		{impl.Clause{Code: "a", Kind: -1}, "a/-1/***/0/."},
		{impl.Clause{Code: "zzzzzz", Kind: impl.EventDamage, Peril: impl.NeedFalse, Voluntary: impl.NeedFalse, Reasonable: impl.NeedFalse, Result: impl.ResultGo, To: "yyyyyy"}, "zzzzzz/6/---/3/yyyyyy"},
		{impl.Clause{Code: "b", Kind: 1, Peril: impl.NeedTrue, Result: impl.ResultParticular}, "b/1/+**/1/."},
		{impl.Clause{Code: "b", Kind: 2, Voluntary: impl.NeedTrue, Result: impl.ResultRejected}, "b/2/*+*/2/."},
		{impl.Clause{Code: "b", Kind: 3, Reasonable: impl.NeedTrue, Result: impl.ResultGo, To: "c"}, "b/3/**+/3/c"},
		{impl.Clause{Code: "b", Kind: 4, Peril: impl.NeedFalse, Result: impl.ResultGo, To: "a"}, "b/4/-**/3/a"},
		{impl.Clause{Code: "b", Kind: 5, Voluntary: impl.NeedFalse}, "b/5/*-*/0/."},
		{impl.Clause{Code: "b", Kind: 6, Reasonable: impl.NeedFalse}, "b/6/**-/0/."},
		// A clause that leads to its own code is a clause, though in no rulebook.
		{impl.Clause{Code: "b", Kind: 6, Result: impl.ResultGo, To: "b"}, "b/6/***/3/b"},
	} {
		got, code := impl.ClauseText(c.c)
		wantText(t, "ClauseText "+shownClause(c.c), got, code, c.want, impl.ErrNone)
		read, code := impl.ReadClause(c.want)
		wantClause(t, "ReadClause "+c.want, read, code, c.c, impl.ErrNone)
	}
	for _, c := range notClauses() {
		got, code := impl.ClauseText(c)
		wantText(t, "ClauseText "+shownClause(c), got, code, "", impl.ErrInvalid)
	}
}

// TestClausesAreRecovered is promise 1 for clauses.
func TestClausesAreRecovered(t *testing.T) {
	random := fixedRandom()
	texts := map[string]impl.Clause{}
	check := func(c impl.Clause) {
		t.Helper()
		text, code := impl.ClauseText(c)
		wantText(t, "ClauseText "+shownClause(c), text, code, clauseText(c), impl.ErrNone)
		got, code := impl.ReadClause(text)
		wantClause(t, "ReadClause "+text, got, code, c, impl.ErrNone)
		if other, known := texts[text]; known && other != c {
			t.Errorf("%q is the text of %s and of %s", text, shownClause(c), shownClause(other))
		}
		texts[text] = c
	}
	codes := []string{"a", "z", "aa", "corn", "aaaaaa", "zzzzzz", anyPartyCode(random), anyPartyCode(random)}
	for kind := int64(-1); kind <= 6; kind++ {
		for i := range int64(27) {
			for _, code := range codes {
				for result := range int64(3) {
					check(impl.Clause{Code: code, Kind: kind, Peril: i / 9, Voluntary: i / 3 % 3, Reasonable: i % 3, Result: result})
				}
				for _, to := range codes {
					check(impl.Clause{Code: code, Kind: kind, Peril: i / 9, Voluntary: i / 3 % 3, Reasonable: i % 3, Result: impl.ResultGo, To: to})
				}
			}
		}
	}
	for range 5000 {
		for _, c := range anyRulebook(random, 1+random.IntN(impl.MaxClauses)) {
			check(c)
		}
	}
}

func TestReadClauseErrors(t *testing.T) {
	texts := []string{
		// Slashes are missing, doubled, or too many.
		"", "/", "//", "///", "////", "/////", ".", "*", "***", "//***//", "//***//.", "////.", "aa", "aa/-1", "aa/-1/+*-", "aa/-1/+*-/0", "aa/-1/+*-/0/", "/-1/+*-/0/.", "aa//+*-/0/.", "aa/-1//0/.", "aa/-1/+*-//.",
		"aa-1/+*-/0/.", "aa/-1+*-/0/.", "aa/-1/+*-0/.", "aa/-1/+*-/0.", "aa/+*-/0/.", "-1/+*-/0/.", "aa/-1/0/.", "aa/-1/+*-/.", "aa/-1/+*-/3b",
		"aa//-1/+*-/0/.", "aa/-1//+*-/0/.", "aa/-1/+*-//0/.", "aa/-1/+*-/0//.", "/aa/-1/+*-/0/.", "aa/-1/+*-/0/./", "aa/-1/+*-/0/./.", "aa/-1/+*-/3/b/", "aa/-1/+*-/3/b/c", "aa/-1/+*-/3//b", "aa/-1/+*-/3/b/.", "a/a/-1/+*-/0/.", "aa/-1/+/*/-/0/.", "aa/-1/+*/-/0/.", "aa\\-1\\+*-\\0\\.", "aa -1 +*- 0 .", "aa/-1/+*-/0|.",
		// A code is none.
		"Aa/-1/+*-/0/.", "AA/-1/+*-/0/.", "a1/-1/+*-/0/.", "aaaaaaa/-1/+*-/0/.", "./-1/+*-/0/.", "-/-1/+*-/0/.", "*/-1/+*-/0/.", "a-a/-1/+*-/0/.", "a\xff/-1/+*-/0/.", "caf\u00e9/-1/+*-/0/.", "0/-1/+*-/0/.", strings.Repeat("a", 100000) + "/-1/+*-/0/.",
		// A kind has superfluous zeros or signs, is none, or is no number.
		"aa/00/+*-/0/.", "aa/01/+*-/0/.", "aa/006/+*-/0/.", "aa/-01/+*-/0/.", "aa/+0/+*-/0/.", "aa/-0/+*-/0/.", "aa/+1/+*-/0/.", "aa/+6/+*-/0/.", "aa/+-1/+*-/0/.", "aa/--1/+*-/0/.", "aa/-+1/+*-/0/.", "aa/-2/+*-/0/.", "aa/7/+*-/0/.", "aa/8/+*-/0/.", "aa/10/+*-/0/.", "aa/66/+*-/0/.", "aa/-10/+*-/0/.", "aa/-/+*-/0/.", "aa/+/+*-/0/.", "aa/*/+*-/0/.", "aa/./+*-/0/.",
		"aa/0.0/+*-/0/.", "aa/1e0/+*-/0/.", "aa/0x1/+*-/0/.", "aa/0_1/+*-/0/.", "aa/a/+*-/0/.", "aa/fire/+*-/0/.", "aa/255/+*-/0/.", "aa/256/+*-/0/.", "aa/4294967295/+*-/0/.", "aa/4294967296/+*-/0/.", "aa/9223372036854775807/+*-/0/.", "aa/9223372036854775808/+*-/0/.", "aa/-9223372036854775808/+*-/0/.", "aa/-9223372036854775809/+*-/0/.", "aa/18446744073709551615/+*-/0/.", "aa/18446744073709551616/+*-/0/.", "aa/\u0663/+*-/0/.", "aa/\u22121/+*-/0/.", "aa/\xff/+*-/0/.", "aa/3\x00/+*-/0/.", "aa/" + strings.Repeat("0", 100000) + "/+*-/0/.", "aa/-" + strings.Repeat("0", 100000) + "1/+*-/0/.",
		// There are fewer or more than three needs, or other characters.
		"aa/-1/+/0/.", "aa/-1/+*/0/.", "aa/-1/*-/0/.", "aa/-1/**/0/.", "aa/-1/+*-*/0/.", "aa/-1/****/0/.", "aa/-1/*+*-/0/.", "aa/-1/+*-+*-/0/.", "aa/-1/+*./0/.", "aa/-1/.*-/0/.", "aa/-1/+.-/0/.", "aa/-1/.../0/.", "aa/-1/pvr/0/.", "aa/-1/012/0/.", "aa/-1/120/0/.", "aa/-1/000/0/.", "aa/-1/1/0/.", "aa/-1/+x-/0/.", "aa/-1/+ -/0/.", "aa/-1/+?-/0/.", "aa/-1/+_-/0/.", "aa/-1/+~-/0/.", "aa/-1/+,-/0/.", "aa/-1/   /0/.", "aa/-1/\x00\x00\x00/0/.", "aa/-1/\x00\x01\x02/0/.", "aa/-1/\xff\xff\xff/0/.", "aa/-1/+*\xff/0/.",
		"aa/-1/+*\u2212/0/.", "aa/-1/\u2212/0/.", "aa/-1/\uff0b*-/0/.", "aa/-1/\uff0b/0/.", "aa/-1/+\u00d7/0/.", "aa/-1/\u2217/0/.", "aa/-1/" + strings.Repeat("*", 100000) + "/0/.", "aa/-1/" + strings.Repeat("+*-", 100000) + "/0/.",
		// A result has superfluous zeros or signs, is none, or is no number.
		"aa/-1/+*-/00/.", "aa/-1/+*-/01/.", "aa/-1/+*-/002/.", "aa/-1/+*-/+0/.", "aa/-1/+*-/-0/.", "aa/-1/+*-/+1/.", "aa/-1/+*-/+2/.", "aa/-1/+*-/+3/b", "aa/-1/+*-/03/b", "aa/-1/+*-/-3/b", "aa/-1/+*-/-1/.", "aa/-1/+*-/-1/b", "aa/-1/+*-/4/.", "aa/-1/+*-/4/b", "aa/-1/+*-/5/.", "aa/-1/+*-/10/.", "aa/-1/+*-/-/.", "aa/-1/+*-/./.", "aa/-1/+*-/*/.",
		"aa/-1/+*-/0.0/.", "aa/-1/+*-/1e0/.", "aa/-1/+*-/0x1/.", "aa/-1/+*-/0_1/.", "aa/-1/+*-/a/.", "aa/-1/+*-/go/b", "aa/-1/+*-/256/.", "aa/-1/+*-/259/b", "aa/-1/+*-/4294967296/.", "aa/-1/+*-/4294967299/b", "aa/-1/+*-/9223372036854775807/.", "aa/-1/+*-/9223372036854775808/.", "aa/-1/+*-/-9223372036854775808/.", "aa/-1/+*-/18446744073709551616/.", "aa/-1/+*-/18446744073709551619/b", "aa/-1/+*-/\u0663/b", "aa/-1/+*-/\xff/.", "aa/-1/+*-/0\x00/.", "aa/-1/+*-/" + strings.Repeat("0", 100000) + "/.", "aa/-1/+*-/" + strings.Repeat("0", 100000) + "3/b",
		// To is not as the result needs it, or no code.
		"aa/-1/+*-/0/..", "aa/-1/+*-/1/..", "aa/-1/+*-/0/b", "aa/-1/+*-/1/b", "aa/-1/+*-/2/b", "aa/-1/+*-/0/aa", "aa/-1/+*-/0/-", "aa/-1/+*-/0/*", "aa/-1/+*-/0/0", "aa/-1/+*-/0/,", "aa/-1/+*-/0/.b", "aa/-1/+*-/0/b.", "aa/-1/+*-/0/...", "aa/-1/+*-/0/\u2024", "aa/-1/+*-/0/\uff0e",
		"aa/-1/+*-/3/", "aa/-1/+*-/3/.", "aa/-1/+*-/3/..", "aa/-1/+*-/3/.b", "aa/-1/+*-/3/b.", "aa/-1/+*-/3/-", "aa/-1/+*-/3/B", "aa/-1/+*-/3/b1", "aa/-1/+*-/3/bbbbbbb", "aa/-1/+*-/3/0", "aa/-1/+*-/3/b\xff", "aa/-1/+*-/3/caf\u00e9", "aa/-1/+*-/1/", "aa/-1/+*-/2/", "aa/-1/+*-/3/" + strings.Repeat("b", 100000), "aa/-1/+*-/0/" + strings.Repeat(".", 100000), "aa/-1/+*-/0/." + strings.Repeat("/", 100000),
		// Parts are in another order.
		"-1/aa/+*-/0/.", "aa/+*-/-1/0/.", "aa/-1/0/+*-/.", "aa/-1/+*-/./0", "aa/-1/+*-/b/3", "./0/+*-/-1/aa", "b/-1/+*-/aa/3",
		// There are blanks or other bytes before, behind or inside.
		" aa/-1/+*-/0/.", "aa/-1/+*-/0/. ", "aa /-1/+*-/0/.", "aa/ -1/+*-/0/.", "aa/-1 /+*-/0/.", "aa/- 1/+*-/0/.", "aa/-1/ +*-/0/.", "aa/-1/+*- /0/.", "aa/-1/+* -/0/.", "aa/-1/+*-/ 0/.", "aa/-1/+*-/0 /.", "aa/-1/+*-/0/ .", "a a/-1/+*-/0/.", "aa/-1/+*-/3/ b", "aa/-1/+*-/3/b ", "aa/-1/+*-/0/ ", "aa/-1/+*-/3/ ", "    /   /   /  / ", " / / / / ",
		"\naa/-1/+*-/0/.", "aa/-1/+*-/0/.\n", "aa\n/-1/+*-/0/.", "aa/-1\n/+*-/0/.", "\taa/-1/+*-/0/.", "aa/-1/+*-/0/.\t", "aa/-1/+*-/0/.\r", "aa/-1/+*-/0/.\x00", "\x00aa/-1/+*-/0/.", "\ufeffaa/-1/+*-/0/.", "aa/-1/+*-/0/.\u00a0",
		strings.Repeat("aa/-1/+*-/0/.", 10000), strings.Repeat("/", 100000), strings.Repeat("*", 100000), strings.Repeat(".", 100000), strings.Repeat("\xff", 100000),
	}
	for _, s := range texts {
		got, code := impl.ReadClause(s)
		wantClause(t, fmt.Sprintf("ReadClause %.60q", s), got, code, impl.Clause{}, impl.ErrSyntax)
	}
}

func checkReadClause(t *testing.T, s string) {
	t.Helper()
	want, wantCode := readClauseByHand(s)
	got, code := impl.ReadClause(s)
	wantClause(t, fmt.Sprintf("ReadClause %q", s), got, code, want, wantCode)
	if code == impl.ErrNone {
		text, code := impl.ClauseText(got)
		wantText(t, fmt.Sprintf("ClauseText of what %q tells", s), text, code, s, impl.ErrNone)
	}
}

// TestReadClauseOfChangedTexts reads all texts that differ from that of a clause in one place.
func TestReadClauseOfChangedTexts(t *testing.T) {
	for _, s := range []string{"aa/-1/+*-/0/.", "a/0/***/2/.", "zzzzzz/6/---/3/aaaaaa", "aaaaaa/3/+++/1/.", "b/-1/-+*/3/b", "b/5/*+*/3/zzzzzz"} {
		for changed := range changedTexts(s) {
			checkReadClause(t, changed)
		}
	}
}

// TestReadClauseOfAllNeeds has all texts of up to four characters at the place of the needs.
func TestReadClauseOfAllNeeds(t *testing.T) {
	for _, needs := range textsUpTo(4, "*", "+", "-", ".", "/", "0", " ", "a") {
		checkReadClause(t, "aa/-1/"+needs+"/0/.")
		checkReadClause(t, "aa/2/"+needs+"/3/b")
		checkReadClause(t, "aa/2"+needs+"/1/.")
	}
}

// TestReadClauseOfAllEnds has all texts of up to five characters behind the needs.
func TestReadClauseOfAllEnds(t *testing.T) {
	for _, end := range textsUpTo(5, "0", "2", "3", "4", "/", ".", "+", "b") {
		checkReadClause(t, "aa/-1/+*-/"+end)
	}
}

// TestReadClauseOfAllParts puts together all texts of some parts that are right and some that are not.
func TestReadClauseOfAllParts(t *testing.T) {
	codes := []string{"a", "zzzzzz", "", "aaaaaaa", "A", ".", "-", " a"}
	kinds := []string{"-1", "0", "6", "-2", "7", "00", "+1", "-0", "-01", "", "1 ", "x"}
	needs := append([]string{"", "*", "+-", "++++", "+.+", "+ -", "012", "pvr", " **"}, allNeeds()...)
	results := []string{"0", "1", "2", "3", "-1", "4", "00", "+0", "+3", "", "3 ", "x"}
	leads := []string{".", "a", "zzzzzz", "", "..", "aaaaaaa", "A", "-", ". ", " a", "./"}
	for _, code := range codes {
		for _, kind := range kinds {
			for _, need := range needs {
				for _, result := range results {
					for _, to := range leads {
						checkReadClause(t, strings.Join([]string{code, kind, need, result, to}, "/"))
					}
				}
			}
		}
	}
}

func TestClausesKeepTheirArguments(t *testing.T) {
	list, kept := inSpareRoom(sampleRulebook(), clause("own/-1/***/0/."), impl.Clause{}, clause("fire/0/***/3/fire"))
	for range 2 {
		impl.IsRulebook(list)
		for i, c := range list {
			impl.FindClause(list, c.Code)
			impl.IsReachable(list, c.Code)
			for _, e := range allShapes() {
				impl.FirstMatch(list, int64(i), e)
			}
		}
		// What stands behind the list is not found.
		place, code := impl.FindClause(list, "own")
		wantInt(t, "FindClause own", place, code, 0, impl.ErrNotFound)
	}
	if !kept() {
		t.Error("an argument, or the memory behind it, has changed")
	}
	// The same list again, but for a clause that has been changed since: nothing is kept between calls.
	list[0], list[1] = list[1], list[0]
	place, code := impl.FindClause(list, "fire")
	wantInt(t, "FindClause fire", place, code, 1, impl.ErrNone)
	list[0] = clause("jet/-1/***/0/.")
	reached, code := impl.IsReachable(list, "fire")
	wantBool(t, "IsReachable fire", reached, code, false, impl.ErrNone)
}
