package tests

import (
	"fmt"
	"maps"
	"math"
	"math/rand/v2"
	"slices"
	"strings"
	"testing"

	"loop.example/g01010/impl"
)

// The functions have the signatures that the chapter lists, and the constants are untyped.
var (
	_ func([]impl.Edition) bool                                        = impl.IsLibrary
	_ func([]impl.Edition, int64) (int64, int64)                       = impl.EditionFor
	_ func([]impl.Edition, impl.Edition) ([]impl.Edition, int64)       = impl.AddEdition
	_ func([]impl.Edition, int64, impl.Clause) ([]impl.Edition, int64) = impl.AmendEdition
	_ func([]impl.Clause, []impl.Clause) ([]string, int64)             = impl.ChangedClauses
	_ func([]impl.Clause, []impl.Clause) (bool, int64)                 = impl.SameDecisions
	_ func([]impl.Edition, string) ([]int64, int64)                    = impl.YearsOf
	_ func([]impl.Clause, []impl.Clause) (impl.Event, int64)           = impl.FirstDifference
	_ struct {
		Year    int64
		Clauses []impl.Clause
	} = impl.Edition{}
)

const (
	_ int8    = impl.MaxEditions
	_ float64 = impl.MaxEditions
)

// notYears are integers that are the year of no edition, at the limits and at the ends of int64.
var notYears = slices.Concat([]int64{impl.FirstYear - 1, impl.LastYear + 1, impl.FirstYear - 2, impl.LastYear + 2, 0, -1, -impl.FirstYear, -2000, 1<<8 + 2000, 1<<16 + 2000, 1<<32 + 2000, math.MinInt64 + 2000}, farInts)

// edition has the clauses whose texts blanks separate.
func edition(year int64, texts string) impl.Edition {
	return impl.Edition{Year: year, Clauses: clauses(texts)}
}

// libraryOf has an edition for each of the years, each one with another rulebook.
func libraryOf(years ...int64) []impl.Edition {
	list := []impl.Edition{}
	for i, year := range years {
		list = append(list, impl.Edition{Year: year, Clauses: longRulebook(1 + i%impl.MaxClauses)})
	}
	return list
}

// longLibrary has count editions, which is too many behind MaxEditions.
func longLibrary(count int) []impl.Edition {
	years := []int64{}
	for i := range int64(count) {
		years = append(years, impl.FirstYear+i)
	}
	return libraryOf(years...)
}

// sampleLibrary has codes that occur in all editions, in some and in one.
func sampleLibrary() []impl.Edition {
	return []impl.Edition{
		edition(1974, "aa/-1/+++/0/. bb/6/***/1/. last/-1/***/2/."),
		edition(1994, "aa/-1/++*/3/cc bb/6/***/1/. cc/0/**+/0/. last/-1/***/2/."),
		edition(2004, "cc/0/**+/0/. last/-1/***/2/."),
		edition(2016, "dd/5/-**/3/last aa/-1/+++/0/. e/3/***/3/last last/-1/***/1/."),
	}
}

// libraries are lists that are libraries.
func libraries() [][]impl.Edition {
	lists := [][]impl.Edition{
		sampleLibrary(),
		libraryOf(impl.FirstYear),
		libraryOf(impl.LastYear),
		libraryOf(2000),
		libraryOf(impl.FirstYear, impl.FirstYear+1),
		libraryOf(impl.FirstYear, impl.LastYear),
		libraryOf(impl.LastYear-1, impl.LastYear),
		libraryOf(impl.FirstYear, 1994, 2016, impl.LastYear),
		libraryOf(1970, 1971, 1972, 1973, 1974, 1975),
		libraryOf(2064, 2065, 2066, 2067, 2068, 2069),
		libraryOf(1970, 1990, 1991, 1992, 2000, 2069),
		// Several editions have the same rulebook, or the same codes.
		{edition(1990, forAll), edition(1991, forAll), edition(2000, forAll)},
		{edition(1990, "a/0/***/0/. z/-1/***/0/."), edition(1991, "a/1/+-*/3/z z/-1/***/2/.")},
	}
	for count := 1; count <= impl.MaxEditions; count++ {
		lists = append(lists, longLibrary(count))
	}
	for i, list := range rulebooks() {
		lists = append(lists, []impl.Edition{{Year: impl.FirstYear + int64(i), Clauses: list}}, []impl.Edition{edition(impl.FirstYear, forAll), {Year: 2000, Clauses: list}, edition(2001+int64(i), forAll)})
	}
	return lists
}

// notLibraries are lists that are no libraries.
func notLibraries() [][]impl.Edition {
	lists := [][]impl.Edition{
		nil,
		{},
		longLibrary(impl.MaxEditions + 1),
		longLibrary(impl.MaxEditions + 2),
		longLibrary(100),
		longLibrary(256 + 1),
		longLibrary(256 + impl.MaxEditions),
		make([]impl.Edition, 1),
		make([]impl.Edition, impl.MaxEditions),
		make([]impl.Edition, 100000),
		slices.Repeat([]impl.Edition{edition(2000, forAll)}, 100000),
		// Years are equal or fall, side by side and apart.
		libraryOf(1970, 1970),
		libraryOf(2069, 2069),
		libraryOf(2000, 2000),
		libraryOf(2000, 2000, 2001),
		libraryOf(1999, 2000, 2000),
		libraryOf(2000, 2001, 2000),
		libraryOf(2000, 1999),
		libraryOf(2069, 1970),
		libraryOf(1970, 2069, 2068),
		libraryOf(2001, 2002, 2000),
		libraryOf(2001, 2000, 2002),
		libraryOf(1970, 1971, 1972, 1974, 1973, 1975),
		libraryOf(1970, 1971, 1972, 1973, 1974, 1974),
		libraryOf(2005, 2004, 2003, 2002, 2001, 2000),
		{edition(2000, forAll), edition(2000, forAll)},
	}
	for _, year := range notYears {
		lists = append(lists, libraryOf(year), libraryOf(year, 2000), libraryOf(2000, year), libraryOf(impl.FirstYear, year, impl.LastYear), libraryOf(1970, 1971, 1972, 1973, 1974, year))
	}
	for _, list := range notRulebooks() {
		bad, front, back := impl.Edition{Year: 2000, Clauses: list}, edition(impl.FirstYear, forAll), edition(impl.LastYear, forAll)
		lists = append(lists, []impl.Edition{bad}, []impl.Edition{bad, back}, []impl.Edition{front, bad}, []impl.Edition{front, bad, back})
	}
	return lists
}

func shownEdition(e impl.Edition) string {
	return fmt.Sprintf("%d: %s", e.Year, shownClauses(e.Clauses))
}

// shownLibrary writes the first editions of a list for a message.
func shownLibrary(list []impl.Edition) string {
	texts := []string{}
	for _, e := range list[:min(len(list), impl.MaxEditions+1)] {
		texts = append(texts, shownEdition(e))
	}
	return fmt.Sprintf("%d editions %v", len(list), texts)
}

func sameEdition(a, b impl.Edition) bool {
	return a.Year == b.Year && slices.Equal(a.Clauses, b.Clauses)
}

func sameLibrary(a, b []impl.Edition) bool { return slices.EqualFunc(a, b, sameEdition) }

func wantLibrary(t *testing.T, what string, got []impl.Edition, code int64, want []impl.Edition, wantCode int64) {
	t.Helper()
	if code != wantCode || !sameLibrary(got, want) {
		t.Errorf("%s: got %s, code %d; want %s, code %d", what, shownLibrary(got), code, shownLibrary(want), wantCode)
	}
}

// copied shares no memory with the list.
func copied(list []impl.Edition) []impl.Edition {
	other := []impl.Edition{}
	for _, e := range list {
		other = append(other, impl.Edition{Year: e.Year, Clauses: slices.Clone(e.Clauses)})
	}
	return other
}

// isLibraryByHand goes through all pairs of editions.
func isLibraryByHand(list []impl.Edition) bool {
	for i, e := range list {
		for _, earlier := range list[:i] {
			if earlier.Year >= e.Year {
				return false
			}
		}
		if e.Year < 1970 || e.Year > 2069 || !isRulebookByHand(e.Clauses) {
			return false
		}
	}
	return len(list) >= 1 && len(list) <= 6
}

// addedByHand puts the edition behind all others, and sorts.
func addedByHand(list []impl.Edition, e impl.Edition) ([]impl.Edition, int64) {
	if !isLibraryByHand(list) || !isRulebookByHand(e.Clauses) {
		return nil, impl.ErrInvalid
	}
	added := copied(append(slices.Clone(list), e))
	slices.SortFunc(added, func(a, b impl.Edition) int {
		if a.Year < b.Year {
			return -1
		}
		return 1
	})
	if !isLibraryByHand(added) {
		return nil, impl.ErrState
	}
	return added, impl.ErrNone
}

// amendedByHand replaces the clause wherever it is.
func amendedByHand(list []impl.Edition, year int64, c impl.Clause) ([]impl.Edition, int64) {
	if !isLibraryByHand(list) || !isClauseByHand(c) {
		return nil, impl.ErrInvalid
	}
	amended := copied(list)
	hasYear, hasCode := false, false
	for _, e := range amended {
		if e.Year != year {
			continue
		}
		hasYear = true
		for i, other := range e.Clauses {
			if other.Code == c.Code {
				e.Clauses[i], hasCode = c, true
			}
		}
	}
	if !hasYear {
		return nil, impl.ErrNotFound
	}
	if !hasCode || !isLibraryByHand(amended) {
		return nil, impl.ErrState
	}
	return amended, impl.ErrNone
}

// changedByHand keeps the clause of each code.
func changedByHand(a, b []impl.Clause) []string {
	byCode := func(list []impl.Clause) map[string]impl.Clause {
		all := map[string]impl.Clause{}
		for _, c := range list {
			all[c.Code] = c
		}
		return all
	}
	first, second, changed := byCode(a), byCode(b), map[string]bool{}
	for code := range first {
		if second[code] != first[code] {
			changed[code] = true
		}
	}
	for code := range second {
		if second[code] != first[code] {
			changed[code] = true
		}
	}
	return slices.Sorted(maps.Keys(changed))
}

func resultByHand(list []impl.Clause, e impl.Event) int64 {
	chain := chainByHand(list, 0, e)
	return list[chain[len(chain)-1]].Result
}

// shapeEvents are the events that FirstDifference may return, in its order.
func shapeEvents() []impl.Event {
	list := []impl.Event{}
	for kind := range int64(7) {
		for n := range 8 {
			list = append(list, impl.Event{Kind: kind, Peril: n&4 != 0, Voluntary: n&2 != 0, Reasonable: n&1 != 0})
		}
	}
	return list
}

// onlyFor is a clause that matches the events of one shape alone.
func onlyFor(code string, e impl.Event, result int64) impl.Clause {
	need := func(truth bool) int64 {
		if truth {
			return impl.NeedTrue
		}
		return impl.NeedFalse
	}
	return impl.Clause{Code: code, Kind: e.Kind, Peril: need(e.Peril), Voluntary: need(e.Voluntary), Reasonable: need(e.Reasonable), Result: result}
}

// checkComparison compares two rulebooks in both orders with what is found by hand, and tells how many
// shapes they decide differently.
func checkComparison(t *testing.T, a, b []impl.Clause) int {
	t.Helper()
	differences := slices.DeleteFunc(shapeEvents(), func(e impl.Event) bool { return resultByHand(a, e) == resultByHand(b, e) })
	want, wantCode := impl.Event{}, int64(impl.ErrNotFound)
	if len(differences) > 0 {
		want, wantCode = differences[0], impl.ErrNone
	}
	for _, pair := range [][2][]impl.Clause{{a, b}, {b, a}} {
		what := " of " + shownClauses(pair[0]) + " and " + shownClauses(pair[1])
		changed, code := impl.ChangedClauses(pair[0], pair[1])
		wantList(t, "ChangedClauses"+what, changed, code, changedByHand(a, b), impl.ErrNone)
		same, code := impl.SameDecisions(pair[0], pair[1])
		wantBool(t, "SameDecisions"+what, same, code, len(differences) == 0, impl.ErrNone)
		first, code := impl.FirstDifference(pair[0], pair[1])
		wantEvent(t, "FirstDifference"+what, first, code, want, wantCode)
	}
	return len(differences)
}

// anyChange is the rulebook with one clause changed, so that it may be none any more.
func anyChange(random *rand.Rand, list []impl.Clause) []impl.Clause {
	changed := slices.Clone(list)
	i := random.IntN(len(list))
	c := anyClause(random, list[i].Code)
	switch random.IntN(8) {
	case 0:
		changed[i].Kind = c.Kind
	case 1:
		changed[i].Peril = c.Peril
	case 2:
		changed[i].Voluntary = c.Voluntary
	case 3:
		changed[i].Reasonable = c.Reasonable
	case 4:
		changed[i].Result, changed[i].To = c.Result, ""
	case 5:
		changed[i].Result, changed[i].To = impl.ResultGo, list[random.IntN(len(list))].Code
	case 6:
		changed[i] = c
	default:
		other := random.IntN(len(list))
		changed[i], changed[other] = changed[other], changed[i]
	}
	return changed
}

// anyChangedRulebook is a rulebook that differs from another one in a few changes.
func anyChangedRulebook(random *rand.Rand, list []impl.Clause) []impl.Clause {
	for range random.IntN(4) {
		if changed := anyChange(random, list); isRulebookByHand(changed) {
			list = changed
		}
	}
	if len(list) > 1 && random.IntN(3) == 0 {
		if changed := slices.Delete(slices.Clone(list), 0, 1); isRulebookByHand(changed) {
			list = changed
		}
	}
	return list
}

// anyLibrary often has codes that occur in several editions.
func anyLibrary(random *rand.Rand, count int) []impl.Edition {
	years := map[int64]bool{}
	for len(years) < count {
		switch random.IntN(4) {
		case 0:
			years[impl.FirstYear+random.Int64N(8)] = true
		case 1:
			years[impl.LastYear-random.Int64N(8)] = true
		default:
			years[impl.FirstYear+random.Int64N(100)] = true
		}
	}
	list := []impl.Edition{}
	rules := anyRulebook(random, 1+random.IntN(impl.MaxClauses))
	for _, year := range slices.Sorted(maps.Keys(years)) {
		if random.IntN(3) == 0 {
			rules = anyRulebook(random, 1+random.IntN(impl.MaxClauses))
		}
		rules = anyChangedRulebook(random, rules)
		list = append(list, impl.Edition{Year: year, Clauses: rules})
	}
	return list
}

// yearsAround are those of a library, the ones beside them, and those at the limits and beyond.
func yearsAround(list []impl.Edition) []int64 {
	years := slices.Concat([]int64{impl.FirstYear, impl.FirstYear + 1, impl.LastYear - 1, impl.LastYear}, notYears)
	for _, e := range list {
		years = append(years, e.Year-1, e.Year, e.Year+1)
	}
	slices.Sort(years)
	return slices.Compact(years)
}

func TestConstantsOfEditions(t *testing.T) {
	if impl.MaxEditions != 6 {
		t.Error(impl.MaxEditions)
	}
}

func TestIsLibrary(t *testing.T) {
	for _, list := range libraries() {
		if !impl.IsLibrary(list) {
			t.Errorf("%s are a library", shownLibrary(list))
		}
	}
	for _, list := range notLibraries() {
		if impl.IsLibrary(list) {
			t.Errorf("%s are no library", shownLibrary(list))
		}
	}
}

// TestIsLibraryOfAllYears has all lists of up to four editions with years on both sides of their limits.
func TestIsLibraryOfAllYears(t *testing.T) {
	years := []int64{impl.FirstYear - 1, impl.FirstYear, impl.FirstYear + 1, 2000, impl.LastYear - 1, impl.LastYear, impl.LastYear + 1}
	lists := [][]int64{{}}
	for range 4 {
		longer := [][]int64{}
		for _, list := range lists {
			for _, year := range years {
				longer = append(longer, append(slices.Clone(list), year))
			}
		}
		lists = longer
		for _, list := range lists {
			library := libraryOf(list...)
			if got := impl.IsLibrary(library); got != isLibraryByHand(library) {
				t.Errorf("IsLibrary of %v: got %t", list, got)
			}
		}
	}
}

// TestIsLibraryOfOneYear has each year by itself.
func TestIsLibraryOfOneYear(t *testing.T) {
	for year := int64(-300); year < 3000; year++ {
		want := year >= 1970 && year <= 2069
		if got := impl.IsLibrary(libraryOf(year)); got != want {
			t.Errorf("IsLibrary of %d: got %t", year, got)
		}
	}
}

func TestIsLibraryOfAnyEditions(t *testing.T) {
	random := fixedRandom()
	still := 0
	for range 5000 {
		list := anyLibrary(random, 1+random.IntN(impl.MaxEditions))
		if !impl.IsLibrary(list) {
			t.Fatalf("%s are a library", shownLibrary(list))
		}
		for i := range list {
			changed := copied(list)
			switch random.IntN(4) {
			case 0:
				changed[i].Year += random.Int64N(41) - 20
			case 1:
				changed[i].Clauses = anyChange(random, changed[i].Clauses)
			case 2:
				changed[i].Clauses = changed[i].Clauses[:random.IntN(len(changed[i].Clauses)+1)]
			default:
				changed = append(changed, impl.Edition{Year: changed[len(list)-1].Year + 1, Clauses: changed[i].Clauses})
			}
			got := impl.IsLibrary(changed)
			if got != isLibraryByHand(changed) {
				t.Fatalf("IsLibrary %s: got %t", shownLibrary(changed), got)
			}
			if got {
				still++
			}
		}
	}
	if still < 4000 || still > 14000 {
		t.Errorf("%d of about 17500 changed lists are libraries", still)
	}
}

func TestEditionFor(t *testing.T) {
	list := sampleLibrary()
	for _, c := range []struct{ year, want int64 }{
		{1974, 0}, {1975, 0}, {1993, 0},
		{1994, 1}, {1995, 1}, {2003, 1},
		{2004, 2}, {2010, 2}, {2015, 2},
		{2016, 3}, {2017, 3}, {impl.LastYear, 3}, {impl.LastYear + 1, 3}, {1 << 32, 3}, {math.MaxInt64 - 1, 3}, {math.MaxInt64, 3},
	} {
		got, code := impl.EditionFor(list, c.year)
		wantInt(t, fmt.Sprintf("EditionFor %d", c.year), got, code, c.want, impl.ErrNone)
	}
	for _, year := range []int64{1973, 1972, impl.FirstYear, impl.FirstYear - 1, 0, 1, -1, -1974, -2016, -1 << 32, math.MinInt64 + 1, math.MinInt64} {
		got, code := impl.EditionFor(list, year)
		wantInt(t, fmt.Sprintf("EditionFor %d", year), got, code, 0, impl.ErrNotFound)
	}
	// No year of an edition is earlier than FirstYear.
	got, code := impl.EditionFor(libraryOf(impl.FirstYear), impl.FirstYear-1)
	wantInt(t, "EditionFor the year before FirstYear", got, code, 0, impl.ErrNotFound)
	got, code = impl.EditionFor(libraryOf(impl.FirstYear), impl.FirstYear)
	wantInt(t, "EditionFor FirstYear", got, code, 0, impl.ErrNone)
	got, code = impl.EditionFor(libraryOf(impl.LastYear), impl.LastYear-1)
	wantInt(t, "EditionFor the year before LastYear", got, code, 0, impl.ErrNotFound)
}

func TestEditionForByHand(t *testing.T) {
	check := func(list []impl.Edition) {
		t.Helper()
		for _, year := range yearsAround(list) {
			want, wantCode := int64(0), int64(impl.ErrNotFound)
			for i, e := range list {
				if e.Year <= year {
					want, wantCode = int64(i), impl.ErrNone
				}
			}
			got, code := impl.EditionFor(list, year)
			wantInt(t, fmt.Sprintf("EditionFor %d in %s", year, shownLibrary(list)), got, code, want, wantCode)
		}
	}
	for _, list := range libraries() {
		check(list)
	}
	random := fixedRandom()
	for range 500 {
		check(anyLibrary(random, 1+random.IntN(impl.MaxEditions)))
	}
}

func TestAddEdition(t *testing.T) {
	for _, c := range []struct {
		years []int64
		year  int64
		want  []int64
	}{
		// Before all, between two, and behind all.
		{[]int64{1994, 2004}, 1974, []int64{1974, 1994, 2004}},
		{[]int64{1994, 2004}, 1993, []int64{1993, 1994, 2004}},
		{[]int64{1994, 2004}, impl.FirstYear, []int64{1970, 1994, 2004}},
		{[]int64{1994, 2004}, 1995, []int64{1994, 1995, 2004}},
		{[]int64{1994, 2004}, 2000, []int64{1994, 2000, 2004}},
		{[]int64{1994, 2004}, 2003, []int64{1994, 2003, 2004}},
		{[]int64{1994, 2004}, 2005, []int64{1994, 2004, 2005}},
		{[]int64{1994, 2004}, 2016, []int64{1994, 2004, 2016}},
		{[]int64{1994, 2004}, impl.LastYear, []int64{1994, 2004, 2069}},
		{[]int64{1994}, 1993, []int64{1993, 1994}},
		{[]int64{1994}, 1995, []int64{1994, 1995}},
		{[]int64{1970}, 1971, []int64{1970, 1971}},
		{[]int64{1970}, 2069, []int64{1970, 2069}},
		{[]int64{2069}, 2068, []int64{2068, 2069}},
		{[]int64{2069}, 1970, []int64{1970, 2069}},
		// To one edition less than MaxEditions.
		{[]int64{1980, 1990, 2000, 2010, 2020}, 1975, []int64{1975, 1980, 1990, 2000, 2010, 2020}},
		{[]int64{1980, 1990, 2000, 2010, 2020}, 2005, []int64{1980, 1990, 2000, 2005, 2010, 2020}},
		{[]int64{1980, 1990, 2000, 2010, 2020}, 2025, []int64{1980, 1990, 2000, 2010, 2020, 2025}},
		// The year is there already.
		{[]int64{1994}, 1994, nil},
		{[]int64{1970}, 1970, nil},
		{[]int64{2069}, 2069, nil},
		{[]int64{1994, 2004, 2016}, 1994, nil},
		{[]int64{1994, 2004, 2016}, 2004, nil},
		{[]int64{1994, 2004, 2016}, 2016, nil},
		// There are MaxEditions already.
		{[]int64{1980, 1990, 2000, 2010, 2020, 2030}, 1979, nil},
		{[]int64{1980, 1990, 2000, 2010, 2020, 2030}, 1980, nil},
		{[]int64{1980, 1990, 2000, 2010, 2020, 2030}, 2001, nil},
		{[]int64{1980, 1990, 2000, 2010, 2020, 2030}, 2030, nil},
		{[]int64{1980, 1990, 2000, 2010, 2020, 2030}, 2031, nil},
		{[]int64{1980, 1990, 2000, 2010, 2020, 2030}, 2070, nil},
	} {
		further := impl.Edition{Year: c.year, Clauses: sampleRulebook()}
		want, wantCode := []impl.Edition{}, int64(impl.ErrState)
		if c.want != nil {
			wantCode = impl.ErrNone
			others := libraryOf(c.years...)
			for _, year := range c.want {
				if year == c.year {
					want = append(want, further)
				} else {
					want, others = append(want, others[0]), others[1:]
				}
			}
		}
		got, code := impl.AddEdition(libraryOf(c.years...), further)
		wantLibrary(t, fmt.Sprintf("AddEdition %d to %v", c.year, c.years), got, code, want, wantCode)
	}
	// The year is out of range.
	for _, year := range notYears {
		for _, list := range [][]impl.Edition{libraryOf(impl.FirstYear), libraryOf(impl.LastYear), sampleLibrary(), longLibrary(impl.MaxEditions)} {
			got, code := impl.AddEdition(list, edition(year, forAll))
			wantLibrary(t, fmt.Sprintf("AddEdition %d to %s", year, shownLibrary(list)), got, code, nil, impl.ErrState)
		}
	}
}

func TestAddEditionByHand(t *testing.T) {
	check := func(list []impl.Edition, rules []impl.Clause) {
		t.Helper()
		for _, year := range yearsAround(list) {
			e := impl.Edition{Year: year, Clauses: rules}
			want, wantCode := addedByHand(list, e)
			got, code := impl.AddEdition(list, e)
			wantLibrary(t, "AddEdition "+shownEdition(e)+" to "+shownLibrary(list), got, code, want, wantCode)
			if code == impl.ErrNone && !impl.IsLibrary(got) {
				t.Errorf("%s are no library", shownLibrary(got))
			}
		}
	}
	for _, list := range libraries() {
		check(list, sampleRulebook())
		check(list, list[0].Clauses)
		check(list, clauses(forAll+" a/0/***/0/."))
	}
	random := fixedRandom()
	for range 500 {
		check(anyLibrary(random, 1+random.IntN(impl.MaxEditions)), anyRulebook(random, 1+random.IntN(impl.MaxClauses)))
	}
}

// TestAddEditionOfNoRulebook has Clauses that are none, also beside years that would be wrong too: ErrInvalid
// is first.
func TestAddEditionOfNoRulebook(t *testing.T) {
	for _, rules := range notRulebooks() {
		for _, list := range [][]impl.Edition{sampleLibrary(), libraryOf(impl.FirstYear), longLibrary(impl.MaxEditions)} {
			for _, year := range []int64{impl.FirstYear, 1974, 2000, 2016, impl.LastYear, impl.FirstYear - 1, impl.LastYear + 1, 0, math.MinInt64, math.MaxInt64} {
				e := impl.Edition{Year: year, Clauses: rules}
				got, code := impl.AddEdition(list, e)
				wantLibrary(t, "AddEdition "+shownEdition(e)+" to "+shownLibrary(list), got, code, nil, impl.ErrInvalid)
			}
		}
	}
}

func TestAmendEdition(t *testing.T) {
	for _, c := range []struct {
		year int64
		text string
		want int64
	}{
		// A clause is replaced by itself.
		{1974, "aa/-1/+++/0/.", impl.ErrNone},
		{1994, "aa/-1/++*/3/cc", impl.ErrNone},
		{2004, "last/-1/***/2/.", impl.ErrNone},
		// It is replaced by one with another Kind, another need, another Result, another To, or all of them.
		{1974, "aa/0/+++/0/.", impl.ErrNone},
		{1974, "bb/-1/***/1/.", impl.ErrNone},
		{1974, "bb/0/***/1/.", impl.ErrNone},
		{1974, "aa/-1/-++/0/.", impl.ErrNone},
		{1974, "aa/-1/+*+/0/.", impl.ErrNone},
		{1974, "aa/-1/++-/0/.", impl.ErrNone},
		{1974, "aa/-1/+++/1/.", impl.ErrNone},
		{1974, "aa/-1/+++/2/.", impl.ErrNone},
		{1974, "aa/-1/+++/3/bb", impl.ErrNone},
		{1974, "aa/-1/+++/3/last", impl.ErrNone},
		{1974, "bb/6/***/3/last", impl.ErrNone},
		{1994, "aa/-1/++*/0/.", impl.ErrNone},
		{1994, "aa/-1/++*/3/bb", impl.ErrNone},
		{1994, "aa/-1/++*/3/last", impl.ErrNone},
		{1994, "cc/3/---/3/last", impl.ErrNone},
		{2016, "e/6/+-+/2/.", impl.ErrNone},
		{1974, "last/-1/***/0/.", impl.ErrNone},
		{2016, "last/-1/***/0/.", impl.ErrNone},
		// The edition does not have its code, though another one may.
		{1974, "cc/0/**+/0/.", impl.ErrState},
		{1974, "zz/-1/***/0/.", impl.ErrState},
		{2004, "aa/-1/+++/0/.", impl.ErrState},
		{2004, "bb/6/***/1/.", impl.ErrState},
		{2016, "cc/0/**+/0/.", impl.ErrState},
		{2016, "d/5/-**/0/.", impl.ErrState},
		{2016, "ee/3/***/0/.", impl.ErrState},
		{1974, "a/-1/+++/0/.", impl.ErrState},
		{1974, "aaa/-1/+++/0/.", impl.ErrState},
		// The last clause would have a kind, a need, or lead on.
		{1974, "last/0/***/2/.", impl.ErrState},
		{1974, "last/6/***/2/.", impl.ErrState},
		{1974, "last/-1/+**/2/.", impl.ErrState},
		{1974, "last/-1/-**/2/.", impl.ErrState},
		{1994, "last/-1/*+*/2/.", impl.ErrState},
		{1994, "last/-1/*-*/2/.", impl.ErrState},
		{2004, "last/-1/**+/2/.", impl.ErrState},
		{2016, "last/-1/**-/2/.", impl.ErrState},
		{1974, "last/-1/***/3/aa", impl.ErrState},
		{1974, "last/-1/***/3/last", impl.ErrState},
		{2016, "last/-1/***/3/zz", impl.ErrState},
		// To would lead backward, to the clause itself, or to none.
		{1974, "bb/6/***/3/aa", impl.ErrState},
		{1994, "cc/0/**+/3/aa", impl.ErrState},
		{1994, "cc/0/**+/3/bb", impl.ErrState},
		{2016, "e/3/***/3/dd", impl.ErrState},
		{1974, "aa/-1/+++/3/aa", impl.ErrState},
		{1994, "cc/0/**+/3/cc", impl.ErrState},
		{1974, "aa/-1/+++/3/cc", impl.ErrState},
		{1974, "aa/-1/+++/3/zz", impl.ErrState},
		{1974, "aa/-1/+++/3/las", impl.ErrState},
		// No edition has exactly this year, whatever the clause is.
		{1973, "aa/-1/+++/0/.", impl.ErrNotFound},
		{1975, "aa/-1/+++/0/.", impl.ErrNotFound},
		{1993, "last/-1/***/0/.", impl.ErrNotFound},
		{2005, "cc/0/**+/0/.", impl.ErrNotFound},
		{2015, "aa/-1/+++/0/.", impl.ErrNotFound},
		{2017, "aa/-1/+++/0/.", impl.ErrNotFound},
		{2017, "zz/-1/+++/0/.", impl.ErrNotFound},
		{1995, "last/-1/+++/0/.", impl.ErrNotFound},
		{1970, "aa/-1/+++/0/.", impl.ErrNotFound},
		{2069, "aa/-1/+++/0/.", impl.ErrNotFound},
		{0, "aa/-1/+++/0/.", impl.ErrNotFound},
		{-1974, "aa/-1/+++/0/.", impl.ErrNotFound},
		{1<<32 + 1974, "aa/-1/+++/0/.", impl.ErrNotFound},
		{math.MinInt64, "aa/-1/+++/0/.", impl.ErrNotFound},
		{math.MaxInt64, "aa/-1/+++/0/.", impl.ErrNotFound},
	} {
		want := sampleLibrary()
		if c.want != impl.ErrNone {
			want = nil
		}
		for _, e := range want {
			for i := range e.Clauses {
				if e.Year == c.year && strings.HasPrefix(c.text, e.Clauses[i].Code+"/") {
					e.Clauses[i] = clause(c.text)
				}
			}
		}
		got, code := impl.AmendEdition(sampleLibrary(), c.year, clause(c.text))
		wantLibrary(t, fmt.Sprintf("AmendEdition %d by %s", c.year, c.text), got, code, want, c.want)
	}
}

// TestAmendEditionOfOneEdition shows what a list of several editions may hide: which one is amended.
func TestAmendEditionOfOneEdition(t *testing.T) {
	list := []impl.Edition{edition(1990, "a/0/***/0/. "+forAll), edition(1991, "a/0/***/0/. "+forAll), edition(1992, "a/0/***/0/. "+forAll)}
	for i := range list {
		got, code := impl.AmendEdition(list, 1990+int64(i), clause("a/1/+**/3/last"))
		want := copied(list)
		want[i].Clauses[0] = clause("a/1/+**/3/last")
		wantLibrary(t, fmt.Sprintf("AmendEdition %d", 1990+i), got, code, want, impl.ErrNone)
	}
	// The same memory in several editions is amended in one of them alone.
	rules := clauses("a/0/***/0/. " + forAll)
	shared := []impl.Edition{{Year: 1990, Clauses: rules}, {Year: 1991, Clauses: rules}, {Year: 1992, Clauses: rules}}
	got, code := impl.AmendEdition(shared, 1991, clause("a/1/***/2/."))
	wantLibrary(t, "AmendEdition 1991 of shared clauses", got, code, []impl.Edition{list[0], edition(1991, "a/1/***/2/. "+forAll), list[2]}, impl.ErrNone)
	wantLibrary(t, "the library itself", shared, 0, list, 0)
}

func TestAmendEditionByHand(t *testing.T) {
	check := func(list []impl.Edition, year int64, c impl.Clause) int64 {
		t.Helper()
		want, wantCode := amendedByHand(list, year, c)
		got, code := impl.AmendEdition(list, year, c)
		wantLibrary(t, fmt.Sprintf("AmendEdition %d of %s by %s", year, shownLibrary(list), shownClause(c)), got, code, want, wantCode)
		return code
	}
	for _, list := range libraries() {
		for _, e := range list {
			for _, c := range e.Clauses {
				for _, year := range yearsAround(list) {
					check(list, year, c)
				}
			}
		}
	}
	random := fixedRandom()
	count := map[int64]int{}
	for range 5000 {
		list := anyLibrary(random, 1+random.IntN(impl.MaxEditions))
		e := list[random.IntN(len(list))]
		rules := e.Clauses
		if random.IntN(4) == 0 {
			rules = list[random.IntN(len(list))].Clauses
		}
		changed := anyChange(random, rules)
		count[check(list, e.Year, changed[random.IntN(len(changed))])]++
		for i, c := range changed {
			if c != rules[i] {
				count[check(list, e.Year, c)]++
			}
		}
		count[check(list, impl.FirstYear+random.Int64N(100), changed[0])]++
	}
	for _, code := range []int64{impl.ErrNone, impl.ErrState, impl.ErrNotFound} {
		if count[code] < 500 {
			t.Errorf("code %d was returned %d times only", code, count[code])
		}
	}
}

// TestAmendEditionByNoClause has clauses that are not as described, also beside a year that no edition has
// and codes that it does not have: ErrInvalid is first.
func TestAmendEditionByNoClause(t *testing.T) {
	list := []impl.Edition{edition(1990, "mm/3/***/0/. zz/-1/***/0/."), edition(2000, forAll)}
	for _, c := range notClauses() {
		for _, year := range []int64{1990, 2000, 1991, 1989, impl.FirstYear, impl.LastYear, 0, math.MinInt64, math.MaxInt64} {
			got, code := impl.AmendEdition(list, year, c)
			wantLibrary(t, fmt.Sprintf("AmendEdition %d by %s", year, shownClause(c)), got, code, nil, impl.ErrInvalid)
		}
	}
}

func TestChangedClauses(t *testing.T) {
	const base = "bb/2/+-*/0/. aa/3/*+-/3/dd dd/6/-*+/1/. cc/-1/***/2/."
	for _, c := range []struct{ a, b, want string }{
		{base, base, ""},
		{forAll, forAll, ""},
		// One field of one clause differs.
		{base, strings.Replace(base, "bb/2/", "bb/3/", 1), "bb"},
		{base, strings.Replace(base, "bb/2/", "bb/-1/", 1), "bb"},
		{base, strings.Replace(base, "+-*/0", "--*/0", 1), "bb"},
		{base, strings.Replace(base, "+-*/0", "++*/0", 1), "bb"},
		{base, strings.Replace(base, "+-*/0", "+-+/0", 1), "bb"},
		{base, strings.Replace(base, "+-*/0", "+-*/2", 1), "bb"},
		{base, strings.Replace(base, "3/dd", "3/cc", 1), "aa"},
		{base, strings.Replace(base, "3/dd", "0/.", 1), "aa"},
		{base, strings.Replace(base, "+/1/.", "+/3/cc", 1), "dd"},
		{base, strings.Replace(base, "***/2", "***/0", 1), "cc"},
		{"last/-1/***/0/.", "last/-1/***/1/.", "last"},
		// The order of the clauses differs alone.
		{base, "aa/3/*+-/3/dd bb/2/+-*/0/. dd/6/-*+/1/. cc/-1/***/2/.", ""},
		{base, "aa/3/*+-/3/dd dd/6/-*+/1/. bb/2/+-*/0/. cc/-1/***/2/.", ""},
		{"a/-1/***/0/. b/-1/***/0/.", "b/-1/***/0/. a/-1/***/0/.", ""},
		{"a/-1/***/0/. b/-1/***/1/. c/-1/***/2/.", "c/-1/***/2/. a/-1/***/0/. b/-1/***/1/.", ""},
		// One code differs, or what leads to it too.
		{base, strings.Replace(base, "bb/", "b/", 1), "b bb"},
		{base, strings.Replace(base, "bb/", "zz/", 1), "bb zz"},
		{base, strings.Replace(base, "cc/", "ca/", 1), "ca cc"},
		{base, strings.ReplaceAll(base, "dd", "ee"), "aa dd ee"},
		{"a/-1/***/0/.", "b/-1/***/0/.", "a b"},
		{"b/-1/***/0/.", "a/-1/***/0/.", "a b"},
		// Two clauses have exchanged their codes.
		{"a/0/***/0/. b/1/***/0/. z/-1/***/0/.", "b/0/***/0/. a/1/***/0/. z/-1/***/0/.", "a b"},
		{"a/0/***/0/. b/0/***/0/. z/-1/***/0/.", "b/0/***/0/. a/0/***/0/. z/-1/***/0/.", ""},
		// All codes differ, also where the contents agree.
		{base, "b/2/+-*/0/. a/3/*+-/3/d d/6/-*+/1/. c/-1/***/2/.", "a aa b bb c cc d dd"},
		{"z/0/***/0/. y/-1/***/0/.", "a/0/***/0/. x/-1/***/0/.", "a x y z"},
		{"zz/0/***/0/. z/-1/***/0/.", "zzz/0/***/0/. y/-1/***/0/.", "y z zz zzz"},
		// Clauses are missing.
		{base, "bb/2/+-*/0/. dd/6/-*+/1/. cc/-1/***/2/.", "aa"},
		{base, "cc/-1/***/2/.", "aa bb dd"},
		{base, forAll, "aa bb cc dd last"},
		{"aa/-1/+++/0/. bb/6/***/1/. cc/-1/***/2/.", "bb/6/***/1/. cc/-1/***/2/.", "aa"},
	} {
		for _, pair := range [][2]string{{c.a, c.b}, {c.b, c.a}} {
			got, code := impl.ChangedClauses(clauses(pair[0]), clauses(pair[1]))
			wantList(t, "ChangedClauses of "+pair[0]+" and "+pair[1], got, code, strings.Fields(c.want), impl.ErrNone)
		}
		checkComparison(t, clauses(c.a), clauses(c.b))
	}
}

// TestChangedClausesOfLongRulebooks has as many clauses and codes as there may be.
func TestChangedClausesOfLongRulebooks(t *testing.T) {
	list, other, codes := longRulebook(impl.MaxClauses), longRulebook(impl.MaxClauses), []string{}
	for i := range other {
		other[i].Code = "x" + other[i].Code
		if other[i].To != "" {
			other[i].To = "x" + other[i].To
		}
		codes = append(codes, list[i].Code, other[i].Code)
	}
	slices.Sort(codes)
	got, code := impl.ChangedClauses(list, other)
	wantList(t, "ChangedClauses of all codes", got, code, codes, impl.ErrNone)
	same, code := impl.SameDecisions(list, other)
	wantBool(t, "SameDecisions with all other codes", same, code, true, impl.ErrNone)
	checkComparison(t, list, other)
}

func TestSameDecisions(t *testing.T) {
	for _, c := range []struct {
		a, b string
		// want has the Kind and the letters of the first difference, or nothing.
		want string
	}{
		// Rulebooks with other clauses and the same decisions.
		{"a/-1/***/0/.", "b/-1/***/0/.", ""},
		{"a/-1/***/0/.", "a/5/+-*/0/. b/-1/***/0/.", ""},
		{"a/-1/***/0/.", "a/-1/***/3/b c/-1/***/1/. b/-1/***/0/.", ""},
		{"a/-1/***/0/.", "a/-1/***/0/. b/-1/***/2/.", ""},
		{"a/-1/***/0/.", "a/-1/+**/0/. b/-1/***/0/.", ""},
		{"a/-1/+**/0/. b/-1/***/1/.", "a/-1/-**/1/. b/-1/***/0/.", ""},
		{"a/0/***/0/. b/1/***/1/. z/-1/***/2/.", "b/1/***/1/. a/0/***/0/. z/-1/***/2/.", ""},
		{"a/-1/++*/0/. z/-1/***/2/.", "a/-1/+**/3/c b/-1/***/2/. c/-1/*+*/0/. z/-1/***/2/.", ""},
		{"a/-1/++*/0/. z/-1/***/2/.", "a/-1/-**/2/. b/-1/*-*/2/. z/-1/***/0/.", ""},
		{"a/-1/+++/0/. z/-1/***/2/.", "a/-1/+**/3/b y/-1/***/2/. b/-1/*+*/3/c x/-1/***/2/. c/-1/**+/3/d w/-1/***/2/. d/-1/***/0/.", ""},
		{"a/0/***/1/. b/1/***/1/. c/2/***/1/. d/3/***/1/. e/4/***/1/. f/5/***/1/. z/-1/***/0/.", "a/6/***/0/. z/-1/***/1/.", ""},
		// All events are decided differently.
		{"a/-1/***/0/.", "a/-1/***/1/.", "0/-"},
		{"a/-1/***/1/.", "a/-1/***/2/.", "0/-"},
		{"a/-1/***/0/.", "b/-1/***/2/.", "0/-"},
		{"a/-1/***/3/b b/-1/***/0/.", "a/-1/***/3/c b/-1/***/0/. c/-1/***/1/.", "0/-"},
		// Only some are: by kind, by one truth, by several.
		{"z/-1/***/2/.", "a/0/***/0/. z/-1/***/2/.", "0/-"},
		{"z/-1/***/2/.", "a/3/***/0/. z/-1/***/2/.", "3/-"},
		{"z/-1/***/2/.", "a/6/***/0/. z/-1/***/2/.", "6/-"},
		{"z/-1/***/2/.", "a/-1/+**/0/. z/-1/***/2/.", "0/p"},
		{"z/-1/***/2/.", "a/-1/*+*/0/. z/-1/***/2/.", "0/v"},
		{"z/-1/***/2/.", "a/-1/**+/0/. z/-1/***/2/.", "0/r"},
		{"z/-1/***/2/.", "a/-1/-**/0/. z/-1/***/2/.", "0/-"},
		{"z/-1/***/2/.", "a/-1/+-+/0/. z/-1/***/2/.", "0/pr"},
		{"z/-1/***/2/.", "a/-1/*++/0/. z/-1/***/2/.", "0/vr"},
		{"z/-1/***/2/.", "a/-1/+++/0/. z/-1/***/2/.", "0/pvr"},
		{"aa/-1/+++/0/. bb/6/***/1/. cc/-1/***/2/.", "bb/6/***/1/. cc/-1/***/2/.", "0/pvr"},
		{"z/-1/***/2/.", "a/4/*-+/0/. z/-1/***/2/.", "4/r"},
		{"z/-1/***/2/.", "a/4/++-/0/. z/-1/***/2/.", "4/pv"},
		// The first one of several: kinds go before truths, Peril before Voluntary, that before Reasonable.
		{"z/-1/***/2/.", "a/5/---/0/. b/2/+++/0/. z/-1/***/2/.", "2/pvr"},
		{"z/-1/***/2/.", "a/2/+--/0/. b/2/-++/0/. z/-1/***/2/.", "2/vr"},
		{"z/-1/***/2/.", "a/2/-+-/0/. b/2/--+/0/. z/-1/***/2/.", "2/r"},
		{"z/-1/***/2/.", "a/2/++-/0/. b/2/+-+/0/. z/-1/***/2/.", "2/pr"},
		{"z/-1/***/2/.", "a/2/+++/0/. b/2/++-/0/. z/-1/***/2/.", "2/pv"},
		// A difference of clauses shows only where it is not hidden by an earlier clause, or passed by.
		{"a/-1/+**/0/. b/-1/++*/1/. z/-1/***/2/.", "a/-1/+**/0/. b/-1/++*/2/. z/-1/***/2/.", ""},
		{"a/-1/+**/0/. b/-1/*+*/1/. z/-1/***/2/.", "a/-1/+**/0/. b/-1/*+*/2/. z/-1/***/2/.", "0/v"},
		{"a/-1/***/3/z b/-1/*+*/1/. z/-1/***/2/.", "a/-1/***/3/z b/-1/*+*/0/. z/-1/***/2/.", ""},
		{"a/1/***/3/z b/-1/*+*/1/. z/-1/***/2/.", "a/1/***/3/z b/1/*+*/0/. z/-1/***/2/.", "0/v"},
		{"a/0/***/3/c b/-1/***/1/. c/-1/**+/0/. z/-1/***/2/.", "a/0/***/3/c b/-1/***/1/. c/-1/***/0/. z/-1/***/2/.", "0/-"},
		{"a/2/+**/3/c b/-1/***/1/. c/-1/**+/0/. z/-1/***/2/.", "a/2/+**/3/z b/-1/***/1/. c/-1/**+/0/. z/-1/***/2/.", "2/pr"},
		// Chains of other lengths lead to the same result, but for one event.
		{"a/3/***/3/b b/3/*+*/3/c c/3/**+/3/d d/3/+++/0/. z/-1/***/2/.", "a/3/+++/0/. z/-1/***/2/.", ""},
		{"a/3/***/3/b b/3/*+*/3/c c/3/**+/3/d d/3/+++/0/. z/-1/***/2/.", "a/3/+++/1/. z/-1/***/2/.", "3/pvr"},
		{"a/3/***/3/b b/3/*+*/3/c c/3/**+/3/d d/3/-++/0/. z/-1/***/2/.", "z/-1/***/2/.", "3/vr"},
	} {
		a, b := clauses(c.a), clauses(c.b)
		want, wantCode := impl.Event{}, int64(impl.ErrNotFound)
		if c.want != "" {
			want, wantCode = event(0, int64(c.want[0]-'0'), "", 0, c.want[2:]), impl.ErrNone
		}
		for _, pair := range [][2][]impl.Clause{{a, b}, {b, a}} {
			same, code := impl.SameDecisions(pair[0], pair[1])
			wantBool(t, "SameDecisions of "+c.a+" and "+c.b, same, code, c.want == "", impl.ErrNone)
			first, code := impl.FirstDifference(pair[0], pair[1])
			wantEvent(t, "FirstDifference of "+c.a+" and "+c.b, first, code, want, wantCode)
		}
		checkComparison(t, a, b)
	}
}

// TestFirstDifferenceOfOneShape has rulebooks that decide the events of one shape differently, for each shape.
func TestFirstDifferenceOfOneShape(t *testing.T) {
	for _, list := range rulebooks() {
		if len(list) == impl.MaxClauses {
			continue
		}
		for _, e := range shapeEvents() {
			for result := range int64(impl.ResultGo) {
				other := slices.Insert(slices.Clone(list), 0, onlyFor("only", e, result))
				differences := checkComparison(t, list, other)
				if same := resultByHand(list, e) == result; same && differences != 0 || !same && differences != 1 {
					t.Errorf("%s and %s: %d differences", shownClauses(list), shownClauses(other), differences)
				}
			}
		}
	}
}

// TestFirstDifferenceOfTwoShapes has all pairs of shapes, with the clauses for them in both orders.
func TestFirstDifferenceOfTwoShapes(t *testing.T) {
	shapes := shapeEvents()
	for i, first := range shapes {
		for _, second := range shapes[i+1:] {
			list := clauses(forAll)
			for _, other := range [][]impl.Clause{
				{onlyFor("a", first, impl.ResultGeneral), onlyFor("b", second, impl.ResultParticular), list[0]},
				{onlyFor("a", second, impl.ResultGeneral), onlyFor("b", first, impl.ResultGeneral), list[0]},
			} {
				got, code := impl.FirstDifference(list, other)
				wantEvent(t, "FirstDifference of "+shownClauses(other), got, code, first, impl.ErrNone)
				got, code = impl.FirstDifference(other, list)
				wantEvent(t, "FirstDifference of "+shownClauses(other), got, code, first, impl.ErrNone)
				same, code := impl.SameDecisions(list, other)
				wantBool(t, "SameDecisions of "+shownClauses(other), same, code, false, impl.ErrNone)
			}
		}
	}
}

func TestComparisonsByHand(t *testing.T) {
	lists := rulebooks()
	for _, a := range lists {
		for _, b := range lists {
			checkComparison(t, a, b)
		}
	}
	random := fixedRandom()
	same, changed := 0, 0
	for range 5000 {
		a := anyRulebook(random, 1+random.IntN(impl.MaxClauses))
		b := anyChangedRulebook(random, a)
		if checkComparison(t, a, b) > 0 {
			changed++
		} else if !slices.Equal(a, b) {
			same++
		}
	}
	if same < 500 || changed < 500 {
		t.Errorf("%d pairs of other clauses decide equally, %d differently", same, changed)
	}
}

// TestNoFirstDifferenceOfSameDecisions is promise 11, with the guarantee of the chapter.
func TestNoFirstDifferenceOfSameDecisions(t *testing.T) {
	check := func(a, b []impl.Clause) bool {
		t.Helper()
		what := " of " + shownClauses(a) + " and " + shownClauses(b)
		same, code := impl.SameDecisions(a, b)
		if code != impl.ErrNone {
			t.Errorf("SameDecisions%s: code %d", what, code)
		}
		first, code := impl.FirstDifference(a, b)
		if same {
			wantEvent(t, "FirstDifference"+what, first, code, impl.Event{}, impl.ErrNotFound)
		} else if code != impl.ErrNone || resultByHand(a, first) == resultByHand(b, first) {
			t.Errorf("FirstDifference%s: got %s, code %d", what, shownEvent(first), code)
		}
		return same
	}
	checkItself := func(list []impl.Clause) {
		t.Helper()
		changed, code := impl.ChangedClauses(list, slices.Clone(list))
		wantList(t, "ChangedClauses of "+shownClauses(list)+" to itself", changed, code, nil, impl.ErrNone)
		if !check(list, list) || !check(list, slices.Clone(list)) {
			t.Errorf("%s decide otherwise than themselves", shownClauses(list))
		}
	}
	for _, list := range rulebooks() {
		checkItself(list)
	}
	random := fixedRandom()
	for range 2000 {
		list := anyRulebook(random, 1+random.IntN(impl.MaxClauses))
		checkItself(list)
		check(list, anyChangedRulebook(random, list))
		check(anyChangedRulebook(random, list), anyChangedRulebook(random, list))
		// Whatever leads to the last clause may have its result at once.
		last, direct := list[len(list)-1], slices.Clone(list)
		for i, c := range direct {
			if c.To == last.Code {
				direct[i].Result, direct[i].To = last.Result, ""
			}
		}
		if !check(list, direct) {
			t.Errorf("%s and %s decide otherwise", shownClauses(list), shownClauses(direct))
		}
	}
}

// TestComparisonOfNoRulebook has lists that are no rulebook on either side, and on both.
func TestComparisonOfNoRulebook(t *testing.T) {
	check := func(a, b []impl.Clause) {
		t.Helper()
		what := " of " + shownClauses(a) + " and " + shownClauses(b)
		changed, code := impl.ChangedClauses(a, b)
		wantList(t, "ChangedClauses"+what, changed, code, nil, impl.ErrInvalid)
		same, code := impl.SameDecisions(a, b)
		wantBool(t, "SameDecisions"+what, same, code, false, impl.ErrInvalid)
		first, code := impl.FirstDifference(a, b)
		wantEvent(t, "FirstDifference"+what, first, code, impl.Event{}, impl.ErrInvalid)
	}
	for _, bad := range notRulebooks() {
		for _, list := range [][]impl.Clause{sampleRulebook(), clauses(forAll), longRulebook(impl.MaxClauses)} {
			check(bad, list)
			check(list, bad)
		}
		check(bad, bad)
		check(bad, nil)
	}
}

func TestYearsOf(t *testing.T) {
	for _, c := range []struct {
		code string
		want []int64
	}{
		// In all editions, in some, in one, and in none.
		{"last", []int64{1974, 1994, 2004, 2016}},
		{"aa", []int64{1974, 1994, 2016}},
		{"bb", []int64{1974, 1994}},
		{"cc", []int64{1994, 2004}},
		{"dd", []int64{2016}},
		{"e", []int64{2016}},
		{"a", nil}, {"zz", nil}, {"d", nil}, {"ee", nil}, {"las", nil}, {"lasts", nil}, {"aab", nil},
	} {
		got, code := impl.YearsOf(sampleLibrary(), c.code)
		wantInts(t, "YearsOf "+c.code, got, code, c.want, impl.ErrNone)
	}
	// No clause has what is no code, also where a To is the empty text.
	for _, s := range notPartyCodes {
		got, code := impl.YearsOf(sampleLibrary(), s)
		wantInts(t, fmt.Sprintf("YearsOf %.20q", s), got, code, nil, impl.ErrNone)
	}
}

func TestYearsOfByHand(t *testing.T) {
	check := func(list []impl.Edition) {
		t.Helper()
		years := map[string][]int64{"nocode": nil, "": nil}
		for _, e := range list {
			for _, c := range e.Clauses {
				years[c.Code] = append(years[c.Code], e.Year)
			}
		}
		for s, want := range years {
			got, code := impl.YearsOf(list, s)
			wantInts(t, fmt.Sprintf("YearsOf %q in %s", s, shownLibrary(list)), got, code, want, impl.ErrNone)
		}
	}
	for _, list := range libraries() {
		check(list)
	}
	random := fixedRandom()
	for range 2000 {
		check(anyLibrary(random, 1+random.IntN(impl.MaxEditions)))
	}
}

// TestNoLibrary has lists that are no library beside arguments that would be wrong too: ErrInvalid is first.
func TestNoLibrary(t *testing.T) {
	for _, list := range notLibraries() {
		shown := shownLibrary(list)
		years := []int64{impl.FirstYear, 2000, impl.LastYear, impl.FirstYear - 1, impl.LastYear + 1, 0, math.MinInt64, math.MaxInt64}
		codes := []string{"last", "z", "nocode", "", "A"}
		for _, e := range list[:min(len(list), 3)] {
			years = append(years, e.Year)
		}
		for _, year := range years {
			place, code := impl.EditionFor(list, year)
			wantInt(t, fmt.Sprintf("EditionFor %d in %s", year, shown), place, code, 0, impl.ErrInvalid)
			for _, texts := range []string{forAll, "last/0/***/2/."} {
				added, code := impl.AddEdition(list, edition(year, texts))
				wantLibrary(t, fmt.Sprintf("AddEdition %d to %s", year, shown), added, code, nil, impl.ErrInvalid)
			}
			for _, c := range []impl.Clause{clause(forAll), clause("none/0/***/0/."), {}} {
				amended, code := impl.AmendEdition(list, year, c)
				wantLibrary(t, fmt.Sprintf("AmendEdition %d of %s", year, shown), amended, code, nil, impl.ErrInvalid)
			}
		}
		for _, s := range codes {
			got, code := impl.YearsOf(list, s)
			wantInts(t, fmt.Sprintf("YearsOf %q in %s", s, shown), got, code, nil, impl.ErrInvalid)
		}
	}
}

// libraryInSpareRoom returns the list in front of others in its own memory, with clauses in front of others in
// theirs, and a function that tells whether all of this memory is as it was.
func libraryInSpareRoom(list []impl.Edition, others ...impl.Edition) ([]impl.Edition, func() bool) {
	memory, kept := []impl.Edition{}, []func() bool{}
	for _, e := range slices.Concat(list, others) {
		rules, isKept := inSpareRoom(e.Clauses, clause("own/-1/***/0/."), impl.Clause{})
		memory = append(memory, impl.Edition{Year: e.Year, Clauses: rules})
		kept = append(kept, isKept)
	}
	before := slices.Clone(memory)
	return memory[:len(list)], func() bool {
		for i, e := range memory {
			if !kept[i]() || e.Year != before[i].Year || len(e.Clauses) != len(before[i].Clauses) || &e.Clauses[0] != &before[i].Clauses[0] {
				return false
			}
		}
		return true
	}
}

// overwriteLibrary writes over a result, all of its clauses, and the memory behind them.
func overwriteLibrary(list []impl.Edition) {
	for _, e := range list {
		overwrite(e.Clauses, clause("own/3/+++/3/own"))
	}
	overwrite(list, impl.Edition{Year: -1})
}

func TestEditionsKeepTheirArguments(t *testing.T) {
	list, kept := libraryInSpareRoom(sampleLibrary(), edition(2020, "own/-1/***/0/."), edition(-1, forAll))
	rules, rulesKept := inSpareRoom(sampleRulebook(), clause("own/-1/***/0/."), impl.Clause{})
	for range 2 {
		impl.IsLibrary(list)
		for _, year := range []int64{impl.FirstYear, 1974, 1975, 1994, 2000, 2016, 2020, impl.LastYear, -1} {
			impl.EditionFor(list, year)
			added, _ := impl.AddEdition(list, impl.Edition{Year: year, Clauses: rules})
			overwriteLibrary(added)
			for _, s := range []string{"aa/0/---/1/.", "bb/-1/***/3/last", "last/-1/***/0/.", "last/0/***/0/.", "none/0/***/0/."} {
				amended, _ := impl.AmendEdition(list, year, clause(s))
				overwriteLibrary(amended)
			}
		}
		for _, e := range list {
			changed, _ := impl.ChangedClauses(e.Clauses, rules)
			overwrite(changed, "own")
			changed, _ = impl.ChangedClauses(rules, e.Clauses)
			overwrite(changed, "own")
			impl.SameDecisions(rules, e.Clauses)
			impl.FirstDifference(e.Clauses, rules)
		}
		years, _ := impl.YearsOf(list, "aa")
		overwrite(years, -1)
		if !kept() || !rulesKept() {
			t.Fatal("an argument, or the memory behind it, has changed")
		}
	}
	// What stands behind a list, or behind its clauses, is not found.
	years, code := impl.YearsOf(list, "own")
	wantInts(t, "YearsOf own", years, code, nil, impl.ErrNone)
	place, code := impl.EditionFor(list, 2030)
	wantInt(t, "EditionFor 2030", place, code, 3, impl.ErrNone)
	// The same list again, but for what has been changed since: nothing is kept between calls.
	list[3].Clauses[0] = clause("own/-1/***/0/.")
	years, code = impl.YearsOf(list, "own")
	wantInts(t, "YearsOf own", years, code, []int64{2016}, impl.ErrNone)
	list[0].Year = 1980
	place, code = impl.EditionFor(list, 1979)
	wantInt(t, "EditionFor 1979", place, code, 0, impl.ErrNotFound)
}

// TestLibrariesShareNoMemory writes over the clauses of each edition of a result in turn: no other edition,
// no argument and no other result may show it, also where the editions of the argument share their memory.
func TestLibrariesShareNoMemory(t *testing.T) {
	rules := append(make([]impl.Clause, 0, 2*impl.MaxClauses), sampleRulebook()...)
	list := append(make([]impl.Edition, 0, 2*impl.MaxEditions), impl.Edition{Year: 1980, Clauses: rules}, impl.Edition{Year: 1990, Clauses: rules}, impl.Edition{Year: 2000, Clauses: rules[9:]})
	before := copied(list)
	results := map[string]func() ([]impl.Edition, int64){
		"AddEdition before":        func() ([]impl.Edition, int64) { return impl.AddEdition(list, impl.Edition{Year: 1970, Clauses: rules}) },
		"AddEdition between":       func() ([]impl.Edition, int64) { return impl.AddEdition(list, impl.Edition{Year: 1985, Clauses: rules}) },
		"AddEdition behind":        func() ([]impl.Edition, int64) { return impl.AddEdition(list, impl.Edition{Year: 2010, Clauses: rules}) },
		"AmendEdition":             func() ([]impl.Edition, int64) { return impl.AmendEdition(list, 1990, clause("jet/3/***/1/.")) },
		"AmendEdition by the same": func() ([]impl.Edition, int64) { return impl.AmendEdition(list, 1990, rules[1]) },
	}
	for name, call := range results {
		want, code := call()
		if code != impl.ErrNone {
			t.Fatalf("%s: code %d", name, code)
		}
		want = copied(want)
		for i := range want {
			first, _ := call()
			second, _ := call()
			overwrite(first[i].Clauses, clause("own/3/+++/3/own"))
			for j, e := range first {
				if j != i && !sameEdition(e, want[j]) {
					t.Errorf("%s: edition %d shows what is written into edition %d", name, j, i)
				}
			}
			overwrite(first, impl.Edition{Year: -1})
			wantLibrary(t, name+", another result", second, 0, want, 0)
			wantLibrary(t, name+", its argument", list, 0, before, 0)
		}
	}
	for _, e := range list[len(list):cap(list)] {
		if e.Year != 0 || e.Clauses != nil {
			t.Errorf("the spare room has changed: %s", shownEdition(e))
		}
	}
	if behind := rules[len(rules):cap(rules)]; !slices.Equal(behind, make([]impl.Clause, len(behind))) {
		t.Errorf("the spare room has changed: %s", shownClauses(behind))
	}
}
