package tests

import (
	"fmt"
	"maps"
	"math"
	"math/rand/v2"
	"regexp"
	"slices"
	"strconv"
	"strings"
	"testing"

	"loop.example/g01010/impl"
)

// The functions have the signatures that the chapter lists, and the constants are untyped.
var (
	_ func(impl.Interest) bool                                              = impl.IsInterest
	_ func([]impl.Interest) bool                                            = impl.IsManifest
	_ func([]impl.Interest, string) (int64, int64)                          = impl.FindInterest
	_ func([]impl.Interest) (int64, int64)                                  = impl.TotalValue
	_ func([]impl.Interest) ([]string, int64)                               = impl.OwnersOf
	_ func([]impl.Interest, string) ([]string, int64)                       = impl.CodesOf
	_ func([]impl.Interest, string, string, int64) ([]impl.Interest, int64) = impl.SplitParcel
	_ func(impl.Interest) (string, int64)                                   = impl.InterestText
	_ func(string) (impl.Interest, int64)                                   = impl.ReadInterest
	_ struct {
		Code  string
		Kind  int64
		Owner string
		Value int64
		Age   int64
	} = impl.Interest{}
)

const (
	_ int8    = impl.MaxInterests + impl.InterestShip + impl.InterestFreight + impl.InterestBunkers + impl.InterestCargo
	_ float64 = impl.MaxInterests + impl.InterestShip + impl.InterestFreight + impl.InterestBunkers + impl.InterestCargo
)

// oldest is the greatest age of a ship.
const oldest = 60

func interest(code string, kind int64, owner string, value, age int64) impl.Interest {
	return impl.Interest{Code: code, Kind: kind, Owner: owner, Value: value, Age: age}
}

func ship(code string) impl.Interest    { return interest(code, impl.InterestShip, "alba", 10000, 5) }
func freight(code string) impl.Interest { return interest(code, impl.InterestFreight, "alba", 700, 0) }
func bunkers(code string) impl.Interest { return interest(code, impl.InterestBunkers, "caro", 90, 0) }
func cargo(code string) impl.Interest   { return interest(code, impl.InterestCargo, "boro", 5000, 0) }

// sampleManifest has interests of all kinds, whose owners are in another order than their codes, and
// one owner with several interests.
func sampleManifest() []impl.Interest {
	return []impl.Interest{
		interest("bunk", impl.InterestBunkers, "yank", 300, 0),
		interest("corn", impl.InterestCargo, "zulu", 5000, 0),
		interest("frt", impl.InterestFreight, "alba", 700, 0),
		interest("hemp", impl.InterestCargo, "boro", 0, 0),
		interest("ship", impl.InterestShip, "alba", 10000, 5),
		interest("tin", impl.InterestCargo, "zulu", impl.MaxAmount, 0),
		interest("wool", impl.InterestCargo, "b", 41, 0),
	}
}

// longManifest has count interests, and one owner for every three of them.
func longManifest(count int) []impl.Interest {
	list := make([]impl.Interest, count)
	for i := range list {
		list[i] = interest(string([]byte{'m', 'b' + byte(2*i)}), impl.InterestCargo, string([]byte{'z' - byte(i%3)}), impl.MaxAmount-int64(i), 0)
	}
	if count > 0 {
		list[count/2].Kind, list[count/2].Age = impl.InterestShip, oldest
	}
	return list
}

// manyCargoes has a ship and count cargoes that would make a manifest, if there were not too many of them.
func manyCargoes(count int) []impl.Interest {
	list := []impl.Interest{ship("a")}
	for i := range count {
		list = append(list, cargo(string([]byte{'b', 'a' + byte(i/26/26), 'a' + byte(i/26%26), 'a' + byte(i%26)})))
	}
	return list
}

// manifests are lists that are manifests.
func manifests() [][]impl.Interest {
	lists := [][]impl.Interest{
		{ship("a")},
		{ship("zzzzzz")},
		{interest("a", impl.InterestShip, "a", 0, 0)},
		{interest("aaaaaa", impl.InterestShip, "zzzzzz", impl.MaxAmount, oldest)},
		{ship("a"), freight("b")},
		{freight("a"), ship("b")},
		{bunkers("a"), ship("b")},
		{ship("a"), bunkers("b")},
		{cargo("a"), ship("b")},
		{cargo("a"), ship("b"), cargo("c")},
		{cargo("a"), cargo("b"), cargo("c"), ship("d")},
		{ship("a"), freight("b"), bunkers("c")},
		{bunkers("a"), freight("b"), ship("c")},
		{freight("a"), cargo("b"), bunkers("c"), cargo("d"), ship("e")},
		// A code comes before all longer ones that begin with it, and length does not matter otherwise.
		{cargo("a"), cargo("aa"), cargo("aaa"), ship("aaaaaa"), cargo("ab"), cargo("b")},
		{ship("az"), cargo("b")},
		sampleManifest(),
	}
	for count := 1; count <= impl.MaxInterests; count++ {
		lists = append(lists, longManifest(count))
	}
	for count := range impl.MaxInterests {
		lists = append(lists, manyCargoes(count))
	}
	return lists
}

// notAges are integers that are no age, not even of a ship.
var notAges = []int64{-1, oldest + 1, -oldest, 1 << 8, 1 << 32, 1<<32 + 5, -1 << 32, math.MinInt64, math.MinInt64 + 1, math.MaxInt64, math.MaxInt64 - 1}

// notInterestKinds are integers that are no kind of an interest.
var notInterestKinds = append([]int64{4}, notKinds...)

// notInterests are interests that no manifest may have.
func notInterests() []impl.Interest {
	list := []impl.Interest{{}, interest("", 0, "", 0, 0), interest("", 3, "a", 0, 0), interest("mm", 3, "", 0, 0), interest("MM", -1, "-", -1, -1)}
	for _, s := range notPartyCodes {
		for _, x := range []impl.Interest{ship("mm"), cargo("mm")} {
			codes, owners := x, x
			codes.Code, owners.Owner = s, s
			list = append(list, codes, owners)
		}
	}
	for _, kind := range notInterestKinds {
		list = append(list, interest("mm", kind, "boro", 5000, 0), interest("mm", kind, "boro", 5000, 5))
	}
	for _, value := range notAmounts {
		list = append(list, interest("mm", impl.InterestShip, "boro", value, 5), interest("mm", impl.InterestCargo, "boro", value, 0))
	}
	for kind := range int64(4) {
		for _, age := range notAges {
			list = append(list, interest("mm", kind, "boro", 5000, age))
		}
		for _, age := range []int64{1, 2, 5, oldest - 1, oldest} {
			if kind != impl.InterestShip {
				list = append(list, interest("mm", kind, "boro", 5000, age))
			}
		}
	}
	return list
}

// notManifests are lists that are no manifest.
func notManifests() [][]impl.Interest {
	lists := [][]impl.Interest{
		nil,
		{},
		longManifest(impl.MaxInterests + 1),
		manyCargoes(impl.MaxInterests),
		manyCargoes(255),
		manyCargoes(255 + impl.MaxInterests),
		manyCargoes(10000),
		make([]impl.Interest, 1),
		make([]impl.Interest, impl.MaxInterests),
		make([]impl.Interest, 100000),
		slices.Repeat([]impl.Interest{ship("a")}, 100000),
		slices.Repeat([]impl.Interest{cargo("a")}, 100000),
		// No ship.
		{cargo("a")},
		{freight("a")},
		{bunkers("a")},
		{cargo("a"), cargo("b")},
		{freight("a"), bunkers("b"), cargo("c")},
		longManifest(impl.MaxInterests)[:5],
		// Two of a kind that occurs once, side by side and apart.
		{ship("a"), ship("b")},
		{ship("a"), ship("b"), ship("c")},
		{ship("a"), cargo("b"), ship("c")},
		{ship("a"), freight("b"), freight("c")},
		{freight("a"), freight("b"), ship("c")},
		{freight("a"), ship("b"), freight("c")},
		{ship("a"), bunkers("b"), bunkers("c")},
		{bunkers("a"), bunkers("b"), ship("c")},
		{bunkers("a"), ship("b"), bunkers("c")},
		{bunkers("a"), freight("b"), ship("c"), bunkers("d")},
		{bunkers("a"), freight("b"), ship("c"), freight("d")},
		{bunkers("a"), freight("b"), ship("c"), ship("d")},
		{freight("a"), freight("b")},
		{bunkers("a"), bunkers("b")},
		// Codes that are equal or fall.
		{ship("a"), ship("a")},
		{ship("a"), cargo("a")},
		{ship("a"), freight("a")},
		{ship("b"), cargo("a")},
		{cargo("b"), ship("a")},
		{ship("aa"), cargo("a")},
		{ship("b"), cargo("aa")},
		{ship("b"), cargo("az")},
		{ship("a"), cargo("c"), cargo("b")},
		{ship("a"), cargo("c"), cargo("c")},
		{ship("a"), cargo("c"), cargo("a")},
		{cargo("b"), cargo("a"), ship("c")},
		{cargo("a"), cargo("a"), ship("c")},
	}
	for i, x := range sampleManifest() {
		lists = append(lists, slices.Insert(sampleManifest(), i, x))
		if i > 0 {
			swapped := sampleManifest()
			swapped[i-1], swapped[i] = swapped[i], swapped[i-1]
			lists = append(lists, swapped)
		}
	}
	reversed := sampleManifest()
	slices.Reverse(reversed)
	lists = append(lists, reversed)
	for _, x := range notInterests() {
		front, back := ship("a"), ship("zz")
		lists = append(lists, []impl.Interest{x}, []impl.Interest{front, x}, []impl.Interest{x, back}, []impl.Interest{cargo("a"), x, back})
	}
	return lists
}

// shownInterests writes the first interests of a list for a message, with texts quoted, and cut if
// they are long.
func shownInterests(list []impl.Interest) string {
	texts := []string{}
	for _, x := range list[:min(len(list), impl.MaxInterests+1)] {
		texts = append(texts, shownInterest(x))
	}
	return fmt.Sprintf("%d interests %v", len(list), texts)
}

func shownInterest(x impl.Interest) string {
	return fmt.Sprintf("{%.20q %d %.20q %d %d}", x.Code, x.Kind, x.Owner, x.Value, x.Age)
}

func wantInterest(t *testing.T, what string, got impl.Interest, code int64, want impl.Interest, wantCode int64) {
	t.Helper()
	if got != want || code != wantCode {
		t.Errorf("%s: got %s, code %d; want %s, code %d", what, shownInterest(got), code, shownInterest(want), wantCode)
	}
}

// isInterestByHand follows the words of the chapter.
func isInterestByHand(x impl.Interest) bool {
	mostAge := map[int64]int64{0: oldest, 1: 0, 2: 0, 3: 0}
	most, isKind := mostAge[x.Kind]
	return isKind && codePattern.MatchString(x.Code) && codePattern.MatchString(x.Owner) && x.Value >= 0 && x.Value <= 1000000000 && x.Age >= 0 && x.Age <= most
}

// isManifestByHand goes through all pairs of interests, and counts the kinds.
func isManifestByHand(list []impl.Interest) bool {
	counts := map[int64]int{}
	for i, x := range list {
		for _, other := range list[i+1:] {
			if x.Code >= other.Code {
				return false
			}
		}
		if !isInterestByHand(x) {
			return false
		}
		counts[x.Kind]++
	}
	return len(list) <= 10 && counts[0] == 1 && counts[1] <= 1 && counts[2] <= 1
}

// anyManifest often has owners of several interests, and codes that begin alike.
func anyManifest(random *rand.Rand, count int) []impl.Interest {
	codes := map[string]bool{}
	for len(codes) < count {
		codes[anyPartyCode(random)] = true
	}
	owners := []string{anyPartyCode(random), anyPartyCode(random), anyPartyCode(random), anyPartyCode(random)}
	list := []impl.Interest{}
	for _, code := range slices.Sorted(maps.Keys(codes)) {
		list = append(list, interest(code, impl.InterestCargo, owners[random.IntN(len(owners))], anyAmount(random), 0))
	}
	order := random.Perm(count)
	for kind, i := range order[:min(count, 1+random.IntN(3))] {
		list[i].Kind = int64(kind)
	}
	list[order[0]].Age = random.Int64N(oldest + 1)
	return list
}

func TestConstantsOfInterests(t *testing.T) {
	if impl.MaxInterests != 10 {
		t.Error(impl.MaxInterests)
	}
	for i, kind := range []int64{impl.InterestShip, impl.InterestFreight, impl.InterestBunkers, impl.InterestCargo} {
		if kind != int64(i) {
			t.Errorf("kind %d is %d", i, kind)
		}
	}
}

func TestIsInterest(t *testing.T) {
	for _, x := range []impl.Interest{
		ship("a"), freight("a"), bunkers("a"), cargo("a"),
		ship("zzzzzz"), freight("zzzzzz"), bunkers("zzzzzz"), cargo("zzzzzz"),
		interest("a", impl.InterestShip, "a", 0, 0),
		interest("a", impl.InterestShip, "zzzzzz", impl.MaxAmount, oldest),
		interest("a", impl.InterestShip, "b", 1, 1),
		interest("a", impl.InterestShip, "b", impl.MaxAmount-1, oldest-1),
		interest("a", impl.InterestFreight, "b", 0, 0),
		interest("a", impl.InterestFreight, "b", impl.MaxAmount, 0),
		interest("a", impl.InterestBunkers, "b", 0, 0),
		interest("a", impl.InterestBunkers, "b", impl.MaxAmount, 0),
		interest("aaaaaa", impl.InterestCargo, "aaaaaa", 0, 0),
		interest("nopqrs", impl.InterestCargo, "nopqrs", impl.MaxAmount, 0),
	} {
		if !impl.IsInterest(x) {
			t.Errorf("%s is an interest", shownInterest(x))
		}
	}
	for _, x := range notInterests() {
		if impl.IsInterest(x) {
			t.Errorf("%s is no interest", shownInterest(x))
		}
	}
}

// TestIsInterestOfAllKindsAndAges has the kinds and ages of both ranges, and those around them.
func TestIsInterestOfAllKindsAndAges(t *testing.T) {
	for kind := int64(-10); kind <= 10; kind++ {
		for age := int64(-300); age <= 300; age++ {
			x := interest("corn", kind, "boro", 5000, age)
			want := kind == 0 && age >= 0 && age <= 60 || kind >= 1 && kind <= 3 && age == 0
			if got := impl.IsInterest(x); got != want {
				t.Errorf("IsInterest %s: got %t", shownInterest(x), got)
			}
			if got := impl.IsManifest([]impl.Interest{x}); got != (want && kind == 0) {
				t.Errorf("IsManifest %s: got %t", shownInterest(x), got)
			}
		}
	}
}

func TestIsManifest(t *testing.T) {
	for _, list := range manifests() {
		if !impl.IsManifest(list) {
			t.Errorf("%s is a manifest", shownInterests(list))
		}
	}
	for _, list := range notManifests() {
		if impl.IsManifest(list) {
			t.Errorf("%s is no manifest", shownInterests(list))
		}
	}
}

// TestIsManifestOfAllKinds has all lists of up to six interests of all kinds, and of one beyond them at
// each end.
func TestIsManifestOfAllKinds(t *testing.T) {
	lists := [][]impl.Interest{{}}
	for length := 0; length <= 6; length++ {
		longer := [][]impl.Interest{}
		for _, list := range lists {
			if got := impl.IsManifest(list); got != isManifestByHand(list) {
				t.Errorf("IsManifest %s: got %t", shownInterests(list), got)
			}
			for kind := int64(-1); kind <= 4; kind++ {
				x := interest(string([]byte{'a' + byte(length)}), kind, "boro", 1, 0)
				longer = append(longer, append(slices.Clip(list), x))
			}
		}
		lists = longer
	}
}

// TestIsManifestOfAllCodes has all lists of up to three interests with a few codes.
func TestIsManifestOfAllCodes(t *testing.T) {
	codes := []string{"a", "aa", "ab", "b", "", "zzzzzz", "B"}
	for _, first := range codes {
		for _, second := range codes {
			pair := []impl.Interest{ship(first), cargo(second)}
			if got := impl.IsManifest(pair); got != isManifestByHand(pair) {
				t.Errorf("IsManifest %s: got %t", shownInterests(pair), got)
			}
			for _, third := range codes {
				list := append(slices.Clip(pair), cargo(third))
				if got := impl.IsManifest(list); got != isManifestByHand(list) {
					t.Errorf("IsManifest %s: got %t", shownInterests(list), got)
				}
			}
		}
	}
}

func TestIsManifestOfAnyInterests(t *testing.T) {
	random := fixedRandom()
	for range 20000 {
		list := anyManifest(random, 1+random.IntN(impl.MaxInterests))
		if !impl.IsManifest(list) {
			t.Fatalf("%s is a manifest", shownInterests(list))
		}
		for i := range list {
			changed := slices.Clone(list)
			switch random.IntN(4) {
			case 0:
				changed[i].Code = anyPartyCode(random)
			case 1:
				changed[i].Kind = random.Int64N(6) - 1
			case 2:
				changed[i].Age = random.Int64N(3) * oldest
			default:
				changed[i].Value = random.Int64N(2*impl.MaxAmount) - impl.MaxAmount/2
			}
			if got := impl.IsManifest(changed); got != isManifestByHand(changed) {
				t.Fatalf("IsManifest %s: got %t", shownInterests(changed), got)
			}
		}
	}
}

func TestFindInterest(t *testing.T) {
	for _, list := range manifests() {
		for i, x := range list {
			got, code := impl.FindInterest(list, x.Code)
			wantInt(t, "FindInterest "+x.Code+" in "+shownInterests(list), got, code, int64(i), impl.ErrNone)
		}
	}
	// Codes before, behind and between those of the manifest, and parts of them.
	for _, s := range []string{"a", "bun", "bunka", "bunks", "c", "cor", "corm", "corna", "coro", "fr", "g", "hemo", "ships", "shi", "t", "tinn", "wooa", "wools", "zzzzzz", "alba", "boro", "zulu", "b"} {
		got, code := impl.FindInterest(sampleManifest(), s)
		wantInt(t, "FindInterest "+s, got, code, 0, impl.ErrNotFound)
	}
	// The chapter has no error of its own for a text that is no code, so there is no interest with it.
	for _, list := range manifests() {
		for _, s := range notPartyCodes {
			got, code := impl.FindInterest(list, s)
			wantInt(t, fmt.Sprintf("FindInterest %.20q", s), got, code, 0, impl.ErrNotFound)
		}
	}
}

func TestTotalValue(t *testing.T) {
	for _, c := range []struct {
		list []impl.Interest
		want int64
	}{
		{[]impl.Interest{ship("a")}, 10000},
		{[]impl.Interest{interest("a", 0, "a", 0, 0)}, 0},
		{[]impl.Interest{interest("a", 0, "a", impl.MaxAmount, 0)}, impl.MaxAmount},
		{[]impl.Interest{interest("a", 0, "a", impl.MaxAmount, 0), interest("b", 3, "a", 1, 0)}, impl.MaxAmount + 1},
		{[]impl.Interest{interest("a", 0, "a", impl.MaxAmount-1, 0), interest("b", 3, "a", 1, 0)}, impl.MaxAmount},
		{[]impl.Interest{interest("a", 0, "a", 0, 0), interest("b", 3, "a", 0, 0), interest("c", 1, "a", 7, 0)}, 7},
		{[]impl.Interest{ship("a"), freight("b"), bunkers("c"), cargo("d")}, 10000 + 700 + 90 + 5000},
		{[]impl.Interest{cargo("a"), cargo("b"), cargo("c"), ship("d")}, 3*5000 + 10000},
		{sampleManifest(), 300 + 5000 + 700 + 10000 + impl.MaxAmount + 41},
		{longManifest(impl.MaxInterests), impl.MaxInterests*impl.MaxAmount - 45},
		{manyCargoes(impl.MaxInterests - 1), 10000 + 9*5000},
	} {
		got, code := impl.TotalValue(c.list)
		wantInt(t, "TotalValue "+shownInterests(c.list), got, code, c.want, impl.ErrNone)
	}
	full := longManifest(impl.MaxInterests)
	for i := range full {
		full[i].Value = impl.MaxAmount
	}
	got, code := impl.TotalValue(full)
	wantInt(t, "TotalValue of the greatest values", got, code, 10000000000, impl.ErrNone)
	random := fixedRandom()
	for range 5000 {
		list, want := anyManifest(random, 1+random.IntN(impl.MaxInterests)), int64(0)
		for _, x := range list {
			want += x.Value
		}
		got, code := impl.TotalValue(list)
		wantInt(t, "TotalValue "+shownInterests(list), got, code, want, impl.ErrNone)
	}
}

func TestOwnersOf(t *testing.T) {
	for _, c := range []struct {
		list []impl.Interest
		want []string
	}{
		{[]impl.Interest{ship("a")}, []string{"alba"}},
		{[]impl.Interest{interest("a", 0, "a", 0, 0)}, []string{"a"}},
		{[]impl.Interest{ship("a"), freight("b")}, []string{"alba"}},
		{[]impl.Interest{cargo("a"), ship("b")}, []string{"alba", "boro"}},
		{[]impl.Interest{ship("a"), cargo("b"), freight("c")}, []string{"alba", "boro"}},
		{[]impl.Interest{bunkers("a"), cargo("b"), ship("c")}, []string{"alba", "boro", "caro"}},
		{sampleManifest(), []string{"alba", "b", "boro", "yank", "zulu"}},
		{longManifest(1), []string{"z"}},
		{longManifest(2), []string{"y", "z"}},
		{longManifest(impl.MaxInterests), []string{"x", "y", "z"}},
		// Length does not matter, unless one begins with the other.
		{[]impl.Interest{interest("a", 3, "b", 1, 0), interest("b", 3, "ab", 1, 0), interest("c", 3, "aaaaaa", 1, 0), interest("d", 0, "a", 1, 0), interest("e", 3, "b", 1, 0)}, []string{"a", "aaaaaa", "ab", "b"}},
	} {
		got, code := impl.OwnersOf(c.list)
		wantList(t, "OwnersOf "+shownInterests(c.list), got, code, c.want, impl.ErrNone)
	}
	all := longManifest(impl.MaxInterests)
	want := []string{}
	for i := range all {
		all[i].Owner = string([]byte{'o' - byte(i)})
		want = append(want, string([]byte{'o' - byte(len(all)-1-i)}))
	}
	got, code := impl.OwnersOf(all)
	wantList(t, "OwnersOf as many as interests", got, code, want, impl.ErrNone)
}

func TestCodesOf(t *testing.T) {
	for _, c := range []struct {
		owner string
		want  []string
	}{
		{"zulu", []string{"corn", "tin"}},
		{"alba", []string{"frt", "ship"}},
		{"boro", []string{"hemp"}},
		{"b", []string{"wool"}},
		{"yank", []string{"bunk"}},
		{"a", nil},
		{"caro", nil},
		{"bo", nil},
		{"zzzzzz", nil},
		// The code of an interest is no owner.
		{"ship", nil},
		{"corn", nil},
	} {
		got, code := impl.CodesOf(sampleManifest(), c.owner)
		wantList(t, "CodesOf "+c.owner, got, code, c.want, impl.ErrNone)
	}
	// The chapter has no error for an owner without interests, whether or not it is a code.
	for _, list := range manifests() {
		for _, s := range append([]string{"mm", "missin"}, notPartyCodes...) {
			got, code := impl.CodesOf(list, s)
			wantList(t, fmt.Sprintf("CodesOf %.20q", s), got, code, nil, impl.ErrNone)
		}
	}
	got, code := impl.CodesOf(longManifest(impl.MaxInterests), "z")
	wantList(t, "CodesOf z", got, code, []string{"mb", "mh", "mn", "mt"}, impl.ErrNone)
	all := longManifest(impl.MaxInterests)
	for i := range all {
		all[i].Owner = "one"
	}
	got, code = impl.CodesOf(all, "one")
	wantList(t, "CodesOf the only owner", got, code, []string{"mb", "md", "mf", "mh", "mj", "ml", "mn", "mp", "mr", "mt"}, impl.ErrNone)
}

// TestOwnersAndCodes finds each interest of any manifests by its owner, and only by it.
func TestOwnersAndCodes(t *testing.T) {
	random := fixedRandom()
	for range 5000 {
		list := anyManifest(random, 1+random.IntN(impl.MaxInterests))
		codesByOwner := map[string][]string{}
		for _, x := range list {
			codesByOwner[x.Owner] = append(codesByOwner[x.Owner], x.Code)
		}
		owners, code := impl.OwnersOf(list)
		wantList(t, "OwnersOf "+shownInterests(list), owners, code, slices.Sorted(maps.Keys(codesByOwner)), impl.ErrNone)
		for owner, want := range codesByOwner {
			got, code := impl.CodesOf(list, owner)
			wantList(t, "CodesOf "+owner+" "+shownInterests(list), got, code, want, impl.ErrNone)
		}
	}
}

// TestManifestErrors has all functions that take a list, with arguments that would be other errors too.
func TestManifestErrors(t *testing.T) {
	for _, list := range notManifests() {
		what := shownInterests(list)
		for _, s := range []string{"a", "b", "mm", "corn", "missin", "", "A"} {
			place, code := impl.FindInterest(list, s)
			wantInt(t, "FindInterest "+s+" in "+what, place, code, 0, impl.ErrInvalid)
			codes, code := impl.CodesOf(list, s)
			wantList(t, "CodesOf "+s+" in "+what, codes, code, nil, impl.ErrInvalid)
			for _, rest := range []string{"bb", "", "a", "mm"} {
				for _, value := range []int64{0, 1, -1, math.MaxInt64} {
					split, code := impl.SplitParcel(list, s, rest, value)
					wantList(t, fmt.Sprint("SplitParcel ", s, " ", rest, " ", value, " of ", what), split, code, nil, impl.ErrInvalid)
				}
			}
		}
		total, code := impl.TotalValue(list)
		wantInt(t, "TotalValue "+what, total, code, 0, impl.ErrInvalid)
		owners, code := impl.OwnersOf(list)
		wantList(t, "OwnersOf "+what, owners, code, nil, impl.ErrInvalid)
	}
}

type splitCase struct {
	what     string
	list     []impl.Interest
	code     string
	rest     string
	value    int64
	want     []impl.Interest
	wantCode int64
}

func splitCases() []splitCase {
	first, middle, last := cargo("b"), ship("d"), cargo("f")
	list := []impl.Interest{first, middle, last}
	withValue := func(x impl.Interest, value int64) impl.Interest {
		x.Value = value
		return x
	}
	left := func(code string, value int64) impl.Interest { return withValue(cargo(code), value) }
	return []splitCase{
		// The rest comes before, behind and between the others, and right beside its parcel.
		{"before", list, "b", "a", 2000, []impl.Interest{left("a", 3000), withValue(first, 2000), middle, last}, impl.ErrNone},
		{"beside", list, "b", "ba", 2000, []impl.Interest{withValue(first, 2000), left("ba", 3000), middle, last}, impl.ErrNone},
		{"between", list, "b", "e", 2000, []impl.Interest{withValue(first, 2000), middle, left("e", 3000), last}, impl.ErrNone},
		{"behind", list, "b", "g", 2000, []impl.Interest{withValue(first, 2000), middle, last, left("g", 3000)}, impl.ErrNone},
		{"the last one, before", list, "f", "a", 1, []impl.Interest{left("a", 4999), first, middle, withValue(last, 1)}, impl.ErrNone},
		{"the last one, between", list, "f", "cc", 1, []impl.Interest{first, left("cc", 4999), middle, withValue(last, 1)}, impl.ErrNone},
		{"the last one, beside", list, "f", "ezzzzz", 1, []impl.Interest{first, middle, left("ezzzzz", 4999), withValue(last, 1)}, impl.ErrNone},
		{"the last one, behind", list, "f", "zzzzzz", 1, []impl.Interest{first, middle, withValue(last, 1), left("zzzzzz", 4999)}, impl.ErrNone},
		{"value 0", list, "b", "g", 0, []impl.Interest{withValue(first, 0), middle, last, left("g", 5000)}, impl.ErrNone},
		{"its whole value", list, "b", "g", 5000, []impl.Interest{first, middle, last, left("g", 0)}, impl.ErrNone},
		{"all but one", list, "b", "g", 4999, []impl.Interest{withValue(first, 4999), middle, last, left("g", 1)}, impl.ErrNone},
		{"a parcel without value", []impl.Interest{withValue(first, 0), middle}, "b", "g", 0, []impl.Interest{withValue(first, 0), middle, left("g", 0)}, impl.ErrNone},
		{"the greatest value", []impl.Interest{withValue(first, impl.MaxAmount), middle}, "b", "c", 1, []impl.Interest{withValue(first, 1), left("c", impl.MaxAmount-1), middle}, impl.ErrNone},
		// ErrState: a value below 0 or beyond that of the parcel.
		{"one below 0", list, "b", "g", -1, nil, impl.ErrState},
		{"one too much", list, "b", "g", 5001, nil, impl.ErrState},
		{"one more than nothing", []impl.Interest{withValue(first, 0), middle}, "b", "g", 1, nil, impl.ErrState},
		{"the least integer", list, "b", "g", math.MinInt64, nil, impl.ErrState},
		{"nearly the least integer", list, "b", "g", math.MinInt64 + 5000, nil, impl.ErrState},
		{"the greatest integer", list, "b", "g", math.MaxInt64, nil, impl.ErrState},
		{"one more than all amounts", []impl.Interest{withValue(first, impl.MaxAmount), middle}, "b", "g", impl.MaxAmount + 1, nil, impl.ErrState},
		{"low bits only", list, "b", "g", 1<<32 + 5, nil, impl.ErrState},
		// ErrState: a rest that is there already, the parcel itself, or no code.
		{"the ship", list, "b", "d", 2000, nil, impl.ErrState},
		{"another cargo", list, "b", "f", 2000, nil, impl.ErrState},
		{"a cargo before it", list, "f", "b", 2000, nil, impl.ErrState},
		{"the parcel itself", list, "b", "b", 2000, nil, impl.ErrState},
		{"the parcel itself, whole", list, "b", "b", 5000, nil, impl.ErrState},
		{"the parcel itself, empty", list, "b", "b", 0, nil, impl.ErrState},
		{"no code", list, "b", "", 2000, nil, impl.ErrState},
		{"a capital", list, "b", "G", 2000, nil, impl.ErrState},
		{"too long a code", list, "b", "ggggggg", 2000, nil, impl.ErrState},
		// ErrState: no cargo, whatever the rest and the value.
		{"a ship", list, "d", "g", 2000, nil, impl.ErrState},
		{"a ship and nothing", list, "d", "g", 0, nil, impl.ErrState},
		{"freight", []impl.Interest{middle, freight("e")}, "e", "g", 100, nil, impl.ErrState},
		{"bunkers", []impl.Interest{middle, bunkers("e")}, "e", "g", 10, nil, impl.ErrState},
		{"a ship and a bad value", list, "d", "g", -1, nil, impl.ErrState},
		{"a ship and no code", list, "d", "", 0, nil, impl.ErrState},
		// ErrNotFound comes before ErrState.
		{"a missing one", list, "c", "g", 2000, nil, impl.ErrNotFound},
		{"a missing one and a bad value", list, "c", "g", -1, nil, impl.ErrNotFound},
		{"a missing one and no code", list, "g", "", 0, nil, impl.ErrNotFound},
		{"a missing one and itself", list, "g", "g", 0, nil, impl.ErrNotFound},
		{"an owner", list, "boro", "g", 0, nil, impl.ErrNotFound},
		{"not even a code", list, "", "g", 0, nil, impl.ErrNotFound},
		{"not even a code, twice", list, "B", "", -1, nil, impl.ErrNotFound},
	}
}

func TestSplitParcel(t *testing.T) {
	for _, c := range splitCases() {
		got, code := impl.SplitParcel(c.list, c.code, c.rest, c.value)
		wantList(t, "SplitParcel "+c.what, got, code, c.want, c.wantCode)
	}
	for _, s := range notPartyCodes {
		what := fmt.Sprintf("SplitParcel with %.20q", s)
		got, code := impl.SplitParcel(sampleManifest(), "corn", s, 2000)
		wantList(t, what, got, code, nil, impl.ErrState)
		got, code = impl.SplitParcel(sampleManifest(), s, "wheat", 2000)
		wantList(t, what, got, code, nil, impl.ErrNotFound)
	}
	got, code := impl.SplitParcel(sampleManifest(), "corn", "oats", 5000)
	want := slices.Insert(sampleManifest(), 4, interest("oats", impl.InterestCargo, "zulu", 0, 0))
	wantList(t, "SplitParcel beside all kinds", got, code, want, impl.ErrNone)
}

// TestSplitParcelBesideMany splits beside one interest less than MaxInterests, and beside MaxInterests.
func TestSplitParcelBesideMany(t *testing.T) {
	for _, rest := range []string{"a", "ma", "mc", "me", "mi", "ms", "mu", "z"} {
		for _, code := range []string{"mb", "md", "mr"} {
			list := longManifest(impl.MaxInterests - 1)
			got, errorCode := impl.SplitParcel(list, code, rest, 5)
			wantList(t, "SplitParcel "+code+" into "+rest, got, errorCode, splitByHand(list, code, rest, 5), impl.ErrNone)
			got, errorCode = impl.SplitParcel(longManifest(impl.MaxInterests), code, rest, 5)
			wantList(t, "SplitParcel beside too many", got, errorCode, nil, impl.ErrState)
		}
	}
	list := []impl.Interest{ship("a"), interest("b", impl.InterestCargo, "boro", 45, 0)}
	for i := range int64(impl.MaxInterests - 2) {
		split, code := impl.SplitParcel(list, "b", string([]byte{'z' - byte(i)}), 44-i)
		if code != impl.ErrNone {
			t.Fatalf("SplitParcel for the time %d: code %d", i, code)
		}
		list = split
	}
	got, code := impl.SplitParcel(list, "b", "c", 0)
	wantList(t, "SplitParcel once too often", got, code, nil, impl.ErrState)
	total, code := impl.TotalValue(list)
	wantInt(t, "TotalValue after all splits", total, code, 10045, impl.ErrNone)
}

// splitByHand puts the rest at the end, and orders the list.
func splitByHand(list []impl.Interest, code, rest string, value int64) []impl.Interest {
	split := []impl.Interest{}
	for _, x := range list {
		if x.Code == code {
			split = append(split, interest(rest, 3, x.Owner, x.Value-value, 0))
			x.Value = value
		}
		split = append(split, x)
	}
	slices.SortFunc(split, func(x, y impl.Interest) int { return strings.Compare(x.Code, y.Code) })
	return split
}

// checkSplitParcel compares one split with the words of the chapter, and with the totals.
func checkSplitParcel(t *testing.T, list []impl.Interest, code, rest string, value int64) {
	t.Helper()
	what := fmt.Sprintf("SplitParcel %q into %q and %d of %s", code, rest, value, shownInterests(list))
	got, errorCode := impl.SplitParcel(list, code, rest, value)
	place := slices.IndexFunc(list, func(x impl.Interest) bool { return x.Code == code })
	if place < 0 {
		wantList(t, what, got, errorCode, nil, impl.ErrNotFound)
		return
	}
	want := splitByHand(list, code, rest, value)
	if list[place].Kind != 3 || value < 0 || value > list[place].Value || !isManifestByHand(want) {
		wantList(t, what, got, errorCode, nil, impl.ErrState)
		return
	}
	wantList(t, what, got, errorCode, want, impl.ErrNone)
	before, _ := impl.TotalValue(list)
	after, errorCode := impl.TotalValue(got)
	wantInt(t, "TotalValue after "+what, after, errorCode, before, impl.ErrNone)
	owners, _ := impl.OwnersOf(list)
	still, errorCode := impl.OwnersOf(got)
	wantList(t, "OwnersOf after "+what, still, errorCode, owners, impl.ErrNone)
}

// TestSplittingKeepsTheTotal is promise 7.
func TestSplittingKeepsTheTotal(t *testing.T) {
	for _, list := range manifests() {
		for _, x := range list {
			for _, rest := range []string{"a", "ba", "mm", "zzzzzz", "ship", ""} {
				for _, value := range []int64{0, 1, x.Value / 2, x.Value - 1, x.Value, x.Value + 1, -1} {
					checkSplitParcel(t, list, x.Code, rest, value)
				}
			}
		}
	}
	random := fixedRandom()
	for range 20000 {
		list := anyManifest(random, 1+random.IntN(impl.MaxInterests))
		x := list[random.IntN(len(list))]
		checkSplitParcel(t, list, x.Code, anyPartyCode(random), random.Int64N(x.Value+2))
		checkSplitParcel(t, list, anyPartyCode(random), anyPartyCode(random), random.Int64N(x.Value+2))
		checkSplitParcel(t, list, x.Code, list[random.IntN(len(list))].Code, x.Value)
	}
}

// interestText follows the words of the chapter.
func interestText(x impl.Interest) string {
	return fmt.Sprintf("%s/%d/%s/%d.%02d/%d", x.Code, x.Kind, x.Owner, x.Value/100, x.Value%100, x.Age)
}

func TestInterestText(t *testing.T) {
	for _, c := range []struct {
		x    impl.Interest
		want string
	}{
		{cargo("corn"), "corn/3/boro/50.00/0"},
		{ship("ship"), "ship/0/alba/100.00/5"},
		{freight("f"), "f/1/alba/7.00/0"},
		{bunkers("b"), "b/2/caro/0.90/0"},
		{interest("a", impl.InterestShip, "a", 0, 0), "a/0/a/0.00/0"},
		{interest("zzzzzz", impl.InterestShip, "aaaaaa", impl.MaxAmount, oldest), "zzzzzz/0/aaaaaa/10000000.00/60"},
		{interest("a", impl.InterestCargo, "b", 1, 0), "a/3/b/0.01/0"},
		{interest("a", impl.InterestCargo, "b", 10, 0), "a/3/b/0.10/0"},
		{interest("a", impl.InterestCargo, "b", 99, 0), "a/3/b/0.99/0"},
		{interest("a", impl.InterestCargo, "b", 123456789, 0), "a/3/b/1234567.89/0"},
		{interest("a", impl.InterestShip, "b", 100, 10), "a/0/b/1.00/10"},
	} {
		got, code := impl.InterestText(c.x)
		wantText(t, "InterestText "+shownInterest(c.x), got, code, c.want, impl.ErrNone)
	}
	for _, x := range notInterests() {
		got, code := impl.InterestText(x)
		wantText(t, "InterestText "+shownInterest(x), got, code, "", impl.ErrInvalid)
	}
}

// TestInterestsAreRecovered is promise 1 for interests.
func TestInterestsAreRecovered(t *testing.T) {
	random := fixedRandom()
	codes := []string{"a", "z", "aa", "az", "corn", "ship", "aaaaaa", "zzzzzz", anyPartyCode(random), anyPartyCode(random)}
	texts := map[string]impl.Interest{}
	check := func(x impl.Interest) {
		t.Helper()
		text, errorCode := impl.InterestText(x)
		wantText(t, "InterestText "+shownInterest(x), text, errorCode, interestText(x), impl.ErrNone)
		got, errorCode := impl.ReadInterest(text)
		wantInterest(t, "ReadInterest "+text, got, errorCode, x, impl.ErrNone)
		if other, known := texts[text]; known && other != x {
			t.Errorf("%q is the text of %s and of %s", text, shownInterest(x), shownInterest(other))
		}
		texts[text] = x
	}
	for kind := range int64(4) {
		for _, code := range codes {
			for _, owner := range codes {
				for _, value := range []int64{0, 1, 9, 10, 99, 100, 101, 5000, impl.MaxAmount - 1, impl.MaxAmount, anyAmount(random)} {
					check(interest(code, kind, owner, value, 0))
				}
			}
		}
	}
	for age := range int64(oldest + 1) {
		check(interest("ship", impl.InterestShip, "alba", anyAmount(random), age))
	}
	for range 20000 {
		for _, x := range anyManifest(random, 3) {
			check(x)
		}
	}
}

func TestReadInterestErrors(t *testing.T) {
	texts := []string{
		// Slashes are missing, doubled, or too many.
		"", "/", "//", "///", "////", "/////", "-", "0", "corn", "corn/3", "corn/3/boro", "corn/3/boro/50.00", "corn/3/boro/50.00/", "/3/boro/50.00/0", "corn//boro/50.00/0", "corn/3//50.00/0", "corn/3/boro//0",
		"corn3/boro/50.00/0", "corn/3boro/50.00/0", "corn/3/boro50.00/0", "corn/3/boro/50.000", "3/boro/50.00/0", "corn/boro/50.00/0", "corn/3/50.00/0", "corn/3/boro/0",
		"corn//3/boro/50.00/0", "corn/3//boro/50.00/0", "corn/3/boro//50.00/0", "corn/3/boro/50.00//0", "/corn/3/boro/50.00/0", "corn/3/boro/50.00/0/", "corn/3/boro/50.00/0/0", "corn/3/boro/50.00/0//", "corn/3/boro/50.00/0/0/0",
		"corn/3/boro/50/00/0", "corn/3/bo/ro/50.00/0", "co/rn/3/boro/50.00/0", "corn\\3\\boro\\50.00\\0", "corn 3 boro 50.00 0", "corn-3-boro-50.00-0", "corn/3/boro/50.00|0",
		// The kind has superfluous zeros or signs, is none, or is no number.
		"corn/03/boro/50.00/0", "corn/00/boro/50.00/0", "corn/003/boro/50.00/0", "corn/+3/boro/50.00/0", "corn/-3/boro/50.00/0", "corn/-0/boro/50.00/0", "corn/+0/boro/50.00/0", "corn/-/boro/50.00/0", "corn/--3/boro/50.00/0",
		"corn/-1/boro/50.00/0", "corn/4/boro/50.00/0", "corn/5/boro/50.00/0", "corn/30/boro/50.00/0", "corn/33/boro/50.00/0", "corn/3.0/boro/50.00/0", "corn/3e0/boro/50.00/0", "corn/0x3/boro/50.00/0", "corn/0_3/boro/50.00/0",
		"corn/a/boro/50.00/0", "corn/cargo/boro/50.00/0", "corn/256/boro/50.00/0", "corn/4294967296/boro/50.00/0", "corn/4294967299/boro/50.00/0", "corn/9223372036854775807/boro/50.00/0", "corn/9223372036854775808/boro/50.00/0",
		"corn/-9223372036854775808/boro/50.00/0", "corn/18446744073709551616/boro/50.00/0", "corn/18446744073709551619/boro/50.00/0", "corn/\u0663/boro/50.00/0", "corn/\uff13/boro/50.00/0", "corn/\xff/boro/50.00/0", "corn/3\x00/boro/50.00/0",
		"corn/" + strings.Repeat("0", 100000) + "3/boro/50.00/0",
		// The value has superfluous zeros or signs, is none, or is no number.
		"corn/3/boro/050.00/0", "corn/3/boro/00.00/0", "corn/3/boro/+50.00/0", "corn/3/boro/-50.00/0", "corn/3/boro/-0.00/0", "corn/3/boro/-0.01/0", "corn/3/boro/+0.00/0", "corn/3/boro/50/0", "corn/3/boro/50./0", "corn/3/boro/50.0/0",
		"corn/3/boro/50.000/0", "corn/3/boro/.00/0", "corn/3/boro/.50/0", "corn/3/boro/5000/0", "corn/3/boro/50,00/0", "corn/3/boro/5.000/0", "corn/3/boro/50.00.00/0", "corn/3/boro/50.-1/0", "corn/3/boro/50.+1/0", "corn/3/boro/-/0", "corn/3/boro/./0",
		"corn/3/boro/10000000.01/0", "corn/3/boro/10000001.00/0", "corn/3/boro/10000000000.00/0", "corn/3/boro/10000000000.01/0", "corn/3/boro/42949672.96/0", "corn/3/boro/92233720368547758.07/0", "corn/3/boro/92233720368547758.08/0",
		"corn/3/boro/-92233720368547758.08/0", "corn/3/boro/184467440737095516.16/0", "corn/3/boro/184467440737095566.16/0", "corn/3/boro/0x50.00/0", "corn/3/boro/5_0.00/0", "corn/3/boro/5e1/0", "corn/3/boro/a/0", "corn/3/boro/aa.aa/0",
		"corn/3/boro/50.\uff10\uff10/0", "corn/3/boro/\xff\xff.\xff\xff/0", "corn/3/boro/" + strings.Repeat("0", 100000) + "50.00/0", "corn/3/boro/" + strings.Repeat("9", 100000) + ".00/0",
		// The age has superfluous zeros or signs, is none, is no number, or is not that of such an interest.
		"corn/3/boro/50.00/00", "corn/3/boro/50.00/+0", "corn/3/boro/50.00/-0", "corn/3/boro/50.00/-", "corn/3/boro/50.00/0.0", "corn/3/boro/50.00/0x0", "corn/3/boro/50.00/1", "corn/2/boro/50.00/1", "corn/1/boro/50.00/1", "corn/3/boro/50.00/-1",
		"corn/3/boro/50.00/60", "corn/2/boro/50.00/60", "corn/1/boro/50.00/60", "corn/3/boro/50.00/a", "corn/3/boro/50.00/0a", "ship/0/alba/100.00/05", "ship/0/alba/100.00/+5", "ship/0/alba/100.00/-5", "ship/0/alba/100.00/61", "ship/0/alba/100.00/-1",
		"ship/0/alba/100.00/060", "ship/0/alba/100.00/600", "ship/0/alba/100.00/5.0", "ship/0/alba/100.00/5e0", "ship/0/alba/100.00/0x5", "ship/0/alba/100.00/5_0", "ship/0/alba/100.00/256", "ship/0/alba/100.00/261", "ship/0/alba/100.00/4294967301",
		"ship/0/alba/100.00/9223372036854775807", "ship/0/alba/100.00/9223372036854775808", "ship/0/alba/100.00/-9223372036854775808", "ship/0/alba/100.00/18446744073709551616", "ship/0/alba/100.00/18446744073709551621", "ship/0/alba/100.00/\uff15",
		"ship/0/alba/100.00/" + strings.Repeat("0", 100000) + "5", "ship/0/alba/100.00/" + strings.Repeat("9", 100000),
		// The code or the owner is empty or none.
		"-/3/boro/50.00/0", "Corn/3/boro/50.00/0", "CORN/3/boro/50.00/0", "c0rn/3/boro/50.00/0", "abcdefg/3/boro/50.00/0", "cor\xff/3/boro/50.00/0", "caf\u00e9/3/boro/50.00/0", "corn/3/-/50.00/0", "corn/3/Boro/50.00/0", "corn/3/b0ro/50.00/0",
		"corn/3/abcdefg/50.00/0", "corn/3/bor\xff/50.00/0", "corn/3/caf\u00e9/50.00/0", "3/corn/boro/50.00/0", "corn/boro/3/50.00/0", "corn/3/50.00/boro/0", "corn/3/boro/0/50.00", "boro/50.00/corn/3/0",
		// There are blanks or other bytes before, behind or inside.
		" corn/3/boro/50.00/0", "corn/3/boro/50.00/0 ", "corn /3/boro/50.00/0", "corn/ 3/boro/50.00/0", "corn/3 /boro/50.00/0", "corn/3/ boro/50.00/0", "corn/3/boro /50.00/0", "corn/3/boro/ 50.00/0", "corn/3/boro/50.00 /0", "corn/3/boro/50.00/ 0",
		"co rn/3/boro/50.00/0", "corn/3/bo ro/50.00/0", "corn/3/boro/5 0.00/0", "corn/3/boro/50 .00/0", "corn/3/boro/50. 00/0", "corn/3/boro/50.0 0/0", "ship/0/alba/100.00/1 0", " / / / / ", "     ",
		"\ncorn/3/boro/50.00/0", "corn/3/boro/50.00/0\n", "corn/3/boro\n/50.00/0", "\tcorn/3/boro/50.00/0", "corn/3/boro/50.00/0\t", "corn/3/boro/50.00/0\r", "corn/3/boro/50.00/0\x00", "\x00corn/3/boro/50.00/0", "\ufeffcorn/3/boro/50.00/0", "corn/3/boro/50.00/0\u00a0",
		strings.Repeat("corn/3/boro/50.00/0", 10000), strings.Repeat("/", 100000), strings.Repeat("a", 100000), strings.Repeat("a", 100000) + "/3/boro/50.00/0", "corn/3/" + strings.Repeat("b", 100000) + "/50.00/0", "corn/3/boro/50.00/0" + strings.Repeat("/", 100000), strings.Repeat("\xff", 100000),
	}
	for _, s := range texts {
		got, code := impl.ReadInterest(s)
		wantInterest(t, fmt.Sprintf("ReadInterest %.40q", s), got, code, impl.Interest{}, impl.ErrSyntax)
	}
}

// interestPattern matches the texts of all interests, but also some values that are too great.
var interestPattern = regexp.MustCompile(`\A([a-z]{1,6})/(?:(0)/([a-z]{1,6})/(0|[1-9][0-9]{0,7})\.([0-9][0-9])/([0-9]|[1-5][0-9]|60)|([1-3])/([a-z]{1,6})/(0|[1-9][0-9]{0,7})\.([0-9][0-9])/(0))\z`)

// readInterestByHand takes a text apart by a pattern.
func readInterestByHand(s string) (impl.Interest, int64) {
	parts := interestPattern.FindStringSubmatch(s)
	if parts == nil {
		return impl.Interest{}, impl.ErrSyntax
	}
	// Only one of the pattern's two ways has matched, so the parts of the other one are empty.
	number := func(part string) int64 { n, _ := strconv.ParseInt(part, 10, 64); return n }
	value := number(parts[4] + parts[5] + parts[9] + parts[10])
	if value > 1000000000 {
		return impl.Interest{}, impl.ErrSyntax
	}
	return interest(parts[1], number(parts[2]+parts[7]), parts[3]+parts[8], value, number(parts[6]+parts[11])), impl.ErrNone
}

func checkReadInterest(t *testing.T, s string) {
	t.Helper()
	want, wantCode := readInterestByHand(s)
	got, code := impl.ReadInterest(s)
	wantInterest(t, fmt.Sprintf("ReadInterest %q", s), got, code, want, wantCode)
	if code == impl.ErrNone {
		text, code := impl.InterestText(got)
		wantText(t, fmt.Sprintf("InterestText of what %q tells", s), text, code, s, impl.ErrNone)
	}
}

// TestReadInterestOfChangedTexts reads all texts that differ from that of an interest in one place.
func TestReadInterestOfChangedTexts(t *testing.T) {
	for _, s := range []string{"corn/3/boro/50.00/0", "ship/0/alba/100.00/5", "a/0/b/0.00/60", "a/0/b/10000000.00/59", "zzzzzz/1/aaaaaa/10000000.00/0", "aaaaaa/2/zzzzzz/0.01/0", "a/3/a/9999999.99/0", "a/0/a/1.10/10"} {
		for changed := range changedTexts(s) {
			checkReadInterest(t, changed)
		}
	}
}

// TestReadInterestOfAllParts puts together all texts of some parts that are right and some that are not.
func TestReadInterestOfAllParts(t *testing.T) {
	words := []string{"a", "zzzzzz", "", "aaaaaaa", "A", "a ", "0", "-"}
	kinds := []string{"0", "1", "2", "3", "4", "-1", "00", "03", "+3", "", " 3", "-0"}
	values := []string{"0.00", "0.01", "50.00", "9999999.99", "10000000.00", "10000000.01", "-0.01", "-0.00", "00.00", "+1.00", "50", "", " 1.00", "1.0"}
	ages := []string{"0", "1", "9", "10", "59", "60", "61", "00", "-0", "+1", "01", "-1", "", "0 ", "0/", "60/0"}
	for _, code := range words {
		for _, kind := range kinds {
			for _, owner := range words {
				for _, value := range values {
					for _, age := range ages {
						checkReadInterest(t, strings.Join([]string{code, kind, owner, value, age}, "/"))
					}
				}
			}
		}
	}
}

func TestInterestsKeepTheirArguments(t *testing.T) {
	list, kept := inSpareRoom(sampleManifest(), cargo("zzz"), interest("own", -1, "", -1, -1), ship("zz"))
	impl.IsManifest(list)
	impl.FindInterest(list, "corn")
	impl.TotalValue(list)
	for _, rest := range []string{"a", "cc", "wheat", "zzzzzz", "corn", "tin", ""} {
		for _, value := range []int64{0, 2000, 5000, 5001} {
			split, _ := impl.SplitParcel(list, "corn", rest, value)
			for i := range split {
				split[i] = interest("own", -1, "own", -1, -1)
			}
			_ = append(split, impl.Interest{})
		}
	}
	owners, _ := impl.OwnersOf(list)
	codes, _ := impl.CodesOf(list, "alba")
	for _, i := range []int{0, 1} {
		owners[i], codes[i] = "own", "own"
	}
	if !kept() {
		t.Error("an argument, or the memory behind it, has changed")
	}
	again, code := impl.OwnersOf(list)
	wantList(t, "OwnersOf again", again, code, []string{"alba", "b", "boro", "yank", "zulu"}, impl.ErrNone)
	again, code = impl.CodesOf(list, "alba")
	wantList(t, "CodesOf again", again, code, []string{"frt", "ship"}, impl.ErrNone)
}

// TestSplitParcelSharesNoMemory splits a manifest with spare room twice, so that an insertion into it
// would show in the first result.
func TestSplitParcelSharesNoMemory(t *testing.T) {
	list := append(make([]impl.Interest, 0, impl.MaxInterests), cargo("b"), ship("c"))
	first, _ := impl.SplitParcel(list, "b", "a", 1000)
	second, _ := impl.SplitParcel(first, "b", "d", 100)
	third, _ := impl.SplitParcel(first, "a", "e", 500)
	left := func(code string, value int64) impl.Interest {
		return interest(code, impl.InterestCargo, "boro", value, 0)
	}
	wantList(t, "the manifest", list, 0, []impl.Interest{cargo("b"), ship("c")}, 0)
	wantList(t, "the first result", first, 0, []impl.Interest{left("a", 4000), left("b", 1000), ship("c")}, 0)
	wantList(t, "the second result", second, 0, []impl.Interest{left("a", 4000), left("b", 100), ship("c"), left("d", 900)}, 0)
	wantList(t, "the third result", third, 0, []impl.Interest{left("a", 500), left("b", 1000), ship("c"), left("e", 3500)}, 0)
	if behind := list[len(list):cap(list)]; !slices.Equal(behind, make([]impl.Interest, impl.MaxInterests-2)) {
		t.Errorf("the spare room has changed: %s", shownInterests(behind))
	}
}
