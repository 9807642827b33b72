package tests

import (
	"fmt"
	"maps"
	"math"
	"math/rand/v2"
	"regexp"
	"slices"
	"strconv"
	"strings"
	"testing"

	"loop.example/g01010/impl"
)

// The functions have the signatures that the chapter lists, and the constants are untyped.
var (
	_ func(string) bool                                    = impl.IsPartyCode
	_ func([]impl.Party) bool                              = impl.IsRegister
	_ func([]impl.Party, string) (int64, int64)            = impl.FindParty
	_ func([]impl.Party, impl.Party) ([]impl.Party, int64) = impl.AddParty
	_ func([]impl.Party, int64) ([]string, int64)          = impl.PartiesOf
	_ func([]impl.Party, string) (string, int64)           = impl.ActsFor
	_ func([]impl.Party, string) ([]string, int64)         = impl.ClientsOf
	_ func(impl.Party) (string, int64)                     = impl.PartyText
	_ func(string) (impl.Party, int64)                     = impl.ReadParty
	_ struct {
		Code  string
		Kind  int64
		Agent string
	} = impl.Party{}
)

const (
	_ int8    = impl.MaxParties + impl.MaxCode
	_ float64 = impl.MaxParties + impl.MaxCode
	_ int8    = impl.PartyOwner + impl.PartyCargo + impl.PartyInsurer + impl.PartySalvor + impl.PartyAdjuster
	_ float64 = impl.PartyOwner + impl.PartyCargo + impl.PartyInsurer + impl.PartySalvor + impl.PartyAdjuster
)

func party(code string, kind int64, agent string) impl.Party {
	return impl.Party{Code: code, Kind: kind, Agent: agent}
}

// sampleRegister has an agent with several clients, before and behind it, one with a single client,
// parties with neither agents nor clients, and no insurer.
func sampleRegister() []impl.Party {
	return []impl.Party{
		party("aa", impl.PartyCargo, "boro"),
		party("alba", impl.PartyOwner, ""),
		party("boro", impl.PartyAdjuster, ""),
		party("caro", impl.PartyCargo, "boro"),
		party("d", impl.PartySalvor, "zzzzzz"),
		party("dd", impl.PartyCargo, ""),
		party("yy", impl.PartyOwner, "boro"),
		party("zzzzzz", impl.PartySalvor, ""),
	}
}

// longRegister has count parties, each of which but the first one has it as its agent.
func longRegister(count int) []impl.Party {
	list := make([]impl.Party, count)
	for i := range list {
		list[i] = party(string([]byte{'b' + byte(i), 'b'}), int64(i%5), "bb")
	}
	if count > 0 {
		list[0].Agent = ""
	}
	return list
}

// tooLong has count parties that would make a register, if there were not too many of them.
func tooLong(count int) []impl.Party {
	list := make([]impl.Party, count)
	for i := range list {
		list[i] = party(string([]byte{'a' + byte(i/26/26), 'a' + byte(i/26%26), 'a' + byte(i%26)}), 0, "")
	}
	return list
}

// registers are lists that are registers.
func registers() [][]impl.Party {
	lists := [][]impl.Party{
		nil,
		{},
		{party("a", impl.PartyOwner, "")},
		{party("zzzzzz", impl.PartyAdjuster, "")},
		{party("aaaaaa", impl.PartyInsurer, "")},
		{party("a", 0, ""), party("b", 0, "a")},
		{party("a", 0, "b"), party("b", 0, "")},
		{party("a", 0, "b"), party("b", 0, ""), party("c", 0, "b")},
		{party("a", 0, "c"), party("b", 0, "c"), party("c", 0, "")},
		{party("a", 0, ""), party("b", 0, "a"), party("c", 0, "a")},
		{party("a", 0, "c"), party("b", 0, "d"), party("c", 0, ""), party("d", 0, "")},
		// A code comes before all longer ones that begin with it, and length does not matter otherwise.
		{party("a", 0, ""), party("aa", 0, ""), party("aaa", 0, ""), party("aaaaaa", 0, ""), party("ab", 0, ""), party("b", 0, "")},
		{party("az", 0, ""), party("b", 0, "")},
		sampleRegister(),
	}
	for count := range impl.MaxParties + 1 {
		lists = append(lists, longRegister(count))
	}
	return lists
}

// notPartyCodes are texts that are no code of a party or of an interest.
var notPartyCodes = []string{
	"", "aaaaaaa", "zzzzzzz", "abcdefg", "A", "Z", "Alba", "aLba", "albA", "ALBA", "1", "a1", "1a", "alb4", "`", "{", "`a", "{a", "a`", "a{", "a`b", "a{b", "@", "[",
	"/", "a/", "/a", "a/b", "-", "a-", "-a", "a-b", " ", "a ", " a", "a b", "\n", "a\n", "\na", "\x00", "a\x00", "\x00a", "a.b", "a_b", "a,b", "*", "\x7f",
	"\xff", "a\xff", "\xffa", "\x80", "\xe1", "\xe1a", "\u00e9", "caf\u00e9", "\u0430", "\uff41", "a\u0301", "\u00df", "\u03b1\u03b2", "\U0001d41a",
	strings.Repeat("a", 256+1), strings.Repeat("a", 1<<16+1), strings.Repeat("abc", 100000), strings.Repeat("\xff", 100000),
}

// notKinds are integers that are no kind of a party.
var notKinds = []int64{-1, 5, 6, -4, 1 << 8, 1<<8 + 1, 1 << 16, 1 << 32, 1<<32 + 1, -1 << 32, math.MinInt64, math.MinInt64 + 1, math.MaxInt64, math.MaxInt64 - 1}

// notParties are parties that no register may have; the empty text is no code, but may be an agent.
func notParties() []impl.Party {
	list := []impl.Party{{}, party("", 0, ""), party("", 0, "a"), party("mm", 0, "mm"), party("m", 3, "m"), party("mmmmmm", 1, "mmmmmm"), party("", -1, "-"), party("MM", 9, "MM")}
	for _, s := range notPartyCodes {
		list = append(list, party(s, 0, ""), party(s, 4, "alba"), party(s, 0, s))
		if s != "" {
			list = append(list, party("mm", 0, s), party("mm", 4, s))
		}
	}
	for _, kind := range notKinds {
		list = append(list, party("mm", kind, ""), party("mm", kind, "alba"), party("mm", kind, "mm"))
	}
	return list
}

// notRegisters are lists that are no register.
func notRegisters() [][]impl.Party {
	lists := [][]impl.Party{
		longRegister(impl.MaxParties + 1),
		tooLong(impl.MaxParties + 1),
		tooLong(256),
		tooLong(256 + impl.MaxParties),
		tooLong(10000),
		make([]impl.Party, 1),
		make([]impl.Party, impl.MaxParties),
		make([]impl.Party, 100000),
		slices.Repeat([]impl.Party{party("a", 0, "")}, 100000),
		// Codes that are equal or fall.
		{party("a", 0, ""), party("a", 0, "")},
		{party("a", 0, ""), party("a", 1, "")},
		{party("a", 0, "b"), party("a", 0, ""), party("b", 0, "")},
		{party("b", 0, ""), party("a", 0, "")},
		{party("b", 0, ""), party("a", 0, "b")},
		{party("aa", 0, ""), party("a", 0, "")},
		{party("b", 0, ""), party("aa", 0, "")},
		{party("b", 0, ""), party("az", 0, "")},
		{party("a", 0, ""), party("c", 0, ""), party("b", 0, "")},
		{party("a", 0, ""), party("c", 0, ""), party("c", 0, "a")},
		{party("a", 0, ""), party("c", 0, ""), party("a", 0, "c")},
		// Agents that are missing, the parties themselves, or have agents themselves.
		{party("a", 0, "b")},
		{party("a", 0, "a")},
		{party("b", 0, "a")},
		{party("a", 0, ""), party("b", 0, "aa")},
		{party("a", 0, ""), party("b", 0, "c")},
		{party("a", 0, ""), party("c", 0, "b")},
		{party("ab", 0, ""), party("b", 0, "a")},
		{party("a", 0, ""), party("b", 0, "b")},
		{party("a", 0, "a"), party("b", 0, "")},
		{party("a", 0, "b"), party("b", 0, "a")},
		{party("a", 0, ""), party("b", 0, "a"), party("c", 0, "b")},
		{party("a", 0, "b"), party("b", 0, "c"), party("c", 0, "")},
		{party("a", 0, "b"), party("b", 0, "c"), party("c", 0, "a")},
		{party("a", 0, "c"), party("b", 0, ""), party("c", 0, "b")},
		{party("a", 0, "b"), party("b", 0, "b"), party("c", 0, "")},
	}
	for i, p := range sampleRegister() {
		twice := sampleRegister()
		lists = append(lists, slices.Insert(twice, i, p))
		if i > 0 {
			swapped := sampleRegister()
			swapped[i-1], swapped[i] = swapped[i], swapped[i-1]
			lists = append(lists, swapped)
		}
	}
	reversed := sampleRegister()
	slices.Reverse(reversed)
	lists = append(lists, reversed)
	for _, p := range notParties() {
		alba, zz := party("alba", 0, ""), party("zz", 0, "")
		lists = append(lists, []impl.Party{p}, []impl.Party{alba, p}, []impl.Party{p, zz}, []impl.Party{alba, p, zz})
	}
	return lists
}

// shownParties writes the first parties of a list for a message, with texts quoted, and cut if they
// are long.
func shownParties(list []impl.Party) string {
	texts := []string{}
	for _, p := range list[:min(len(list), impl.MaxParties+1)] {
		texts = append(texts, shownParty(p))
	}
	return fmt.Sprintf("%d parties %v", len(list), texts)
}

func shownParty(p impl.Party) string { return fmt.Sprintf("{%.20q %d %.20q}", p.Code, p.Kind, p.Agent) }

func wantText(t *testing.T, what string, got string, code int64, want string, wantCode int64) {
	t.Helper()
	if got != want || code != wantCode {
		t.Errorf("%s: got %.40q, code %d; want %.40q, code %d", what, got, code, want, wantCode)
	}
}

func wantParty(t *testing.T, what string, got impl.Party, code int64, want impl.Party, wantCode int64) {
	t.Helper()
	if got != want || code != wantCode {
		t.Errorf("%s: got %s, code %d; want %s, code %d", what, shownParty(got), code, shownParty(want), wantCode)
	}
}

// codePattern matches the codes of all parties.
var codePattern = regexp.MustCompile(`\A[a-z]{1,6}\z`)

// isPartyByHand follows the words of the chapter.
func isPartyByHand(p impl.Party) bool {
	hasAgent := codePattern.MatchString(p.Agent) && p.Agent != p.Code
	return codePattern.MatchString(p.Code) && p.Kind >= 0 && p.Kind <= 4 && (hasAgent || p.Agent == "")
}

// isRegisterByHand goes through all pairs of parties.
func isRegisterByHand(list []impl.Party) bool {
	for i, p := range list {
		hasAgent := p.Agent == ""
		for j, other := range list {
			if i < j && p.Code >= other.Code {
				return false
			}
			hasAgent = hasAgent || other.Code == p.Agent && other.Agent == ""
		}
		if !hasAgent || !isPartyByHand(p) {
			return false
		}
	}
	return len(list) <= impl.MaxParties
}

// anyRegister often has parties with agents, with codes that begin alike.
func anyRegister(random *rand.Rand, count int) []impl.Party {
	codes := map[string]bool{}
	for len(codes) < count {
		codes[anyPartyCode(random)] = true
	}
	list := []impl.Party{}
	for _, code := range slices.Sorted(maps.Keys(codes)) {
		list = append(list, party(code, random.Int64N(5), ""))
	}
	// Only the parties behind the first few of a random order get agents, which are among these few.
	order := random.Perm(count)
	few := min(count, 1+random.IntN(4))
	for _, i := range order[few:] {
		if random.IntN(4) > 0 {
			list[i].Agent = list[order[random.IntN(few)]].Code
		}
	}
	return list
}

func anyPartyCode(random *rand.Rand) string {
	letters := []byte("aabzyzm")
	s := []byte{}
	for range 1 + random.IntN(impl.MaxCode) {
		s = append(s, letters[random.IntN(len(letters))])
	}
	return string(s)
}

func TestConstantsOfParties(t *testing.T) {
	if impl.MaxParties != 12 || impl.MaxCode != 6 {
		t.Error(impl.MaxParties, impl.MaxCode)
	}
	for i, kind := range []int64{impl.PartyOwner, impl.PartyCargo, impl.PartyInsurer, impl.PartySalvor, impl.PartyAdjuster} {
		if kind != int64(i) {
			t.Errorf("kind %d is %d", i, kind)
		}
	}
}

func TestIsPartyCode(t *testing.T) {
	for _, s := range []string{"a", "z", "m", "aa", "az", "za", "alba", "boro", "abcde", "aaaaaa", "zzzzzz", "nopqrs"} {
		if !impl.IsPartyCode(s) {
			t.Errorf("%q is a code", s)
		}
	}
	for _, s := range notPartyCodes {
		if impl.IsPartyCode(s) {
			t.Errorf("%.20q is no code", s)
		}
	}
}

// TestIsPartyCodeOfAllBytes puts each byte at each place of texts of all lengths up to one too many.
func TestIsPartyCodeOfAllBytes(t *testing.T) {
	for length := 1; length <= impl.MaxCode+1; length++ {
		for place := range length {
			for n := range 256 {
				letters := []byte("mazyqnb")[:length]
				letters[place] = byte(n)
				want := n >= 97 && n <= 122 && length <= impl.MaxCode
				if got := impl.IsPartyCode(string(letters)); got != want {
					t.Errorf("IsPartyCode %q: got %t", letters, got)
				}
			}
		}
	}
}

func TestIsRegister(t *testing.T) {
	for _, list := range registers() {
		if !impl.IsRegister(list) {
			t.Errorf("%s is a register", shownParties(list))
		}
	}
	for _, list := range notRegisters() {
		if impl.IsRegister(list) {
			t.Errorf("%s is no register", shownParties(list))
		}
	}
}

func TestIsRegisterOfAllKinds(t *testing.T) {
	for kind := int64(-300); kind <= 300; kind++ {
		list := []impl.Party{party("a", 0, ""), party("b", kind, "a"), party("c", 4, "")}
		if got := impl.IsRegister(list); got != (kind >= 0 && kind <= 4) {
			t.Errorf("IsRegister with the kind %d: got %t", kind, got)
		}
	}
}

// allSmallLists calls for all lists of up to three parties with a few codes and agents.
func allSmallLists(call func(list []impl.Party)) {
	parties := []impl.Party{}
	for _, code := range []string{"a", "aa", "b", "c"} {
		for _, agent := range []string{"", "a", "aa", "b", "c", "bb"} {
			parties = append(parties, party(code, 1, agent))
		}
	}
	lists := [][]impl.Party{{}}
	for range 3 {
		longer := [][]impl.Party{}
		for _, list := range lists {
			call(list)
			for _, p := range parties {
				longer = append(longer, append(slices.Clip(list), p))
			}
		}
		lists = longer
	}
	for _, list := range lists {
		call(list)
	}
}

func TestIsRegisterByItsDefinition(t *testing.T) {
	count := 0
	allSmallLists(func(list []impl.Party) {
		want := isRegisterByHand(list)
		if want {
			count++
		}
		if got := impl.IsRegister(list); got != want {
			t.Errorf("IsRegister %s: got %t", shownParties(list), got)
		}
	})
	// 4 of one party, 6 pairs and 4 triples of codes with 3 and 10 ways to have agents, and the empty one.
	if count != 1+4+6*3+4*10 {
		t.Errorf("there are %d registers", count)
	}
}

func TestIsRegisterOfAnyParties(t *testing.T) {
	random := fixedRandom()
	for range 20000 {
		list := anyRegister(random, random.IntN(impl.MaxParties+1))
		if !impl.IsRegister(list) {
			t.Fatalf("%s is a register", shownParties(list))
		}
		for i := range list {
			changed := slices.Clone(list)
			switch random.IntN(3) {
			case 0:
				changed[i].Code = anyPartyCode(random)
			case 1:
				changed[i].Agent = anyPartyCode(random)
			default:
				changed[i].Agent = list[random.IntN(len(list))].Code
			}
			if got := impl.IsRegister(changed); got != isRegisterByHand(changed) {
				t.Fatalf("IsRegister %s: got %t", shownParties(changed), got)
			}
		}
	}
}

func TestFindParty(t *testing.T) {
	for i, p := range sampleRegister() {
		got, code := impl.FindParty(sampleRegister(), p.Code)
		wantInt(t, "FindParty "+p.Code, got, code, int64(i), impl.ErrNone)
	}
	// Codes before, behind and between those of the register, and parts of them.
	for _, s := range []string{"a", "aaa", "al", "alb", "albaa", "albb", "b", "bor", "boroa", "c", "carp", "cz", "da", "ddd", "e", "y", "yyy", "z", "zzzzz", "zzzzzy"} {
		got, code := impl.FindParty(sampleRegister(), s)
		wantInt(t, "FindParty "+s, got, code, 0, impl.ErrNotFound)
	}
	for _, s := range []string{"a", "alba", "zzzzzz"} {
		for _, list := range [][]impl.Party{nil, {}} {
			got, code := impl.FindParty(list, s)
			wantInt(t, "FindParty in an empty register "+s, got, code, 0, impl.ErrNotFound)
		}
	}
	for _, list := range registers() {
		for i, p := range list {
			got, code := impl.FindParty(list, p.Code)
			wantInt(t, "FindParty "+p.Code+" in "+shownParties(list), got, code, int64(i), impl.ErrNone)
		}
	}
}

// addCase is a register, a party, and what AddParty returns for them.
type addCase struct {
	list []impl.Party
	p    impl.Party
	want []impl.Party
	code int64
}

// addCases are those in which the list is a register and the party is as described.
func addCases() []addCase {
	alba := party("alba", impl.PartyOwner, "")
	client := party("caro", impl.PartyCargo, "alba")
	full, almost := longRegister(impl.MaxParties), longRegister(impl.MaxParties-1)
	last := full[impl.MaxParties-1]
	return []addCase{
		{nil, alba, []impl.Party{alba}, impl.ErrNone},
		{[]impl.Party{}, alba, []impl.Party{alba}, impl.ErrNone},
		{nil, party("a", impl.PartyAdjuster, ""), []impl.Party{party("a", impl.PartyAdjuster, "")}, impl.ErrNone},
		{nil, party("zzzzzz", 0, ""), []impl.Party{party("zzzzzz", 0, "")}, impl.ErrNone},
		{[]impl.Party{alba}, client, []impl.Party{alba, client}, impl.ErrNone},
		{[]impl.Party{alba}, party("aa", 1, "alba"), []impl.Party{party("aa", 1, "alba"), alba}, impl.ErrNone},
		{[]impl.Party{alba}, party("alb", 1, ""), []impl.Party{party("alb", 1, ""), alba}, impl.ErrNone},
		{[]impl.Party{alba}, party("albaa", 1, ""), []impl.Party{alba, party("albaa", 1, "")}, impl.ErrNone},
		{[]impl.Party{alba, client}, party("boro", 1, "alba"), []impl.Party{alba, party("boro", 1, "alba"), client}, impl.ErrNone},
		{sampleRegister(), party("a", 2, "boro"), slices.Insert(sampleRegister(), 0, party("a", 2, "boro")), impl.ErrNone},
		{sampleRegister(), party("cc", 2, "zzzzzz"), slices.Insert(sampleRegister(), 4, party("cc", 2, "zzzzzz")), impl.ErrNone},
		{sampleRegister(), party("zzzzzy", 2, "alba"), slices.Insert(sampleRegister(), 7, party("zzzzzy", 2, "alba")), impl.ErrNone},
		{almost, last, full, impl.ErrNone},
		{full[:1], full[1], full[:2], impl.ErrNone},
		// Its code is that of another party, with the same fields or with other ones.
		{[]impl.Party{alba}, alba, nil, impl.ErrState},
		{[]impl.Party{alba}, party("alba", impl.PartySalvor, ""), nil, impl.ErrState},
		{[]impl.Party{alba, client}, party("caro", impl.PartyCargo, ""), nil, impl.ErrState},
		{[]impl.Party{alba, client}, party("alba", impl.PartyOwner, "caro"), nil, impl.ErrState},
		{full, full[0], nil, impl.ErrState},
		{full, last, nil, impl.ErrState},
		// There would be one party too many.
		{full, party("a", 0, ""), nil, impl.ErrState},
		{full, party("ccc", 0, "bb"), nil, impl.ErrState},
		{full, party("zz", 0, "bb"), nil, impl.ErrState},
		// Its agent is missing, or has an agent itself.
		{nil, client, nil, impl.ErrState},
		{[]impl.Party{alba}, party("caro", 1, "boro"), nil, impl.ErrState},
		{[]impl.Party{alba}, party("caro", 1, "alb"), nil, impl.ErrState},
		{[]impl.Party{alba}, party("caro", 1, "zz"), nil, impl.ErrState},
		{[]impl.Party{alba, client}, party("dd", 1, "caro"), nil, impl.ErrState},
		{[]impl.Party{alba, client}, party("aa", 1, "caro"), nil, impl.ErrState},
		{[]impl.Party{alba, client}, party("bb", 1, "caro"), nil, impl.ErrState},
		{sampleRegister(), party("mm", 1, "d"), nil, impl.ErrState},
		{full, party("zz", 0, "yy"), nil, impl.ErrState},
	}
}

func TestAddParty(t *testing.T) {
	for _, c := range addCases() {
		got, code := impl.AddParty(c.list, c.p)
		wantList(t, "AddParty "+shownParty(c.p)+" to "+shownParties(c.list), got, code, c.want, c.code)
	}
}

// TestAddedPartyIsFound is promise 6: parties are added at all places of registers of all lengths.
func TestAddedPartyIsFound(t *testing.T) {
	for count := range impl.MaxParties + 1 {
		for n := range count + 1 {
			code := string([]byte{'b' + byte(n), 'a'})
			for kind := range int64(5) {
				checkAddParty(t, longRegister(count), party(code, kind, ""))
				checkAddParty(t, longRegister(count), party(code, kind, "bb"))
				checkAddParty(t, longRegister(count), party(code, kind, "cb"))
				checkAddParty(t, longRegister(count), party(code[:1]+"b", kind, ""))
			}
		}
	}
	random := fixedRandom()
	for range 20000 {
		list := anyRegister(random, random.IntN(impl.MaxParties+1))
		p := party(anyPartyCode(random), random.Int64N(5), "")
		if len(list) > 0 && random.IntN(3) > 0 {
			p.Agent = list[random.IntN(len(list))].Code
		}
		checkAddParty(t, list, p)
	}
}

// checkAddParty compares with a sorted list; each other party has to keep its agent.
func checkAddParty(t *testing.T, list []impl.Party, p impl.Party) {
	t.Helper()
	what := "AddParty " + shownParty(p) + " to " + shownParties(list)
	want := append(slices.Clone(list), p)
	slices.SortStableFunc(want, func(a, b impl.Party) int { return strings.Compare(a.Code, b.Code) })
	got, code := impl.AddParty(list, p)
	if !isPartyByHand(p) {
		wantList(t, what, got, code, nil, impl.ErrInvalid)
		return
	}
	if !isRegisterByHand(want) {
		wantList(t, what, got, code, nil, impl.ErrState)
		return
	}
	wantList(t, what, got, code, want, impl.ErrNone)
	place, code := impl.FindParty(got, p.Code)
	if code != impl.ErrNone || got[place] != p {
		t.Errorf("%s: then found at %d, code %d", what, place, code)
	}
	for _, other := range list {
		before, _ := impl.ActsFor(list, other.Code)
		after, code := impl.ActsFor(got, other.Code)
		wantText(t, what+", then ActsFor "+other.Code, after, code, before, impl.ErrNone)
	}
}

func TestAddPartyErrors(t *testing.T) {
	for _, p := range notParties() {
		// ErrInvalid comes before ErrState, also if the register is full or has its code.
		for _, list := range [][]impl.Party{nil, {party("alba", 0, "")}, {party("mm", 0, "")}, sampleRegister(), longRegister(impl.MaxParties - 1), longRegister(impl.MaxParties)} {
			got, code := impl.AddParty(list, p)
			wantList(t, "AddParty "+shownParty(p), got, code, nil, impl.ErrInvalid)
		}
	}
	for _, list := range notRegisters() {
		for _, p := range []impl.Party{party("mm", 0, ""), party("a", 1, ""), party("a", 1, "b"), party("zz", 0, "a"), party("mm", 0, "missin"), {}, party("mm", 5, "")} {
			got, code := impl.AddParty(list, p)
			wantList(t, "AddParty "+shownParty(p)+" to "+shownParties(list), got, code, nil, impl.ErrInvalid)
		}
	}
}

// TestAddPartyRepairsNoRegister adds the party that a list lacks to be a register.
func TestAddPartyRepairsNoRegister(t *testing.T) {
	for _, agent := range []string{"a", "bb", "z"} {
		got, code := impl.AddParty([]impl.Party{party("b", 0, agent), party("c", 0, agent)}, party(agent, 0, ""))
		wantList(t, "AddParty of the missing agent "+agent, got, code, nil, impl.ErrInvalid)
	}
}

func TestPartiesOf(t *testing.T) {
	for _, c := range []struct {
		list []impl.Party
		kind int64
		want []string
	}{
		{sampleRegister(), impl.PartyOwner, []string{"alba", "yy"}},
		{sampleRegister(), impl.PartyCargo, []string{"aa", "caro", "dd"}},
		{sampleRegister(), impl.PartyInsurer, nil},
		{sampleRegister(), impl.PartySalvor, []string{"d", "zzzzzz"}},
		{sampleRegister(), impl.PartyAdjuster, []string{"boro"}},
		{longRegister(impl.MaxParties), impl.PartyOwner, []string{"bb", "gb", "lb"}},
		{longRegister(impl.MaxParties), impl.PartyCargo, []string{"cb", "hb", "mb"}},
		{longRegister(impl.MaxParties), impl.PartyAdjuster, []string{"fb", "kb"}},
		{longRegister(1), impl.PartyOwner, []string{"bb"}},
		{longRegister(1), impl.PartyCargo, nil},
		{nil, impl.PartyOwner, nil},
		{[]impl.Party{}, impl.PartyAdjuster, nil},
	} {
		got, code := impl.PartiesOf(c.list, c.kind)
		wantList(t, fmt.Sprint("PartiesOf ", c.kind, " ", shownParties(c.list)), got, code, c.want, impl.ErrNone)
	}
	// No party has a kind beyond the range.
	for _, kind := range notKinds {
		for _, list := range registers() {
			got, code := impl.PartiesOf(list, kind)
			wantList(t, fmt.Sprint("PartiesOf ", kind), got, code, nil, impl.ErrNone)
		}
	}
}

func TestPartiesOfOneKind(t *testing.T) {
	for kind := range int64(5) {
		list, want := longRegister(impl.MaxParties), []string{}
		for i := range list {
			list[i].Kind = kind
			want = append(want, list[i].Code)
		}
		for other := range int64(5) {
			got, code := impl.PartiesOf(list, other)
			if other == kind {
				wantList(t, fmt.Sprint("PartiesOf the only kind ", kind), got, code, want, impl.ErrNone)
			} else {
				wantList(t, fmt.Sprint("PartiesOf another kind ", other), got, code, nil, impl.ErrNone)
			}
		}
	}
}

func TestActsFor(t *testing.T) {
	for _, c := range []struct{ party, want string }{
		{"aa", "boro"},
		{"alba", "alba"},
		{"boro", "boro"},
		{"caro", "boro"},
		{"d", "zzzzzz"},
		{"dd", "dd"},
		{"yy", "boro"},
		{"zzzzzz", "zzzzzz"},
	} {
		got, code := impl.ActsFor(sampleRegister(), c.party)
		wantText(t, "ActsFor "+c.party, got, code, c.want, impl.ErrNone)
	}
	for i, p := range longRegister(impl.MaxParties) {
		got, code := impl.ActsFor(longRegister(impl.MaxParties)[:i+1], p.Code)
		wantText(t, "ActsFor "+p.Code, got, code, "bb", impl.ErrNone)
	}
}

func TestClientsOf(t *testing.T) {
	for _, c := range []struct {
		agent string
		want  []string
	}{
		{"aa", nil},
		{"alba", nil},
		{"boro", []string{"aa", "caro", "yy"}},
		{"caro", nil},
		{"d", nil},
		{"dd", nil},
		{"yy", nil},
		{"zzzzzz", []string{"d"}},
	} {
		got, code := impl.ClientsOf(sampleRegister(), c.agent)
		wantList(t, "ClientsOf "+c.agent, got, code, c.want, impl.ErrNone)
	}
	want := []string{}
	for i, p := range longRegister(impl.MaxParties) {
		if i > 0 {
			want = append(want, p.Code)
		}
		got, code := impl.ClientsOf(longRegister(impl.MaxParties)[:i+1], "bb")
		wantList(t, fmt.Sprint("ClientsOf bb among ", i+1), got, code, want, impl.ErrNone)
	}
}

// TestAgentsAndClients tells, for each pair of parties of any registers, whether one acts for the other.
func TestAgentsAndClients(t *testing.T) {
	random := fixedRandom()
	for range 5000 {
		list := anyRegister(random, random.IntN(impl.MaxParties+1))
		for _, agent := range list {
			want := []string{}
			for _, p := range list {
				if p.Agent == agent.Code {
					want = append(want, p.Code)
				}
			}
			got, code := impl.ClientsOf(list, agent.Code)
			wantList(t, "ClientsOf "+agent.Code+" "+shownParties(list), got, code, want, impl.ErrNone)
			for _, client := range got {
				acts, code := impl.ActsFor(list, client)
				wantText(t, "ActsFor "+client+" "+shownParties(list), acts, code, agent.Code, impl.ErrNone)
			}
		}
	}
}

// TestPartyLookupErrors has the order of the errors of all functions that look for a code.
func TestPartyLookupErrors(t *testing.T) {
	want := func(list []impl.Party, s string, wantCode int64) {
		t.Helper()
		what := fmt.Sprintf("%.20q in %s", s, shownParties(list))
		place, code := impl.FindParty(list, s)
		wantInt(t, "FindParty "+what, place, code, 0, wantCode)
		agent, code := impl.ActsFor(list, s)
		wantText(t, "ActsFor "+what, agent, code, "", wantCode)
		clients, code := impl.ClientsOf(list, s)
		wantList(t, "ClientsOf "+what, clients, code, nil, wantCode)
	}
	for _, list := range notRegisters() {
		for _, s := range []string{"a", "b", "alba", "mm", "missin", "", "A"} {
			want(list, s, impl.ErrInvalid)
		}
		for _, kind := range []int64{impl.PartyOwner, impl.PartyAdjuster, -1, 5} {
			got, code := impl.PartiesOf(list, kind)
			wantList(t, fmt.Sprint("PartiesOf ", kind, " in ", shownParties(list)), got, code, nil, impl.ErrInvalid)
		}
	}
	for _, list := range [][]impl.Party{nil, {}, sampleRegister(), longRegister(impl.MaxParties)} {
		for _, s := range notPartyCodes {
			want(list, s, impl.ErrInvalid)
		}
		for _, s := range []string{"a", "aaa", "missin", "mm", "zz", "bor", "boroo"} {
			want(list, s, impl.ErrNotFound)
		}
	}
}

// partyText follows the words of the chapter.
func partyText(p impl.Party) string {
	if p.Agent == "" {
		return fmt.Sprintf("%s/%d/-", p.Code, p.Kind)
	}
	return fmt.Sprintf("%s/%d/%s", p.Code, p.Kind, p.Agent)
}

func TestPartyText(t *testing.T) {
	for _, c := range []struct {
		p    impl.Party
		want string
	}{
		{party("boro", impl.PartyCargo, "alba"), "boro/1/alba"},
		{party("alba", impl.PartyOwner, ""), "alba/0/-"},
		{party("a", impl.PartyAdjuster, "zzzzzz"), "a/4/zzzzzz"},
		{party("aaaaaa", impl.PartySalvor, "a"), "aaaaaa/3/a"},
		{party("zzzzzz", impl.PartyInsurer, ""), "zzzzzz/2/-"},
		{party("a", 0, "aa"), "a/0/aa"},
	} {
		got, code := impl.PartyText(c.p)
		wantText(t, "PartyText "+shownParty(c.p), got, code, c.want, impl.ErrNone)
	}
	for _, p := range notParties() {
		got, code := impl.PartyText(p)
		wantText(t, "PartyText "+shownParty(p), got, code, "", impl.ErrInvalid)
	}
}

// TestPartiesAreRecovered is promise 1 for parties.
func TestPartiesAreRecovered(t *testing.T) {
	random := fixedRandom()
	codes := []string{"a", "z", "aa", "az", "zz", "alba", "boro", "aaaaaa", "aaaaab", "zzzzzz"}
	for range 200 {
		codes = append(codes, anyPartyCode(random))
	}
	texts := map[string]impl.Party{}
	for kind := range int64(5) {
		for _, code := range codes {
			for _, agent := range append([]string{""}, codes...) {
				p := party(code, kind, agent)
				if code == agent {
					continue
				}
				text, errorCode := impl.PartyText(p)
				wantText(t, "PartyText "+shownParty(p), text, errorCode, partyText(p), impl.ErrNone)
				got, errorCode := impl.ReadParty(text)
				wantParty(t, "ReadParty "+text, got, errorCode, p, impl.ErrNone)
				if other, known := texts[text]; known && other != p {
					t.Errorf("%q is the text of %s and of %s", text, shownParty(p), shownParty(other))
				}
				texts[text] = p
			}
		}
	}
}

func TestReadPartyErrors(t *testing.T) {
	texts := []string{
		// Slashes are missing, doubled, or too many.
		"", "/", "//", "///", "-", "0", "boro", "boro1alba", "boro/1alba", "boro1/alba", "boro/1", "boro/1/", "boro/", "/1/alba", "boro//alba", "boro//", "//alba", "/1/", "/0/-",
		"boro//1/alba", "boro/1//alba", "boro/1/alba/", "/boro/1/alba", "boro/1/alba//", "boro/1/alba/alba", "boro/1/-/", "boro/1/-/-", "boro/1/alba/-", "boro/1/a/b", "boro/1//", "boro/1/-/alba",
		"boro\\1\\alba", "boro 1 alba", "boro-1-alba", "boro|1|alba", "boro/1-alba", "boro\x2f\x2f1/alba",
		// The kind has superfluous zeros or signs, is none, or is no number.
		"boro/01/alba", "boro/00/alba", "boro/001/alba", "boro/+1/alba", "boro/-1/alba", "boro/-0/alba", "boro/+0/alba", "boro/-/alba", "boro/+/alba", "boro/--1/alba", "boro/5/alba", "boro/6/alba",
		"boro/10/alba", "boro/11/alba", "boro/1.0/alba", "boro/1e0/alba", "boro/0x1/alba", "boro/0b1/alba", "boro/1_0/alba", "boro/0_1/alba", "boro/_1/alba", "boro/1_/alba", "boro/a/alba", "boro/a/-",
		"boro/4294967296/alba", "boro/4294967297/alba", "boro/256/-", "boro/9223372036854775807/-", "boro/9223372036854775808/-", "boro/-9223372036854775808/-", "boro/18446744073709551616/-", "boro/18446744073709551617/-",
		"boro/\u0661/alba", "boro/\uff11/alba", "boro/\xff/alba", "boro/1\x00/alba", "boro/" + strings.Repeat("0", 100000) + "1/alba", "boro/" + strings.Repeat("9", 100000) + "/alba",
		// The agent is empty, the party itself, or no code.
		"boro/1/--", "boro/1/-a", "boro/1/a-", "boro/1/+", "boro/1/0", "boro/1/boro", "a/0/a", "zzzzzz/4/zzzzzz", "boro/1/Alba", "boro/1/ALBA", "boro/1/alb4", "boro/1/abcdefg", "boro/1/alb\xff", "boro/1/caf\u00e9", "boro/1/\u2212", "boro/1/*",
		// The code is empty or none.
		"-/1/alba", "-/1/-", "Boro/1/alba", "BORO/1/alba", "bor0/1/alba", "abcdefg/1/alba", "bor\xff/1/alba", "\xff/1/-", "caf\u00e9/1/-", "\uff41/1/-", "1/1/alba", "1/boro/alba", "boro/alba/1", "alba/-/1",
		// There are blanks or other bytes before, behind or inside.
		" boro/1/alba", "boro/1/alba ", "boro /1/alba", "boro/ 1/alba", "boro/1 /alba", "boro/1/ alba", "bo ro/1/alba", "boro/1/al ba", "boro/1/ -", "boro/1/- ", "boro/1/ ", "boro/ /alba", " /1/alba", "  ",
		"\nboro/1/alba", "boro/1/alba\n", "boro/1\n/alba", "boro\n/1/alba", "boro/1/-\n", "\tboro/1/alba", "boro/1/alba\t", "boro/1/alba\r", "boro/1/alba\x00", "\x00boro/1/alba", "boro/1/-\x00", "\ufeffboro/1/alba", "boro/1/alba\u00a0",
		strings.Repeat("boro/1/alba", 10000), strings.Repeat("/", 100000), strings.Repeat("a", 100000), strings.Repeat("a", 100000) + "/1/-", "a/1/" + strings.Repeat("b", 100000), "a/1/-" + strings.Repeat("/", 100000), strings.Repeat("\xff", 100000),
	}
	for _, s := range texts {
		got, code := impl.ReadParty(s)
		wantParty(t, fmt.Sprintf("ReadParty %.40q", s), got, code, impl.Party{}, impl.ErrSyntax)
	}
}

// readPartyByHand takes a text apart by a pattern.
func readPartyByHand(s string) (impl.Party, int64) {
	parts := textPattern.FindStringSubmatch(s)
	if parts == nil || parts[1] == parts[3] {
		return impl.Party{}, impl.ErrSyntax
	}
	kind, _ := strconv.ParseInt(parts[2], 10, 64)
	return party(parts[1], kind, strings.TrimPrefix(parts[3], "-")), impl.ErrNone
}

// textPattern matches the texts of all parties, and those in which a party acts for itself.
var textPattern = regexp.MustCompile(`\A([a-z]{1,6})/([0-4])/(-|[a-z]{1,6})\z`)

func checkReadParty(t *testing.T, s string) {
	t.Helper()
	want, wantCode := readPartyByHand(s)
	got, code := impl.ReadParty(s)
	wantParty(t, fmt.Sprintf("ReadParty %q", s), got, code, want, wantCode)
	if code == impl.ErrNone {
		text, code := impl.PartyText(got)
		wantText(t, fmt.Sprintf("PartyText of what %q tells", s), text, code, s, impl.ErrNone)
	}
}

// TestReadPartyOfAllShortTexts reads all texts of up to six of the bytes that matter.
func TestReadPartyOfAllShortTexts(t *testing.T) {
	for _, s := range textsUpTo(6, "a", "z", "/", "-", "0", "4", "5", " ") {
		checkReadParty(t, s)
	}
}

// TestReadPartyOfChangedTexts reads all texts that differ from that of a party in one place.
func TestReadPartyOfChangedTexts(t *testing.T) {
	for _, s := range []string{"boro/1/alba", "alba/0/-", "a/4/b", "a/0/-", "zzzzzz/4/aaaaaa", "aaaaaa/3/-", "ab/2/a", "a/2/ab"} {
		for changed := range changedTexts(s) {
			checkReadParty(t, changed)
		}
	}
}

func TestPartiesKeepTheirArguments(t *testing.T) {
	list, kept := inSpareRoom(sampleRegister(), party("zzzzzz", 9, "own"), party("own", -1, "own"))
	impl.IsRegister(list)
	impl.FindParty(list, "boro")
	impl.ActsFor(list, "caro")
	for _, p := range []impl.Party{party("a", 0, ""), party("cc", 0, "boro"), party("zzzzzz", 0, ""), party("mm", 0, "missin"), party("mm", -1, ""), party("zzzzzy", 0, "")} {
		added, _ := impl.AddParty(list, p)
		for i := range added {
			added[i] = party("own", -1, "own")
		}
		_ = append(added, impl.Party{})
	}
	codes, _ := impl.PartiesOf(list, impl.PartyCargo)
	clients, _ := impl.ClientsOf(list, "boro")
	for _, i := range []int{0, 1, 2} {
		codes[i], clients[i] = "own", "own"
	}
	if !kept() {
		t.Error("an argument, or the memory behind it, has changed")
	}
	again, code := impl.PartiesOf(list, impl.PartyCargo)
	wantList(t, "PartiesOf again", again, code, []string{"aa", "caro", "dd"}, impl.ErrNone)
	again, code = impl.ClientsOf(list, "boro")
	wantList(t, "ClientsOf again", again, code, []string{"aa", "caro", "yy"}, impl.ErrNone)
}

// TestAddedPartySharesNoMemory adds to a register with spare room, so that an append to it would
// write behind it.
func TestAddedPartySharesNoMemory(t *testing.T) {
	room := make([]impl.Party, 0, impl.MaxParties)
	first, _ := impl.AddParty(room, party("a", 0, ""))
	second, _ := impl.AddParty(first, party("b", 0, "a"))
	third, _ := impl.AddParty(first, party("c", 0, "a"))
	wantList(t, "the first register", first, 0, []impl.Party{party("a", 0, "")}, 0)
	wantList(t, "the second register", second, 0, []impl.Party{party("a", 0, ""), party("b", 0, "a")}, 0)
	wantList(t, "the third register", third, 0, []impl.Party{party("a", 0, ""), party("c", 0, "a")}, 0)
	if room = room[:cap(room)]; !slices.Equal(room, make([]impl.Party, impl.MaxParties)) {
		t.Errorf("the spare room has changed: %s", shownParties(room))
	}
}
