package tests

import (
	"fmt"
	"math"
	"slices"
	"strings"
	"testing"

	"loop.example/g01035/impl"
)

// clerk makes one with a Name that has nothing to do with the other Clerks of a list.
func clerk(id, rights, from, until, stands int) impl.Clerk {
	return impl.Clerk{Id: id, Name: "clerk", Rights: rights, From: from, Until: until, Stands: stands}
}

// sixClerks have each right, overlap, follow each other and stand in for each other.
func sixClerks() []impl.Clerk {
	return []impl.Clerk{
		clerk(2, 2, 100, 199, 0), clerk(5, 8, 150, 299, 0), clerk(7, 5, 0, 400, 2), clerk(20, 3, 50, 250, 5), clerk(21, 4, 180, 350, 5), clerk(60, 0, 90, 500, 2),
	}
}

// fullClerks has as many as may be, most of which meet limits.
func fullClerks() []impl.Clerk {
	return []impl.Clerk{
		clerk(1, 7, 0, impl.MaxDay, 0), clerk(2, 13, 0, 0, 0), clerk(3, 0, impl.MaxDay, impl.MaxDay, 2), clerk(4, 13, 0, impl.MaxDay, 99),
		clerk(50, 5, 1, impl.MaxDay-1, 2), clerk(97, 2, 0, impl.MaxDay, 98), clerk(98, 7, 100, 100, 0), clerk(99, 13, 500, 600, 0),
	}
}

// clerksInARow makes as many, each of which is there from the last day of the one before it on; each third one stands in for the one ahead of it.
func clerksInARow(count int) []impl.Clerk {
	var list []impl.Clerk
	for i := range count {
		x := clerk(3+4*i, []int{2, 8, 1, 7, 13, 0, 4, 12}[i%8], 10*i, 10*i+10, 0)
		if i%3 == 1 {
			x.From, x.Stands = 0, list[i-1].Id
		}
		list = append(list, x)
	}
	return list
}

// mixedClerks makes some out of a number, with days that many of them have in common.
func mixedClerks(mix int) []impl.Clerk {
	next := func(n int) int {
		mix = (mix*8121 + 28411) % 134456
		return mix / 7 % n
	}
	days := []int{0, 1, 9, 10, 11, 20, 21, 150, 400, impl.MaxDay - 1, impl.MaxDay}
	var list []impl.Clerk
	for i := range next(impl.MaxClerks + 1) {
		from := next(len(days))
		list = append(list, clerk(1+14*i, soundRights()[next(12)], days[from], days[from+next(len(days)-from)], 0))
	}
	for i := range list {
		if other := next(len(list)); i%2 == 1 && other%2 == 0 {
			list[i].Stands = list[other].Id
		}
	}
	return list
}

func someClerks() [][]impl.Clerk {
	lists := [][]impl.Clerk{nil, {}, sixClerks(), fullClerks(), {clerk(1, 0, 0, 0, 0)}, {clerk(99, 7, impl.MaxDay, impl.MaxDay, 0)}, {clerk(50, 13, 0, impl.MaxDay, 0)}}
	for count := 1; count <= impl.MaxClerks; count++ {
		lists = append(lists, clerksInARow(count))
	}
	for mix := range 200 {
		lists = append(lists, mixedClerks(mix))
	}
	return lists
}

// soundRights are all Rights that a Clerk may have.
func soundRights() []int {
	return []int{0, 1, 2, 3, 4, 5, 6, 7, 8, 9, 12, 13}
}

// daysOfTwo are the days of a Clerk, and of another one for whom the first one may stand in.
func daysOfTwo() [][4]int {
	return [][4]int{
		{10, 20, 10, 20}, {10, 20, 30, 40}, {30, 40, 10, 20}, {10, 30, 20, 40}, {20, 40, 10, 30}, {10, 40, 20, 30}, {20, 30, 10, 40}, {10, 20, 20, 30}, {20, 30, 10, 20},
		{0, impl.MaxDay, 10, 10}, {10, 10, 0, impl.MaxDay}, {0, 0, impl.MaxDay, impl.MaxDay}, {impl.MaxDay, impl.MaxDay, 0, 0}, {0, impl.MaxDay, 1, impl.MaxDay - 1},
	}
}

// wrongClerksAlone are invalid whatever list they are in, most of them for one reason.
func wrongClerksAlone() []impl.Clerk {
	wrong := []impl.Clerk{
		{}, clerk(0, 1, 10, 20, 0), clerk(100, 1, 10, 20, 0), clerk(12, 10, 10, 20, 0), clerk(12, 11, 10, 20, 0), clerk(12, 14, 10, 20, 0), clerk(12, 15, 10, 20, 0),
		clerk(12, 16, 10, 20, 0), clerk(12, 17, 10, 20, 0), clerk(12, 32, 10, 20, 0), clerk(12, -1, 10, 20, 0), clerk(12, -8, 10, 20, 0), clerk(12, -16, 10, 20, 0), clerk(12, 1<<32, 10, 20, 0),
		clerk(12, 1, 20, 19, 0), clerk(12, 1, 1, 0, 0), clerk(12, 1, impl.MaxDay, impl.MaxDay-1, 0), clerk(12, 1, impl.MaxDay, 0, 0),
		clerk(12, 1, -1, 20, 0), clerk(12, 1, -1, -1, 0), clerk(12, 1, 10, -1, 0), clerk(12, 1, 10, impl.MaxDay+1, 0), clerk(12, 1, impl.MaxDay+1, impl.MaxDay+1, 0), clerk(12, 1, impl.MaxDay+1, 20, 0),
		clerk(12, 1, 10, 20, 12), clerk(12, 1, 10, 20, -1), clerk(12, 1, 10, 20, 100), clerk(12, 1, 10, 20, -12), clerk(1, 1, 10, 20, 1), clerk(99, 1, 10, 20, 99),
	}
	for _, name := range []string{"", "abcdefghijk", "Ann", "ann bo", " ", "ann1", "\xff", "é", strings.Repeat("x", 1<<16)} {
		wrong = append(wrong, impl.Clerk{Id: 12, Name: name, Rights: 1, From: 10, Until: 20})
	}
	for _, n := range extremes {
		wrong = append(wrong, clerk(n, 1, 10, 20, 0), clerk(12, n, 10, 20, 0), clerk(12, 1, n, 20, 0), clerk(12, 1, 10, n, 0), clerk(12, 1, n, n, 0), clerk(12, 1, 10, 20, n), clerk(n, n, n, n, n))
	}
	return wrong
}

// wrongClerkLists are lists that are none of Clerks although each one in them is valid.
func wrongClerkLists() [][]impl.Clerk {
	a, b, c := clerk(5, 2, 0, 300, 0), clerk(20, 8, 0, 300, 0), clerk(60, 1, 0, 300, 5)
	return [][]impl.Clerk{
		{b, a}, {a, a}, {a, c, b}, {b, a, c}, {a, a, c}, {a, c, c}, {a, b, a}, {c, a}, {a, clerk(5, 4, 10, 20, 0)},
		{c}, {b, c}, {clerk(5, 2, 0, 300, 6)}, {a, clerk(60, 1, 0, 300, 4)}, {a, clerk(60, 1, 0, 300, 99)}, {a, b, clerk(60, 1, 0, 300, 1)}, {clerk(5, 2, 0, 300, 99), b},
		{clerk(5, 2, 0, 300, 20), clerk(20, 1, 0, 300, 5)}, {clerk(5, 2, 0, 300, 20), clerk(20, 1, 0, 300, 60), clerk(60, 1, 0, 300, 0)}, {a, clerk(20, 1, 0, 300, 5), clerk(60, 1, 0, 300, 20)},
		{clerk(5, 2, 0, 300, 20), clerk(20, 1, 0, 300, 60), clerk(60, 1, 0, 300, 5)}, {clerk(1, 2, 0, 300, 60), a, clerk(20, 8, 0, 300, 5), c},
		clerksInARow(impl.MaxClerks + 1), clerksInARow(impl.MaxClerks + 2), append(fullClerks()[:6:6], clerk(99, 7, 100, 100, 0)),
		append([]impl.Clerk{clerk(1, 1, 0, 300, 0), clerk(2, 1, 0, 300, 0)}, clerksInARow(7)...),
	}
}

// wrongClerks are lists that are none of Clerks.
func wrongClerks() [][]impl.Clerk {
	lists := append(wrongClerkLists(), make([]impl.Clerk, 1<<12))
	a, b := clerk(5, 2, 0, 300, 0), clerk(60, 9, 0, 300, 0)
	for _, wrong := range wrongClerksAlone() {
		lists = append(lists, []impl.Clerk{wrong}, []impl.Clerk{a, wrong}, []impl.Clerk{wrong, b}, []impl.Clerk{a, wrong, b})
	}
	return lists
}

// validClerk reports whether one is, by the numbers of the document.
func validClerk(x impl.Clerk) bool {
	stands := x.Stands == 0 || x.Stands > 0 && x.Stands < 100 && x.Stands != x.Id
	return x.Id > 0 && x.Id < 100 && wordly(x.Name) && slices.Contains(soundRights(), x.Rights) && x.From > -1 && x.From <= x.Until && x.Until < 20001 && stands
}

// areClerksByPairs compares each Clerk with each other one, wherever they stand.
func areClerksByPairs(list []impl.Clerk) bool {
	for i, x := range list {
		if !validClerk(x) {
			return false
		}
		found := x.Stands == 0
		for j, y := range list {
			if i < j && x.Id >= y.Id {
				return false
			}
			found = found || y.Id == x.Stands && y.Stands == 0
		}
		if !found {
			return false
		}
	}
	return len(list) <= 8
}

// rightsIn adds up the constants that are in some of the Rights.
func rightsIn(rights ...int) int {
	sum := 0
	for _, right := range []int{1, 2, 4, 8} {
		if slices.ContainsFunc(rights, func(r int) bool { return r/right%2 == 1 }) {
			sum += right
		}
	}
	return sum
}

// usableOn returns the rights that a Clerk may use on a day.
func usableOn(list []impl.Clerk, x impl.Clerk, day int) int {
	if day < x.From || day > x.Until {
		return 0
	}
	for _, y := range list {
		both := rightsIn(x.Rights, y.Rights)
		if y.Id == x.Stands && (day < y.From || day > y.Until) && slices.Contains(soundRights(), both) {
			return both
		}
	}
	return x.Rights
}

// mayUse reports whether rights are all in usable ones.
func mayUse(usable, rights int) bool {
	return rightsIn(usable, rights) == usable
}

// ableOn returns the Ids of all Clerks who may do what needs rights on a day.
func ableOn(list []impl.Clerk, rights, day int) []int {
	var ids []int
	for _, x := range list {
		if mayUse(usableOn(list, x, day), rights) {
			ids = append(ids, x.Id)
		}
	}
	return ids
}

// withClerk returns the list with another Clerk in the place of the one with the same Id.
func withClerk(list []impl.Clerk, x impl.Clerk) []impl.Clerk {
	changed := slices.Clone(list)
	for i := range changed {
		if changed[i].Id == x.Id {
			changed[i] = x
		}
	}
	return changed
}

// daysAroundClerks are all days on which the rights that somebody may use can change, and days beside them.
func daysAroundClerks(list []impl.Clerk) []int {
	days := []int{0, impl.MaxDay}
	for _, x := range list {
		for _, day := range []int{x.From - 1, x.From, x.From + 1, x.Until - 1, x.Until, x.Until + 1} {
			if day >= 0 && day <= impl.MaxDay {
				days = append(days, day)
			}
		}
	}
	slices.Sort(days)
	return slices.Compact(days)
}

func checkRightsOn(t *testing.T, list []impl.Clerk, id, day, want int) {
	t.Helper()
	if rights, ok := impl.RightsOn(list, id, day); !ok || rights != want {
		t.Errorf("RightsOn(%v, %d, %d) = %d, %v", list, id, day, rights, ok)
	}
}

func checkNoRightsOn(t *testing.T, list []impl.Clerk, id, day int) {
	t.Helper()
	if rights, ok := impl.RightsOn(list, id, day); ok || rights != 0 {
		t.Errorf("RightsOn(%s, %d, %d) = %d, %v", brief(list), id, day, rights, ok)
	}
}

func checkMayDo(t *testing.T, list []impl.Clerk, id, rights, day int, want bool) {
	t.Helper()
	if may, ok := impl.MayDo(list, id, rights, day); !ok || may != want {
		t.Errorf("MayDo(%v, %d, %d, %d) = %v, %v", list, id, rights, day, may, ok)
	}
}

func checkNotMayDo(t *testing.T, list []impl.Clerk, id, rights, day int) {
	t.Helper()
	if may, ok := impl.MayDo(list, id, rights, day); ok || may {
		t.Errorf("MayDo(%s, %d, %d, %d) = %v, %v", brief(list), id, rights, day, may, ok)
	}
}

func checkWhoMay(t *testing.T, list []impl.Clerk, rights, day int, want ...int) {
	t.Helper()
	if ids, ok := impl.WhoMay(list, rights, day); !ok || !slices.Equal(ids, want) {
		t.Errorf("WhoMay(%v, %d, %d) = %v, %v", list, rights, day, ids, ok)
	}
}

func checkNotWhoMay(t *testing.T, list []impl.Clerk, rights, day int) {
	t.Helper()
	if ids, ok := impl.WhoMay(list, rights, day); ok || len(ids) != 0 {
		t.Errorf("WhoMay(%s, %d, %d) = %v, %v", brief(list), rights, day, ids, ok)
	}
}

func checkPairFor(t *testing.T, list []impl.Clerk, day, destroys, audits int) {
	t.Helper()
	if a, b, ok := impl.PairFor(list, day); !ok || a != destroys || b != audits {
		t.Errorf("PairFor(%v, %d) = %d, %d, %v", list, day, a, b, ok)
	}
}

func checkNoPairFor(t *testing.T, list []impl.Clerk, day int) {
	t.Helper()
	if a, b, ok := impl.PairFor(list, day); ok || a != 0 || b != 0 {
		t.Errorf("PairFor(%s, %d) = %d, %d, %v", brief(list), day, a, b, ok)
	}
}

// clerkAct is a function that changes a list of Clerks, with all other arguments fixed.
type clerkAct struct {
	name string
	act  func([]impl.Clerk) ([]impl.Clerk, bool)
}

func giving(id, right int) clerkAct {
	return clerkAct{fmt.Sprintf("GiveRight(%d, %d)", id, right), func(list []impl.Clerk) ([]impl.Clerk, bool) { return impl.GiveRight(list, id, right) }}
}

func taking(id, right int) clerkAct {
	return clerkAct{fmt.Sprintf("TakeRight(%d, %d)", id, right), func(list []impl.Clerk) ([]impl.Clerk, bool) { return impl.TakeRight(list, id, right) }}
}

func standing(id, other int) clerkAct {
	return clerkAct{fmt.Sprintf("StandFor(%d, %d)", id, other), func(list []impl.Clerk) ([]impl.Clerk, bool) { return impl.StandFor(list, id, other) }}
}

func checkClerks(t *testing.T, list []impl.Clerk, a clerkAct, want []impl.Clerk) {
	t.Helper()
	if changed, ok := a.act(list); !ok || !slices.Equal(changed, want) {
		t.Errorf("%s of %v = %v, %v", a.name, list, changed, ok)
	}
}

func checkNoClerks(t *testing.T, list []impl.Clerk, acts ...clerkAct) {
	t.Helper()
	for _, a := range acts {
		if changed, ok := a.act(list); ok || len(changed) != 0 {
			t.Errorf("%s of %s = %s, %v", a.name, brief(list), brief(changed), ok)
		}
	}
}

// checkClerksOr looks for a list where it is one of Clerks, and for a failure elsewhere.
func checkClerksOr(t *testing.T, list []impl.Clerk, a clerkAct, want []impl.Clerk) {
	t.Helper()
	if areClerksByPairs(want) {
		checkClerks(t, list, a, want)
	} else {
		checkNoClerks(t, list, a)
	}
}

func checkDaysWithout(t *testing.T, list []impl.Clerk, rights, from, to int, want ...int) {
	t.Helper()
	if days, ok := impl.DaysWithout(list, rights, from, to); !ok || !slices.Equal(days, want) {
		t.Errorf("DaysWithout(%v, %d, %d, %d) = %v, %v", list, rights, from, to, days, ok)
	}
}

func checkNoDaysWithout(t *testing.T, list []impl.Clerk, rights, from, to int) {
	t.Helper()
	if days, ok := impl.DaysWithout(list, rights, from, to); ok || len(days) != 0 {
		t.Errorf("DaysWithout(%s, %d, %d, %d) = %v, %v", brief(list), rights, from, to, days, ok)
	}
}

// checkNoClerkId hands an Id that is not in the list, or a list that is none of Clerks, to each function that takes an Id.
func checkNoClerkId(t *testing.T, list []impl.Clerk, id int) {
	t.Helper()
	for _, day := range []int{0, 10, 100, impl.MaxDay} {
		checkNoRightsOn(t, list, id, day)
		for _, rights := range []int{1, 2, 8, 10, 15} {
			checkNotMayDo(t, list, id, rights, day)
		}
	}
	for _, right := range []int{1, 2, 4, 8} {
		checkNoClerks(t, list, giving(id, right), taking(id, right))
	}
	for _, other := range []int{0, 1, 2, 5, 20, id} {
		checkNoClerks(t, list, standing(id, other))
	}
}

// checkNoneOfClerks hands a list that is none of Clerks to each function.
func checkNoneOfClerks(t *testing.T, list []impl.Clerk) {
	t.Helper()
	if impl.AreClerks(list) {
		t.Errorf("%s are Clerks", brief(list))
	}
	for _, id := range []int{-1, 0, 1, 5, 12, 20, 60, 99, 100} {
		checkNoClerkId(t, list, id)
	}
	for _, x := range list[:min(len(list), 10)] {
		checkNoClerkId(t, list, x.Id)
	}
	for _, day := range []int{0, 10, 100, impl.MaxDay} {
		checkNoPairFor(t, list, day)
		for _, rights := range []int{1, 2, 4, 8, 10, 15} {
			checkNotWhoMay(t, list, rights, day)
			checkNoDaysWithout(t, list, rights, day, day)
			checkNoDaysWithout(t, list, rights, max(0, day-200), day)
		}
	}
}

// checkNoClerkDay hands a number that is no day to each function that takes a day.
func checkNoClerkDay(t *testing.T, list []impl.Clerk, day int) {
	t.Helper()
	checkNoPairFor(t, list, day)
	for _, x := range list {
		checkNoRightsOn(t, list, x.Id, day)
	}
	for rights := 1; rights <= 15; rights++ {
		checkNotWhoMay(t, list, rights, day)
		checkNoDaysWithout(t, list, rights, day, day)
		for _, other := range []int{0, 1, 100, 200, impl.MaxDay - 200, impl.MaxDay - 1, impl.MaxDay} {
			checkNoDaysWithout(t, list, rights, day, other)
			checkNoDaysWithout(t, list, rights, other, day)
		}
		for _, x := range list {
			checkNotMayDo(t, list, x.Id, rights, day)
		}
	}
}

// checkClerksOn compares what each Clerk may do on a day with the document's words for it.
func checkClerksOn(t *testing.T, list []impl.Clerk, day int) {
	t.Helper()
	for _, x := range list {
		usable := usableOn(list, x, day)
		checkRightsOn(t, list, x.Id, day, usable)
		for rights := 1; rights <= 15; rights++ {
			checkMayDo(t, list, x.Id, rights, day, mayUse(usable, rights))
		}
	}
	for rights := 1; rights <= 15; rights++ {
		able := ableOn(list, rights, day)
		checkWhoMay(t, list, rights, day, able...)
		if len(able) == 0 {
			checkDaysWithout(t, list, rights, day, day, day)
		} else {
			checkDaysWithout(t, list, rights, day, day)
		}
	}
	destroying, auditing := ableOn(list, 2, day), ableOn(list, 8, day)
	if len(destroying) == 0 || len(auditing) == 0 {
		checkNoPairFor(t, list, day)
	} else {
		checkPairFor(t, list, day, destroying[0], auditing[0])
	}
	checkNobodyDoesBoth(t, list, day)
}

// checkNobodyDoesBoth looks in each answer about a day whether somebody may both destroy and audit.
func checkNobodyDoesBoth(t *testing.T, list []impl.Clerk, day int) {
	t.Helper()
	for _, x := range list {
		rights, _ := impl.RightsOn(list, x.Id, day)
		destroys, _ := impl.MayDo(list, x.Id, impl.RightDestroy, day)
		audits, _ := impl.MayDo(list, x.Id, impl.RightAudit, day)
		both, _ := impl.MayDo(list, x.Id, impl.RightDestroy+impl.RightAudit, day)
		if both || destroys && audits || rights%4 >= 2 && rights >= 8 {
			t.Errorf("%d of %v may both destroy and audit on %d, with %d", x.Id, list, day, rights)
		}
	}
	destroying, _ := impl.WhoMay(list, impl.RightDestroy, day)
	auditing, _ := impl.WhoMay(list, impl.RightAudit, day)
	if slices.ContainsFunc(destroying, func(id int) bool { return slices.Contains(auditing, id) }) {
		t.Errorf("on %d, %v of %v may destroy and %v audit", day, destroying, list, auditing)
	}
	if a, b, ok := impl.PairFor(list, day); ok && a == b {
		t.Errorf("on %d, %d of %v is a pair alone", day, a, list)
	}
	for _, rights := range []int{10, 11, 14, 15} {
		checkWhoMay(t, list, rights, day)
		checkDaysWithout(t, list, rights, day, day, day)
	}
}

func TestPromise11Constants(t *testing.T) {
	if impl.MaxClerks != 8 || impl.RightFile != 1 || impl.RightDestroy != 2 || impl.RightRelease != 4 || impl.RightAudit != 8 {
		t.Error("the constants of the chapter are changed")
	}
}

func TestPromise11IsClerk(t *testing.T) {
	for _, x := range []impl.Clerk{
		clerk(1, 0, 0, 0, 0), clerk(99, 7, impl.MaxDay, impl.MaxDay, 98), clerk(98, 13, 0, impl.MaxDay, 99), clerk(2, 13, 0, impl.MaxDay, 1), clerk(50, 2, 10, 10, 0),
		clerk(50, 8, 10, 11, 0), {Id: 1, Name: "a"}, {Id: 1, Name: "abcdefghij", Rights: 7, Stands: 2}, {Id: 1, Name: "z", Until: impl.MaxDay, Stands: 99},
	} {
		if !impl.IsClerk(x) {
			t.Errorf("%v is no Clerk", x)
		}
	}
	for _, x := range wrongClerksAlone() {
		if impl.IsClerk(x) {
			t.Errorf("%s is a Clerk", brief(x))
		}
	}
	for _, list := range append(someClerks(), wrongClerkLists()...) {
		for _, x := range list {
			if !impl.IsClerk(x) {
				t.Errorf("%v is no Clerk, in whichever list", x)
			}
		}
	}
}

func TestPromise11NumbersOfAClerk(t *testing.T) {
	look := func(x impl.Clerk) {
		t.Helper()
		want := validClerk(x)
		if impl.IsClerk(x) != want {
			t.Errorf("IsClerk(%v)", x)
		}
		x.Stands = min(0, x.Stands)
		want = validClerk(x)
		if impl.AreClerks([]impl.Clerk{x}) != want {
			t.Errorf("AreClerks of %v alone", x)
		}
	}
	for id := -2; id <= 102; id++ {
		look(clerk(id, 1, 10, 20, 0))
		for stands := -2; stands <= 102; stands++ {
			look(clerk(id, 1, 10, 20, stands))
		}
	}
	for rights := -40; rights <= 70; rights++ {
		look(clerk(12, rights, 10, 20, 0))
		look(clerk(12, rights, 0, impl.MaxDay, 99))
	}
	days := []int{-2, -1, 0, 1, 9, 10, 11, impl.MaxDay - 1, impl.MaxDay, impl.MaxDay + 1, impl.MaxDay + 2}
	for _, from := range days {
		for _, until := range days {
			look(clerk(12, 1, from, until, 0))
			look(clerk(12, 1, from, until, 5))
		}
	}
}

func TestPromise11NamesAreWords(t *testing.T) {
	look := func(name string) {
		t.Helper()
		x := impl.Clerk{Id: 12, Name: name, Rights: 1, From: 10, Until: 20}
		if impl.IsClerk(x) != wordly(name) || impl.AreClerks([]impl.Clerk{clerk(5, 1, 10, 20, 0), x}) != wordly(name) {
			t.Errorf("a Clerk with the Name %.30q", name)
		}
	}
	for length := range 30 {
		look(strings.Repeat("x", length))
	}
	for c := range 256 {
		sign := string([]byte{byte(c)})
		look(sign)
		look("ann" + sign)
		look(sign + "ann")
		look("annabelle" + sign)
		look("ann" + sign + "bo")
	}
	look("é")
	look("ａ")
	look(strings.Repeat("x", 1<<20))
}

func TestPromise11ClerksMayHaveTheSameName(t *testing.T) {
	list := []impl.Clerk{{Id: 1, Name: "ann", Rights: 2, Until: 9}, {Id: 2, Name: "ann", Rights: 8, Until: 9}, {Id: 3, Name: "bo", Rights: 8, Until: 9}}
	if !impl.AreClerks(list) {
		t.Errorf("%v are no Clerks", list)
	}
	checkPairFor(t, list, 9, 1, 2)
}

func TestPromise11AreClerks(t *testing.T) {
	for _, list := range someClerks() {
		if !areClerksByPairs(list) {
			t.Fatal("the test has wrong Clerks", list)
		}
		if !impl.AreClerks(list) {
			t.Errorf("%v are no Clerks", list)
		}
	}
	for _, list := range wrongClerkLists() {
		if areClerksByPairs(list) || impl.AreClerks(list) {
			t.Errorf("%v are Clerks", list)
		}
	}
	for count := range 30 {
		if impl.AreClerks(clerksInARow(count)) != (count <= 8) {
			t.Error("AreClerks of", count)
		}
	}
	for _, x := range wrongClerksAlone() {
		if impl.AreClerks([]impl.Clerk{x}) || impl.AreClerks([]impl.Clerk{clerk(5, 2, 0, 300, 0), x}) || impl.AreClerks([]impl.Clerk{x, clerk(60, 9, 0, 300, 0)}) {
			t.Errorf("%s may be one of Clerks", brief(x))
		}
	}
	if impl.AreClerks(make([]impl.Clerk, 1<<20)) {
		t.Error("very many are Clerks")
	}
}

func TestPromise11AreClerksByPairs(t *testing.T) {
	var all []impl.Clerk
	for id := 1; id <= 4; id++ {
		for stands := range 6 {
			all = append(all, clerk(id, 1, 10, 20, stands))
		}
	}
	look := func(list ...impl.Clerk) {
		t.Helper()
		if impl.AreClerks(list) != areClerksByPairs(list) {
			t.Errorf("AreClerks(%v)", list)
		}
	}
	for _, x := range all {
		look(x)
		for _, y := range all {
			look(x, y)
			for _, z := range all {
				look(x, y, z)
			}
		}
	}
}

// TestPromise11WhoStandsIn has one for whom another stands in ahead of the other, and behind it.
func TestPromise11WhoStandsIn(t *testing.T) {
	for _, c := range []struct {
		stands []int
		want   bool
	}{
		{[]int{0, 0, 0}, true}, {[]int{2, 0, 0}, true}, {[]int{0, 1, 0}, true}, {[]int{0, 1, 1}, true}, {[]int{3, 3, 0}, true}, {[]int{2, 0, 2}, true}, {[]int{0, 0, 2}, true},
		{[]int{2, 3, 0}, false}, {[]int{2, 1, 0}, false}, {[]int{0, 1, 2}, false}, {[]int{3, 0, 2}, false}, {[]int{3, 1, 0}, false}, {[]int{2, 3, 1}, false}, {[]int{0, 3, 2}, false},
		{[]int{4, 0, 0}, false}, {[]int{0, 0, 4}, false}, {[]int{1, 0, 0}, false}, {[]int{0, 2, 0}, false}, {[]int{0, 0, 3}, false},
	} {
		list := []impl.Clerk{clerk(1, 1, 10, 20, c.stands[0]), clerk(2, 4, 10, 20, c.stands[1]), clerk(3, 5, 10, 20, c.stands[2])}
		if impl.AreClerks(list) != c.want {
			t.Errorf("AreClerks(%v)", list)
		}
	}
}

func TestPromise11WithoutClerks(t *testing.T) {
	for _, empty := range [][]impl.Clerk{nil, {}, sixClerks()[:0]} {
		if !impl.AreClerks(empty) {
			t.Error("no Clerks are none")
		}
		for _, id := range append([]int{0, 1, 2, 99, 100}, extremes...) {
			checkNoClerkId(t, empty, id)
		}
		for _, day := range []int{0, 10, impl.MaxDay} {
			checkNoPairFor(t, empty, day)
			for rights := 1; rights <= 15; rights++ {
				checkWhoMay(t, empty, rights, day)
				checkDaysWithout(t, empty, rights, day, day, day)
			}
		}
		checkDaysWithout(t, empty, 1, 5, 8, 5, 6, 7, 8)
	}
}

func TestPromise11RightsOn(t *testing.T) {
	list := sixClerks()
	for _, c := range [][]int{
		// The Id, and pairs of days and the rights on them.
		{2, 0, 0, 99, 0, 100, 2, 150, 2, 199, 2, 200, 0, impl.MaxDay, 0},
		{5, 149, 0, 150, 8, 299, 8, 300, 0},
		{7, 0, 7, 99, 7, 100, 5, 199, 5, 200, 7, 400, 7, 401, 0},
		{20, 49, 0, 50, 3, 149, 3, 150, 3, 250, 3, 251, 0, 300, 0},
		{21, 179, 0, 180, 4, 299, 4, 300, 12, 350, 12, 351, 0},
		{60, 89, 0, 90, 2, 99, 2, 100, 0, 199, 0, 200, 2, 500, 2, 501, 0},
	} {
		for i := 1; i < len(c); i += 2 {
			checkRightsOn(t, list, c[0], c[i], c[i+1])
		}
	}
	for _, id := range append([]int{0, 1, 3, 6, 59, 61, 99, 100}, extremes...) {
		checkNoClerkId(t, list, id)
	}
}

func TestPromise11RightsOfOneClerk(t *testing.T) {
	for _, days := range [][2]int{{0, 0}, {0, 1}, {0, impl.MaxDay}, {1, 1}, {10, 20}, {10, 10}, {impl.MaxDay - 1, impl.MaxDay}, {impl.MaxDay, impl.MaxDay}} {
		for _, id := range []int{1, 2, 50, 99} {
			for _, rights := range soundRights() {
				list := []impl.Clerk{clerk(id, rights, days[0], days[1], 0)}
				for _, day := range []int{days[0], days[1], (days[0] + days[1]) / 2} {
					checkRightsOn(t, list, id, day, rights)
				}
				for _, day := range []int{days[0] - 1, days[1] + 1} {
					if day < 0 || day > impl.MaxDay {
						checkNoRightsOn(t, list, id, day)
					} else {
						checkRightsOn(t, list, id, day, 0)
					}
				}
				for _, day := range daysAroundClerks(list) {
					checkClerksOn(t, list, day)
				}
			}
		}
	}
}

func TestPromise11StandingIn(t *testing.T) {
	// Days of the other one alone, of both, of the own ones alone, and of neither.
	list := []impl.Clerk{clerk(5, 4, 10, 30, 0), clerk(9, 1, 20, 40, 5)}
	for _, c := range [][2]int{{9, 0}, {10, 0}, {19, 0}, {20, 1}, {30, 1}, {31, 5}, {40, 5}, {41, 0}} {
		checkRightsOn(t, list, 9, c[0], c[1])
		checkMayDo(t, list, 9, impl.RightRelease, c[0], c[1] == 5)
		checkMayDo(t, list, 9, impl.RightFile+impl.RightRelease, c[0], c[1] == 5)
		checkMayDo(t, list, 9, impl.RightFile, c[0], c[1] != 0)
	}
	// The one for whom another stands in gets nothing for it.
	for _, day := range []int{5, 10, 20, 30} {
		checkMayDo(t, list, 5, impl.RightFile, day, false)
	}
	// Both before the other one's days and behind them, and on a day of neither.
	list = []impl.Clerk{clerk(5, 1, 10, 40, 9), clerk(9, 4, 20, 30, 0)}
	for _, c := range [][2]int{{9, 0}, {10, 5}, {19, 5}, {20, 1}, {30, 1}, {31, 5}, {40, 5}, {41, 0}} {
		checkRightsOn(t, list, 5, c[0], c[1])
	}
	// Rights that both have are in the sum once.
	list = []impl.Clerk{clerk(5, 7, 10, 20, 0), clerk(9, 3, 30, 40, 5), clerk(12, 7, 30, 40, 5), clerk(13, 1, 30, 40, 5), clerk(14, 0, 30, 40, 5)}
	for _, id := range []int{9, 12, 13, 14} {
		checkRightsOn(t, list, id, 30, 7)
	}
	checkWhoMay(t, list, 7, 30, 9, 12, 13, 14)
	checkWhoMay(t, list, 7, 20, 5)
}

func TestPromise11RightsThatExcludeEachOther(t *testing.T) {
	for _, c := range []struct{ own, others int }{
		{2, 8}, {8, 2}, {3, 8}, {2, 9}, {6, 12}, {7, 13}, {13, 7}, {7, 8}, {8, 7}, {2, 13}, {9, 6},
	} {
		list := []impl.Clerk{clerk(5, c.others, 10, 20, 0), clerk(9, c.own, 0, 40, 5)}
		for _, day := range []int{0, 9, 10, 20, 21, 40} {
			checkRightsOn(t, list, 9, day, c.own)
			checkMayDo(t, list, 9, c.own, day, true)
			checkMayDo(t, list, 9, 10, day, false)
			checkClerksOn(t, list, day)
		}
		// Not even the rights of the other one that do not exclude the own ones.
		for right := 1; right <= 8; right *= 2 {
			checkMayDo(t, list, 9, right, 30, mayUse(c.own, right))
		}
	}
	// All rights but the one or the other of the two that exclude each other.
	list := []impl.Clerk{clerk(5, 2, 0, 9, 0), clerk(6, 8, 0, 9, 0), clerk(7, 5, 0, 40, 5), clerk(8, 5, 0, 40, 6)}
	checkRightsOn(t, list, 7, 10, 7)
	checkRightsOn(t, list, 8, 10, 13)
	checkPairFor(t, list, 10, 7, 8)
	checkPairFor(t, list, 9, 5, 6)
	checkNoPairFor(t, list, 41)
}

func TestPromise11TwoStandInForTheSameOne(t *testing.T) {
	list := []impl.Clerk{clerk(3, 1, 0, 50, 7), clerk(7, 8, 10, 20, 0), clerk(8, 4, 0, 25, 7), clerk(9, 2, 0, 50, 7)}
	checkWhoMay(t, list, impl.RightAudit, 9, 3, 8)
	checkWhoMay(t, list, impl.RightAudit, 10, 7)
	checkWhoMay(t, list, impl.RightAudit, 20, 7)
	checkWhoMay(t, list, impl.RightAudit, 21, 3, 8)
	checkWhoMay(t, list, impl.RightAudit, 26, 3)
	checkWhoMay(t, list, impl.RightAudit, 51)
	checkPairFor(t, list, 25, 9, 3)
	checkPairFor(t, list, 15, 9, 7)
	checkDaysWithout(t, list, impl.RightAudit, 48, 53, 51, 52, 53)
}

func TestPromise11TwoClerksOfAllKinds(t *testing.T) {
	for _, days := range daysOfTwo() {
		for _, own := range soundRights() {
			for _, others := range soundRights() {
				list := []impl.Clerk{clerk(4, own, days[0], days[1], 9), clerk(9, others, days[2], days[3], 0)}
				back := []impl.Clerk{clerk(4, others, days[2], days[3], 0), clerk(9, own, days[0], days[1], 4)}
				for _, day := range daysAroundClerks(list) {
					want := usableOn(list, list[0], day)
					checkRightsOn(t, list, 4, day, want)
					checkRightsOn(t, back, 9, day, want)
					checkNobodyDoesBoth(t, list, day)
				}
			}
		}
	}
}

func TestPromise11AllSomeClerks(t *testing.T) {
	for _, list := range someClerks() {
		for _, day := range daysAroundClerks(list) {
			checkClerksOn(t, list, day)
		}
	}
}

func TestPromise11MayDo(t *testing.T) {
	list := sixClerks()
	checkMayDo(t, list, 20, impl.RightFile, 50, true)
	checkMayDo(t, list, 20, impl.RightDestroy, 50, true)
	checkMayDo(t, list, 20, impl.RightFile+impl.RightDestroy, 50, true)
	checkMayDo(t, list, 20, impl.RightRelease, 50, false)
	checkMayDo(t, list, 20, impl.RightFile+impl.RightRelease, 50, false)
	checkMayDo(t, list, 20, impl.RightFile+impl.RightDestroy+impl.RightRelease, 50, false)
	checkMayDo(t, list, 20, impl.RightFile, 49, false)
	checkMayDo(t, list, 20, 15, 50, false)
	checkMayDo(t, list, 60, impl.RightFile, 150, false)
	checkMayDo(t, list, 60, impl.RightDestroy, 200, true)
	for rights := 1; rights <= 15; rights++ {
		checkMayDo(t, list, 60, rights, 150, false)
		checkMayDo(t, list, 2, rights, 99, false)
		checkMayDo(t, fullClerks(), 1, rights, 0, rights <= 7)
		checkMayDo(t, fullClerks(), 2, rights, 0, slices.Contains([]int{1, 4, 5, 8, 9, 12, 13}, rights))
	}
}

func TestPromise11WhoMay(t *testing.T) {
	list := sixClerks()
	checkWhoMay(t, list, impl.RightDestroy, 160, 2, 20)
	checkWhoMay(t, list, impl.RightDestroy, 200, 7, 20, 60)
	checkWhoMay(t, list, impl.RightAudit, 149)
	checkWhoMay(t, list, impl.RightAudit, 150, 5)
	checkWhoMay(t, list, impl.RightAudit, 300, 21)
	checkWhoMay(t, list, impl.RightFile+impl.RightRelease, 200, 7)
	checkWhoMay(t, list, 7, 200, 7)
	checkWhoMay(t, list, 7, 199)
	checkWhoMay(t, list, 1, 501)
	all := []impl.Clerk{clerk(1, 7, 0, 9, 0), clerk(2, 13, 9, 20, 0), clerk(50, 5, 0, 9, 2), clerk(99, 4, 9, 9, 1)}
	checkWhoMay(t, all, impl.RightRelease, 9, 1, 2, 50, 99)
	checkWhoMay(t, all, impl.RightFile+impl.RightRelease, 9, 1, 2, 50)
	checkWhoMay(t, all, impl.RightRelease, 10, 2)
	var eight []impl.Clerk
	for id := 92; id <= 99; id++ {
		eight = append(eight, clerk(id, 5, 0, impl.MaxDay, 0))
	}
	checkWhoMay(t, eight, 5, impl.MaxDay, 92, 93, 94, 95, 96, 97, 98, 99)
	checkWhoMay(t, eight, 1, 0, 92, 93, 94, 95, 96, 97, 98, 99)
	checkWhoMay(t, eight, 7, 0)
}

func TestPromise11PairFor(t *testing.T) {
	checkPairFor(t, []impl.Clerk{clerk(3, 2, 0, 9, 0), clerk(5, 8, 0, 9, 0)}, 9, 3, 5)
	checkPairFor(t, []impl.Clerk{clerk(3, 8, 0, 9, 0), clerk(5, 2, 0, 9, 0)}, 9, 5, 3)
	checkPairFor(t, []impl.Clerk{clerk(3, 13, 0, 9, 0), clerk(5, 1, 0, 9, 0), clerk(6, 7, 0, 9, 0)}, 0, 6, 3)
	several := []impl.Clerk{clerk(1, 1, 0, 9, 0), clerk(3, 8, 0, 9, 0), clerk(5, 2, 0, 9, 0), clerk(7, 2, 0, 20, 0), clerk(9, 8, 0, 20, 0)}
	checkPairFor(t, several, 9, 5, 3)
	checkPairFor(t, several, 10, 7, 9)
	checkNoPairFor(t, several, 21)
	// Only the one of the two.
	for _, rights := range []int{2, 7, 8, 13, 5} {
		checkNoPairFor(t, []impl.Clerk{clerk(3, rights, 0, 9, 0)}, 5)
		checkNoPairFor(t, []impl.Clerk{clerk(3, rights, 0, 9, 0), clerk(5, rights, 0, 9, 0), clerk(6, rights, 0, 9, 3)}, 5)
	}
	// Either of them on other days.
	apart := []impl.Clerk{clerk(3, 2, 0, 9, 0), clerk(5, 8, 10, 20, 0)}
	for _, day := range []int{0, 9, 10, 20, 21} {
		checkNoPairFor(t, apart, day)
	}
	// One who may audit on some days as the other one, and on others not.
	standing := []impl.Clerk{clerk(1, 2, 0, 40, 0), clerk(3, 0, 0, 20, 5), clerk(5, 8, 10, 30, 0)}
	checkPairFor(t, standing, 9, 1, 3)
	checkPairFor(t, standing, 10, 1, 5)
	checkPairFor(t, standing, 20, 1, 5)
	checkPairFor(t, standing, 30, 1, 5)
	checkNoPairFor(t, standing, 31)
	// One who destroys does not audit as another one.
	checkNoPairFor(t, []impl.Clerk{clerk(1, 2, 0, 40, 5), clerk(5, 8, 10, 30, 0)}, 9)
	checkPairFor(t, []impl.Clerk{clerk(1, 2, 0, 40, 5), clerk(5, 8, 10, 30, 0)}, 10, 1, 5)
}

func TestPromise11GiveRight(t *testing.T) {
	list := sixClerks()
	checkClerks(t, list, giving(60, impl.RightFile), withClerk(list, clerk(60, 1, 90, 500, 2)))
	checkClerks(t, list, giving(2, impl.RightRelease), withClerk(list, clerk(2, 6, 100, 199, 0)))
	checkClerks(t, list, giving(7, impl.RightAudit), withClerk(list, clerk(7, 13, 0, 400, 2)))
	checkClerks(t, list, giving(7, impl.RightDestroy), withClerk(list, clerk(7, 7, 0, 400, 2)))
	// Those that are there stay.
	checkClerks(t, list, giving(2, impl.RightDestroy), list)
	checkClerks(t, list, giving(7, impl.RightFile), list)
	checkClerks(t, list, giving(7, impl.RightRelease), list)
	// The second of the two that exclude each other.
	checkNoClerks(t, list, giving(2, impl.RightAudit), giving(5, impl.RightDestroy), giving(20, impl.RightAudit))
	// In the list each may have one of them, although one stands in for the other.
	checkClerks(t, list, giving(60, impl.RightAudit), withClerk(list, clerk(60, 8, 90, 500, 2)))
}

func TestPromise11TakeRight(t *testing.T) {
	list := sixClerks()
	checkClerks(t, list, taking(7, impl.RightFile), withClerk(list, clerk(7, 4, 0, 400, 2)))
	checkClerks(t, list, taking(7, impl.RightRelease), withClerk(list, clerk(7, 1, 0, 400, 2)))
	checkClerks(t, list, taking(20, impl.RightDestroy), withClerk(list, clerk(20, 1, 50, 250, 5)))
	// The last one.
	checkClerks(t, list, taking(2, impl.RightDestroy), withClerk(list, clerk(2, 0, 100, 199, 0)))
	checkClerks(t, list, taking(5, impl.RightAudit), withClerk(list, clerk(5, 0, 150, 299, 0)))
	checkClerks(t, list, taking(21, impl.RightRelease), withClerk(list, clerk(21, 0, 180, 350, 5)))
	// Those that are not there, or are there only as another one's.
	checkNoClerks(t, list, taking(60, 1), taking(60, 2), taking(60, 4), taking(60, 8), taking(2, 1), taking(2, 4), taking(2, 8), taking(7, 2), taking(7, 8), taking(21, 8))
}

func TestPromise11RightsOfAllSomeClerks(t *testing.T) {
	for _, list := range someClerks() {
		for _, x := range list {
			for _, right := range []int{1, 2, 4, 8} {
				more, less := x, x
				more.Rights = rightsIn(x.Rights, right)
				less.Rights = x.Rights - right
				checkClerksOr(t, list, giving(x.Id, right), withClerk(list, more))
				if !mayUse(x.Rights, right) {
					checkNoClerks(t, list, taking(x.Id, right))
					continue
				}
				checkClerks(t, list, taking(x.Id, right), withClerk(list, less))
				shorter, _ := impl.TakeRight(list, x.Id, right)
				checkClerks(t, shorter, giving(x.Id, right), list)
			}
		}
	}
}

func TestPromise11StandFor(t *testing.T) {
	list := sixClerks()
	checkClerks(t, list, standing(7, 5), withClerk(list, clerk(7, 5, 0, 400, 5)))
	checkClerks(t, list, standing(60, 5), withClerk(list, clerk(60, 0, 90, 500, 5)))
	// The same one as before.
	checkClerks(t, list, standing(7, 2), list)
	// None, and none as before.
	checkClerks(t, list, standing(7, 0), withClerk(list, clerk(7, 5, 0, 400, 0)))
	checkClerks(t, list, standing(2, 0), list)
	// Those who stand in themselves, the own Id, those who are not in the list, and of those for whom others stand in.
	checkNoClerks(t, list, standing(7, 20), standing(7, 60), standing(20, 21), standing(7, 7), standing(2, 2), standing(7, 1), standing(7, 99), standing(2, 5), standing(5, 2), standing(2, 7))
	for _, other := range append([]int{-2, 100, 101}, extremes...) {
		checkNoClerks(t, list, standing(7, other), standing(2, other))
	}
	// Once nobody stands in for one any more, this one may stand in.
	freed, ok := impl.StandFor(list, 20, 0)
	if !ok {
		t.Fatal("StandFor of none")
	}
	checkNoClerks(t, freed, standing(5, 2))
	freed, ok = impl.StandFor(freed, 21, 0)
	if !ok {
		t.Fatal("StandFor of none")
	}
	checkClerks(t, freed, standing(5, 2), withClerk(freed, clerk(5, 8, 150, 299, 2)))
}

func TestPromise11StandForOfAllSomeClerks(t *testing.T) {
	for _, list := range someClerks() {
		for _, x := range list {
			others := []int{-1, 0, 1, 2, 50, 99, 100}
			for _, y := range list {
				others = append(others, y.Id)
			}
			for _, other := range others {
				y := x
				y.Stands = other
				checkClerksOr(t, list, standing(x.Id, other), withClerk(list, y))
			}
		}
	}
}

func TestPromise11DaysWithout(t *testing.T) {
	list := sixClerks()
	checkDaysWithout(t, list, impl.RightAudit, 147, 151, 147, 148, 149)
	checkDaysWithout(t, list, impl.RightAudit, 349, 353, 351, 352, 353)
	checkDaysWithout(t, list, impl.RightAudit, 150, 350)
	checkDaysWithout(t, list, 7, 98, 102, 100, 101, 102)
	checkDaysWithout(t, list, 7, 197, 201, 197, 198, 199)
	// Days between two others.
	checkDaysWithout(t, []impl.Clerk{clerk(1, 1, 0, 9, 0), clerk(2, 5, 12, 20, 0)}, 1, 8, 22, 10, 11, 21, 22)
	checkDaysWithout(t, []impl.Clerk{clerk(1, 1, 0, 9, 0), clerk(2, 5, 10, 20, 0)}, 1, 8, 14)
	// Several rights, which no one has who has each of them.
	checkDaysWithout(t, []impl.Clerk{clerk(1, 1, 0, 9, 0), clerk(2, 4, 0, 9, 0)}, 5, 7, 9, 7, 8, 9)
	// One day.
	checkDaysWithout(t, list, impl.RightAudit, 149, 149, 149)
	checkDaysWithout(t, list, impl.RightAudit, 150, 150)
	checkDaysWithout(t, list, impl.RightFile, 0, 0)
	checkDaysWithout(t, list, impl.RightAudit, 0, 0, 0)
	checkDaysWithout(t, list, impl.RightFile, impl.MaxDay, impl.MaxDay, impl.MaxDay)
	checkDaysWithout(t, fullClerks(), 7, impl.MaxDay, impl.MaxDay)
}

func TestPromise11MostDaysWithout(t *testing.T) {
	for _, from := range []int{0, 1, 100, 5000, impl.MaxDay - 201, impl.MaxDay - 200} {
		all := seriesFrom(from, 201)
		for rights := 1; rights <= 15; rights++ {
			checkDaysWithout(t, nil, rights, from, from+200, all...)
			checkDaysWithout(t, nil, rights, from, from+199, all[:200]...)
			checkNoDaysWithout(t, nil, rights, from, from+201)
			checkNoDaysWithout(t, []impl.Clerk{clerk(1, 7, 0, impl.MaxDay, 0)}, rights, from, from+201)
			checkNoDaysWithout(t, nil, rights, from+1, from)
			checkNoDaysWithout(t, nil, rights, from+200, from)
		}
		checkDaysWithout(t, []impl.Clerk{clerk(1, 7, 0, impl.MaxDay, 0)}, 7, from, from+200)
		checkDaysWithout(t, []impl.Clerk{clerk(1, 7, 0, impl.MaxDay, 0)}, 8, from, from+200, all...)
		checkDaysWithout(t, []impl.Clerk{clerk(1, 7, from+1, from+199, 0)}, 7, from, from+200, from, from+200)
		checkDaysWithout(t, []impl.Clerk{clerk(1, 7, from+100, from+100, 0)}, 7, from, from+200, append(slices.Clone(all[:100]), all[101:]...)...)
	}
	checkNoDaysWithout(t, nil, 1, 0, impl.MaxDay)
	checkNoDaysWithout(t, nil, 1, impl.MaxDay, 0)
	checkNoDaysWithout(t, nil, 1, impl.MaxDay-200, impl.MaxDay+1)
	checkNoDaysWithout(t, nil, 1, -1, 199)
}

func TestPromise11DaysWithoutOfAllSomeClerks(t *testing.T) {
	for _, list := range someClerks()[:60] {
		days := daysAroundClerks(list)
		for i, from := range days {
			to := min(from+200, days[(i*i+7)%len(days)])
			if to < from {
				checkNoDaysWithout(t, list, 1, from, to)
				continue
			}
			for _, rights := range []int{1, 2, 5, 8, 12} {
				var want []int
				for day := from; day <= to; day++ {
					if len(ableOn(list, rights, day)) == 0 {
						want = append(want, day)
					}
				}
				checkDaysWithout(t, list, rights, from, to, want...)
			}
		}
	}
}

// TestPromise11NobodyDoesBothAfterChanges looks at each list that one or two changes lead to.
func TestPromise11NobodyDoesBothAfterChanges(t *testing.T) {
	acts := func(list []impl.Clerk) []clerkAct {
		var acts []clerkAct
		for _, x := range list {
			for _, right := range []int{impl.RightDestroy, impl.RightAudit} {
				acts = append(acts, giving(x.Id, right), taking(x.Id, right))
			}
			for _, y := range list {
				acts = append(acts, standing(x.Id, y.Id))
			}
		}
		return acts
	}
	look := func(list []impl.Clerk) {
		if !areClerksByPairs(list) {
			t.Errorf("%v come out as Clerks", list)
		}
		for _, day := range daysAroundClerks(list) {
			checkNobodyDoesBoth(t, list, day)
		}
	}
	for _, list := range [][]impl.Clerk{sixClerks()[:4], {clerk(1, 2, 10, 40, 0), clerk(2, 0, 0, 30, 0), clerk(3, 8, 20, 50, 0)}} {
		for _, a := range acts(list) {
			once, ok := a.act(list)
			if !ok {
				continue
			}
			look(once)
			for _, b := range acts(once) {
				if twice, fine := b.act(once); fine {
					look(twice)
				}
			}
		}
	}
}

func TestPromise11WrongClerksAreRefused(t *testing.T) {
	for _, list := range wrongClerks() {
		checkNoneOfClerks(t, list)
	}
}

// TestPromise11NoListBecomesClerks has lists that are none of Clerks, and would be some after the change.
func TestPromise11NoListBecomesClerks(t *testing.T) {
	checkNoClerks(t, []impl.Clerk{clerk(5, 10, 0, 9, 0)}, taking(5, 2), taking(5, 8), giving(5, 1))
	checkNoClerks(t, []impl.Clerk{clerk(5, 15, 0, 9, 0)}, taking(5, 2), taking(5, 8))
	checkNoClerks(t, []impl.Clerk{clerk(5, 17, 0, 9, 0)}, taking(5, 1))
	checkNoClerks(t, []impl.Clerk{clerk(5, 1, 0, 9, 6)}, standing(5, 0))
	checkNoClerks(t, []impl.Clerk{clerk(5, 1, 0, 9, 5)}, standing(5, 0))
	checkNoClerks(t, []impl.Clerk{clerk(5, 1, 0, 9, -1)}, standing(5, 0))
	checkNoClerks(t, []impl.Clerk{clerk(5, 1, 0, 9, 6), clerk(6, 1, 0, 9, 5)}, standing(5, 0), standing(6, 0))
	checkNoClerks(t, []impl.Clerk{clerk(5, 1, 0, 9, 6), clerk(6, 1, 0, 9, 7), clerk(7, 1, 0, 9, 0)}, standing(5, 0), standing(5, 7), standing(6, 0))
	checkNoClerks(t, []impl.Clerk{clerk(5, 1, 0, 9, 0), clerk(6, 1, 0, 9, 100)}, standing(6, 0), standing(6, 5))
}

func TestPromise11NumbersThatAreNoRights(t *testing.T) {
	for _, list := range [][]impl.Clerk{nil, {}, sixClerks(), fullClerks(), {clerk(5, 0, 0, impl.MaxDay, 0)}, {clerk(5, 7, 0, impl.MaxDay, 0)}, {clerk(5, 13, 0, impl.MaxDay, 0)}} {
		for _, n := range append([]int{-16, -8, -2, -1, 0, 16, 17, 18, 24, 32, 1 << 32, 1<<32 + 1}, extremes...) {
			for _, day := range []int{0, 10, 150, impl.MaxDay} {
				checkNotWhoMay(t, list, n, day)
				checkNoDaysWithout(t, list, n, day, day)
				checkNoDaysWithout(t, list, n, max(0, day-200), day)
				for _, x := range list {
					checkNotMayDo(t, list, x.Id, n, day)
				}
			}
		}
		for _, n := range append([]int{-16, -8, -2, -1, 0, 3, 5, 6, 7, 9, 10, 11, 12, 13, 14, 15, 16, 17, 32, 1 << 32}, extremes...) {
			for _, x := range list {
				checkNoClerks(t, list, giving(x.Id, n), taking(x.Id, n))
			}
		}
	}
}

func TestPromise11NumbersThatAreNoClerkDays(t *testing.T) {
	for _, list := range [][]impl.Clerk{nil, {}, sixClerks(), fullClerks(), {clerk(5, 7, 0, impl.MaxDay, 0)}} {
		for _, day := range append([]int{-2, -1, impl.MaxDay + 1, impl.MaxDay + 2}, extremes...) {
			checkNoClerkDay(t, list, day)
		}
	}
	checkNoDaysWithout(t, nil, 1, math.MinInt, math.MaxInt)
	checkNoDaysWithout(t, nil, 1, math.MaxInt, math.MinInt)
	checkNoDaysWithout(t, nil, 1, math.MinInt, 0)
	checkNoDaysWithout(t, nil, 1, impl.MaxDay, math.MaxInt)
}

// useClerks calls each function of the chapter.
func useClerks(list []impl.Clerk, numbers []int) {
	impl.AreClerks(list)
	for _, x := range list[:min(len(list), 20)] {
		impl.IsClerk(x)
	}
	for _, a := range numbers {
		impl.PairFor(list, a)
		for _, b := range numbers {
			impl.RightsOn(list, a, b)
			impl.WhoMay(list, a, b)
			impl.GiveRight(list, a, b)
			impl.TakeRight(list, a, b)
			impl.StandFor(list, a, b)
			for _, c := range numbers {
				impl.MayDo(list, a, b, c)
				impl.DaysWithout(list, a, b, c)
			}
		}
	}
}

func TestPromise29ClerksReturnForAllArguments(t *testing.T) {
	numbers := append([]int{0, 1, 2, 8, 15, 16, 60, 99, 100, 20000}, extremes...)
	lists := append(wrongClerks(), someClerks()[:30]...)
	lists = append(lists, []impl.Clerk{clerk(math.MinInt, math.MaxInt, math.MinInt, math.MaxInt, math.MinInt), clerk(math.MaxInt, math.MinInt, math.MaxInt, math.MinInt, math.MaxInt)})
	for _, list := range lists {
		useClerks(list, numbers)
	}
	useClerks(make([]impl.Clerk, 1<<16), numbers)
	impl.IsClerk(impl.Clerk{Name: strings.Repeat("x", 1<<20)})
}

// roomyClerks has a list of as many, with others behind its length.
func roomyClerks(length int) []impl.Clerk {
	return append(append(make([]impl.Clerk, 0, 20), sixClerks()...), clerk(61, 8, 0, impl.MaxDay, 5), clerk(99, 2, 0, impl.MaxDay, 0), clerk(-7, -7, -7, -7, -7))[:length]
}

func TestPromise29ClerksAreNotModified(t *testing.T) {
	numbers := []int{-1, 0, 1, 2, 3, 4, 5, 7, 8, 10, 20, 21, 60, 99, 100, 300}
	lists := append(wrongClerkLists(), someClerks()[:40]...)
	for length := range 10 {
		lists = append(lists, roomyClerks(length))
	}
	for _, list := range lists {
		all := list[:cap(list)]
		kept := slices.Clone(all)
		useClerks(list, numbers)
		if !slices.Equal(all, kept) {
			t.Errorf("%d Clerks changed to %v", len(list), all)
		}
	}
}

func TestPromise29ClerksBehindTheLengthAreNotUsed(t *testing.T) {
	for length := 2; length <= 8; length++ {
		list := roomyClerks(length)
		if !impl.AreClerks(list) {
			t.Errorf("%v are no Clerks", list)
		}
		for _, day := range daysAroundClerks(list) {
			checkClerksOn(t, list, day)
		}
		checkNoClerks(t, list, standing(2, roomyClerks(9)[length].Id), standing(roomyClerks(9)[length].Id, 0))
	}
	if impl.AreClerks(roomyClerks(9)) {
		t.Error("nine are Clerks")
	}
	// One stands in for another who is only behind the length.
	list := []impl.Clerk{clerk(1, 1, 0, 9, 2), clerk(2, 4, 0, 5, 0)}
	if impl.AreClerks(list[:1]) || !impl.AreClerks(list) {
		t.Errorf("AreClerks of one or two of %v", list)
	}
	checkNoneOfClerks(t, list[:1])
}

// scribbleClerks overwrites a list of Clerks as far as its memory reaches.
func scribbleClerks(list []impl.Clerk) {
	all := list[:cap(list)]
	for i := range all {
		all[i] = clerk(-7, -7, -7, -7, -7)
	}
}

func TestPromise29ChangedClerksShareNoMemory(t *testing.T) {
	for length := 3; length <= 8; length++ {
		// Some of them change nothing.
		for _, a := range []clerkAct{giving(2, 4), giving(2, 2), giving(7, 2), taking(2, 2), taking(7, 1), standing(7, 5), standing(7, 2), standing(7, 0), standing(5, 0)} {
			list := roomyClerks(length)
			first, ok := a.act(list)
			second, fine := a.act(list)
			want := slices.Clone(second)
			scribbleClerks(first)
			if !ok || !fine || !slices.Equal(list[:9], roomyClerks(9)) || !slices.Equal(second, want) {
				t.Errorf("a result of %s of %d Clerks shares memory: %v, %v", a.name, length, list[:9], second)
			}
			scribbleClerks(list)
			if !slices.Equal(second, want) {
				t.Errorf("an argument of %s of %d Clerks shares memory: %v", a.name, length, second)
			}
		}
	}
}

// checkClerkNumbersUnshared looks that neither the list nor a second result changes with the memory of the first one.
func checkClerkNumbersUnshared(t *testing.T, name string, act func([]impl.Clerk) ([]int, bool)) {
	t.Helper()
	list := roomyClerks(6)
	first, ok := act(list)
	second, fine := act(list)
	want := slices.Clone(second)
	scribbleNumbers(first)
	if !ok || !fine || len(want) == 0 || !slices.Equal(second, want) || !slices.Equal(list[:9], roomyClerks(9)) {
		t.Errorf("a result of %s shares memory: %v, %v", name, second, list[:9])
	}
	scribbleClerks(list)
	if !slices.Equal(second, want) {
		t.Errorf("an argument of %s shares memory: %v", name, second)
	}
}

func TestPromise29NumbersOfClerksShareNoMemory(t *testing.T) {
	checkClerkNumbersUnshared(t, "WhoMay", func(list []impl.Clerk) ([]int, bool) { return impl.WhoMay(list, impl.RightDestroy, 200) })
	checkClerkNumbersUnshared(t, "DaysWithout", func(list []impl.Clerk) ([]int, bool) { return impl.DaysWithout(list, impl.RightAudit, 100, 300) })
}
