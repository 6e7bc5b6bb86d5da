package tests

import (
	"fmt"
	"math"
	"slices"
	"strings"
	"testing"

	"loop.example/g01035/impl"
)

// version reads the Rules of a Version from a text that is a schedule.
func version(from int, text string) impl.Version {
	return impl.Version{From: from, Rules: plan(text)}
}

// threeVersions has a Series whose Rules change twice, one that comes later, and one that is gone in the last Version.
func threeVersions() []impl.Version {
	return []impl.Version{version(50, "2.0+10k 3.0+3650d"), version(1000, "2.0+10k 3.0+100k 3.1+2000t 7.2+5d"), version(4000, "3.0+20000d 7.2+5d 40.0+0t")}
}

// fullVersions has as many Versions as may be, some of which meet limits.
func fullVersions() []impl.Version {
	return []impl.Version{
		{From: 0}, {From: 1, Rules: fullSchedule()}, version(2, "1.0+0k 5.3+10t"), {From: impl.MaxDay - 1, Rules: sevenRules()}, {From: impl.MaxDay, Rules: fullSchedule()},
	}
}

// versionsInARow makes as many Versions, in which the Rule for the Series 3 gets shorter and weaker.
func versionsInARow(count int) []impl.Version {
	var list []impl.Version
	for i := range count {
		list = append(list, impl.Version{From: 100 * i, Rules: []impl.Rule{rule(3, i%2, 1000-90*i, 1+i%3)}})
	}
	return list
}

// mixedVersions makes Versions out of a number, the schedules of which are some of somePlans.
func mixedVersions(mix int) []impl.Version {
	next := func(n int) int {
		mix = (mix*8121 + 28411) % 134456
		return mix / 7 % n
	}
	plans := somePlans()
	froms := []int{0, 1, 99, 100, 101, 140, 141, 200, 539, 540, 541, 1000, 3749, 3750, 3751, 19999, 20000}
	var list []impl.Version
	for count := next(6); len(froms) > 0 && len(list) < count; {
		place := next(len(froms))
		list = append(list, impl.Version{From: froms[place], Rules: plans[next(len(plans))]})
		froms = froms[place+1:]
	}
	return list
}

func someVersions() [][]impl.Version {
	lists := [][]impl.Version{nil, {}, threeVersions(), fullVersions(), {{From: 0}}, {{From: impl.MaxDay}}, {version(0, "3.0+0k")}, {version(impl.MaxDay, "3.0+0k")}}
	for count := 1; count <= impl.MaxVersions; count++ {
		lists = append(lists, versionsInARow(count), fullVersions()[impl.MaxVersions-count:])
	}
	for mix := range 150 {
		lists = append(lists, mixedVersions(mix))
	}
	return lists
}

// wrongVersions are lists that are none of Versions, most of them for one reason.
func wrongVersions() [][]impl.Version {
	a, b, c := version(50, "3.0+10d"), version(60, "3.0+20d"), version(70, "3.0+30d")
	lists := [][]impl.Version{
		{b, a}, {a, a}, {c, b, a}, {a, c, b}, {b, a, c}, {a, a, c}, {a, c, c}, {a, b, a}, {a, version(50, "4.0+10k")}, {{From: 0}, {From: 0}}, {{From: impl.MaxDay}, {From: impl.MaxDay}},
		{{From: 1}, {From: 0}}, {{From: impl.MaxDay}, {From: impl.MaxDay - 1}}, versionsInARow(impl.MaxVersions + 1), versionsInARow(impl.MaxVersions + 2), make([]impl.Version, 1<<16),
		append(fullVersions()[:4], impl.Version{From: impl.MaxDay - 1}), append([]impl.Version{{From: 0}}, fullVersions()...),
	}
	for _, wrong := range wrongVersionsAlone() {
		lists = append(lists, []impl.Version{wrong})
		if wrong.From == 55 {
			lists = append(lists, []impl.Version{a, wrong}, []impl.Version{wrong, b}, []impl.Version{a, wrong, b})
		}
	}
	return append(lists, []impl.Version{{From: -1}, a}, []impl.Version{a, {From: -1}}, []impl.Version{a, {From: impl.MaxDay + 1}}, []impl.Version{{From: impl.MaxDay + 1}, a})
}

// wrongVersionsAlone are Versions that no list may have.
func wrongVersionsAlone() []impl.Version {
	list := []impl.Version{{From: -1}, {From: impl.MaxDay + 1}, version(-1, "3.0+10d"), version(impl.MaxDay+1, "3.0+10d"), {From: 55, Rules: make([]impl.Rule, 1<<16)}}
	for _, n := range extremes {
		list = append(list, impl.Version{From: n}, version(n, "3.0+10d"))
	}
	for _, rules := range wrongSchedules() {
		list = append(list, impl.Version{From: 55, Rules: rules})
	}
	for _, x := range wrongRules() {
		list = append(list, impl.Version{From: 55, Rules: []impl.Rule{x}}, impl.Version{From: 55, Rules: []impl.Rule{rule(1, 0, 10, 2), x}})
	}
	return list
}

// recordsToVersion are Records of which most are in a Series that some of someVersions have Rules for.
func recordsToVersion() []impl.Record {
	return heldAll("12s3@100", "12s3@100 1@140", "12s3@0", "12s3@20000 1@20000", "1s3@100 1@140 2@141 3@142", "1s3@0 1@20000 9@3", "7s7@10 2@99", "5s5@1 2@1 3@90 4@539", "9s99@0 9@0", "2s2@100 3@540", "40s40@1000", "8s1@0", "6s6@5")
}

// areVersionsByPairs compares each Version with each one behind it.
func areVersionsByPairs(list []impl.Version) bool {
	for i, v := range list {
		if v.From < 0 || v.From > 20000 || !isScheduleByPairs(v.Rules) {
			return false
		}
		for _, later := range list[i+1:] {
			if v.From >= later.From {
				return false
			}
		}
	}
	return len(list) <= 5
}

// inForce returns the Version with the greatest From that is not behind a day, wherever it stands, or -1.
func inForce(list []impl.Version, day int) int {
	found := -1
	for i, v := range list {
		if v.From <= day && (found < 0 || v.From > list[found].From) {
			found = i
		}
	}
	return found
}

// settlementOn returns the settlement of a Record on a day, and the word for it, found without the functions of the program.
func settlementOn(list []impl.Version, r impl.Record, day int) (settlement, string) {
	place := inForce(list, day)
	if place < 0 {
		return settlement{}, "none"
	}
	s := settlementOf(r, list[place].Rules)
	if !s.scheduled {
		return s, "series"
	}
	if !s.settled {
		return s, "event"
	}
	if s.due > day {
		return s, "early"
	}
	return s, "due"
}

// duesOf returns the due days in all Versions.
func duesOf(list []impl.Version, r impl.Record) []int {
	var dues []int
	for _, v := range list {
		if s := settlementOf(r, v.Rules); s.settled {
			dues = append(dues, s.due)
		} else {
			dues = append(dues, -1)
		}
	}
	return dues
}

// firstByScan goes over all days, and returns the first one on which a Record is due, or -1.
func firstByScan(list []impl.Version, r impl.Record) int {
	dues := duesOf(list, r)
	for day := 0; day <= impl.MaxDay; day++ {
		place := inForce(list, day)
		if place >= 0 && dues[place] >= 0 && dues[place] <= day {
			return day
		}
	}
	return -1
}

// changedByRule goes over all Rules that only one of two schedules has.
func changedByRule(a, b []impl.Rule) []int {
	var series []int
	for _, x := range slices.Concat(a, b) {
		if !slices.Contains(a, x) || !slices.Contains(b, x) {
			series = append(series, x.Series)
		}
	}
	slices.Sort(series)
	return slices.Compact(series)
}

// sameVersions compares the Versions and their Rules.
func sameVersions(a, b []impl.Version) bool {
	return slices.EqualFunc(a, b, func(x, y impl.Version) bool { return x.From == y.From && slices.Equal(x.Rules, y.Rules) })
}

// copyOfVersions has the same Versions in other memory.
func copyOfVersions(list []impl.Version) []impl.Version {
	all := slices.Clone(list)
	for i, v := range all {
		all[i].Rules = slices.Clone(v.Rules)
	}
	return all
}

// withVersion puts a Version to those of a list, and sorts anew.
func withVersion(list []impl.Version, v impl.Version) []impl.Version {
	want := []impl.Version{v}
	for _, other := range list {
		if other.From != v.From {
			want = append(want, other)
		}
	}
	slices.SortFunc(want, func(a, b impl.Version) int { return a.From - b.From })
	return want
}

func checkInForce(t *testing.T, list []impl.Version, day, want int) {
	t.Helper()
	if place, ok := impl.VersionOn(list, day); !ok || place != want {
		t.Errorf("VersionOn(%v, %d) = %d, %v", list, day, place, ok)
	}
}

func checkNoneInForce(t *testing.T, list []impl.Version, day int) {
	t.Helper()
	if place, ok := impl.VersionOn(list, day); ok || place != 0 {
		t.Errorf("VersionOn(%s, %d) = %d, %v", brief(list), day, place, ok)
	}
}

func checkDecidesOn(t *testing.T, list []impl.Version, r impl.Record, day int, want impl.Rule) {
	t.Helper()
	if deciding, ok := impl.DecidesOn(list, r, day); !ok || deciding != want {
		t.Errorf("DecidesOn(%v, %v, %d) = %v, %v", list, r, day, deciding, ok)
	}
}

func checkNothingDecides(t *testing.T, list []impl.Version, r impl.Record, day int) {
	t.Helper()
	if deciding, ok := impl.DecidesOn(list, r, day); ok || deciding != (impl.Rule{}) {
		t.Errorf("DecidesOn(%s, %s, %d) = %v, %v", brief(list), brief(r), day, deciding, ok)
	}
}

func checkDueOn(t *testing.T, list []impl.Version, r impl.Record, day int, want bool) {
	t.Helper()
	if due, ok := impl.DueOn(list, r, day); !ok || due != want {
		t.Errorf("DueOn(%v, %v, %d) = %v, %v", list, r, day, due, ok)
	}
}

func checkNotDueOn(t *testing.T, list []impl.Version, r impl.Record, day int) {
	t.Helper()
	if due, ok := impl.DueOn(list, r, day); ok || due {
		t.Errorf("DueOn(%s, %s, %d) = %v, %v", brief(list), brief(r), day, due, ok)
	}
}

func checkWhy(t *testing.T, list []impl.Version, r impl.Record, day int, want string) {
	t.Helper()
	if why, ok := impl.WhyOn(list, r, day); !ok || why != want {
		t.Errorf("WhyOn(%v, %v, %d) = %q, %v", list, r, day, why, ok)
	}
}

func checkNoWhy(t *testing.T, list []impl.Version, r impl.Record, day int) {
	t.Helper()
	if why, ok := impl.WhyOn(list, r, day); ok || why != "" {
		t.Errorf("WhyOn(%s, %s, %d) = %q, %v", brief(list), brief(r), day, why, ok)
	}
}

func checkDueDays(t *testing.T, list []impl.Version, r impl.Record, want ...int) {
	t.Helper()
	if days, ok := impl.DueDays(list, r); !ok || !slices.Equal(days, want) {
		t.Errorf("DueDays(%v, %v) = %v, %v", list, r, days, ok)
	}
}

// checkFirst looks for the first day on which a Record is due, and for what the others say of it and of the day before it.
func checkFirst(t *testing.T, list []impl.Version, r impl.Record, want int) {
	t.Helper()
	if day, ok := impl.FirstDueDay(list, r); !ok || day != want {
		t.Errorf("FirstDueDay(%v, %v) = %d, %v", list, r, day, ok)
	}
	checkDueOn(t, list, r, want, true)
	checkWhy(t, list, r, want, "due")
	if deciding, ok := impl.DecidesOn(list, r, want); !ok || !validRule(deciding) || deciding.Series != r.Series {
		t.Errorf("on %d, nothing decides for %v in %v: %v, %v", want, r, list, deciding, ok)
	}
	if want > 0 {
		checkDueOn(t, list, r, want-1, false)
	}
}

func checkNoFirst(t *testing.T, list []impl.Version, r impl.Record) {
	t.Helper()
	if day, ok := impl.FirstDueDay(list, r); ok || day != 0 {
		t.Errorf("FirstDueDay(%s, %s) = %d, %v", brief(list), brief(r), day, ok)
	}
}

func checkChanged(t *testing.T, list []impl.Version, place int, want ...int) {
	t.Helper()
	if series, ok := impl.ChangedSeries(list, place); !ok || !slices.Equal(series, want) {
		t.Errorf("ChangedSeries(%v, %d) = %v, %v", list, place, series, ok)
	}
}

func checkNotChanged(t *testing.T, list []impl.Version, place int) {
	t.Helper()
	if series, ok := impl.ChangedSeries(list, place); ok || len(series) != 0 {
		t.Errorf("ChangedSeries(%s, %d) = %v, %v", brief(list), place, series, ok)
	}
}

func checkVersionPut(t *testing.T, list []impl.Version, v impl.Version, want []impl.Version) {
	t.Helper()
	if changed, ok := impl.PutVersion(list, v); !ok || !sameVersions(changed, want) {
		t.Errorf("PutVersion(%v, %v) = %v, %v", list, v, changed, ok)
	}
}

func checkVersionNotPut(t *testing.T, list []impl.Version, v impl.Version) {
	t.Helper()
	if changed, ok := impl.PutVersion(list, v); ok || len(changed) != 0 {
		t.Errorf("PutVersion(%s, %s) = %s, %v", brief(list), brief(v), brief(changed), ok)
	}
}

// checkNoneOn hands a list, a Record or a day that is none to each function that takes all of them.
func checkNoneOn(t *testing.T, list []impl.Version, r impl.Record, day int) {
	t.Helper()
	checkNothingDecides(t, list, r, day)
	checkNotDueOn(t, list, r, day)
	checkNoWhy(t, list, r, day)
}

// checkNoneFor hands a list or a Record that is none to each function that takes both.
func checkNoneFor(t *testing.T, list []impl.Version, r impl.Record) {
	t.Helper()
	for _, day := range []int{-1, 0, 1, 49, 50, 60, 100, 1000, 4000, impl.MaxDay, impl.MaxDay + 1} {
		checkNoneOn(t, list, r, day)
	}
	if days, ok := impl.DueDays(list, r); ok || len(days) != 0 {
		t.Errorf("DueDays(%s, %s) = %v, %v", brief(list), brief(r), days, ok)
	}
	checkNoFirst(t, list, r)
}

// checkNoVersions hands a list that is none of Versions to each function.
func checkNoVersions(t *testing.T, list []impl.Version) {
	t.Helper()
	if impl.AreVersions(list) {
		t.Errorf("%s are Versions", brief(list))
	}
	for _, r := range append(recordsToVersion()[:4], impl.Record{}) {
		checkNoneFor(t, list, r)
	}
	for day := range 80 {
		checkNoneInForce(t, list, day)
	}
	checkNoneInForce(t, list, impl.MaxDay)
	for place := -1; place <= 7; place++ {
		checkNotChanged(t, list, place)
	}
	for _, v := range []impl.Version{{}, {From: 50}, {From: 55}, {From: 65}, version(60, "3.0+10d"), {From: impl.MaxDay}, version(0, "3.0+10d"), {From: -1}} {
		checkVersionNotPut(t, list, v)
	}
}

// checkRecordOn compares what each function tells of a Record on a day with its settlement.
func checkRecordOn(t *testing.T, list []impl.Version, r impl.Record, day int) {
	t.Helper()
	s, why := settlementOn(list, r, day)
	if s.settled {
		checkDecidesOn(t, list, r, day, s.deciding)
	} else {
		checkNothingDecides(t, list, r, day)
	}
	checkDueOn(t, list, r, day, why == "due")
	checkWhy(t, list, r, day, why)
}

// checkRecord compares what each function tells of a Record, on all days on which something may change, with its settlements.
func checkRecord(t *testing.T, list []impl.Version, r impl.Record) {
	t.Helper()
	dues := duesOf(list, r)
	checkDueDays(t, list, r, dues...)
	for _, day := range daysOfVersions(list, dues) {
		checkRecordOn(t, list, r, day)
	}
	if first := firstByScan(list, r); first >= 0 {
		checkFirst(t, list, r, first)
	} else {
		checkNoFirst(t, list, r)
	}
}

// daysOfVersions are the days at the limits, and those at each From and each due day.
func daysOfVersions(list []impl.Version, dues []int) []int {
	days := []int{0, 1, impl.MaxDay - 1, impl.MaxDay}
	for _, v := range list {
		days = append(days, daysAround(v.From)...)
	}
	for _, due := range dues {
		days = append(days, daysAround(due)...)
	}
	slices.Sort(days)
	return slices.Compact(days)
}

func TestPromise8AreVersions(t *testing.T) {
	for _, list := range [][]impl.Version{
		nil, {}, {{}}, {{From: 0, Rules: []impl.Rule{}}}, {{From: impl.MaxDay}}, {{From: 0}, {From: impl.MaxDay}}, {{From: 0}, {From: 1}, {From: 2}, {From: 3}, {From: 4}},
		threeVersions(), fullVersions(), versionsInARow(1), versionsInARow(5), {{From: 5, Rules: fullSchedule()}}, {{From: 5, Rules: rulesInARow(impl.MaxRules)}},
		{version(5, "3.0+10d"), version(6, "3.0+10d")},
	} {
		if !impl.AreVersions(list) {
			t.Errorf("%v are no Versions", list)
		}
	}
	for _, list := range append(wrongVersions(), []impl.Version{{From: 5, Rules: rulesInARow(impl.MaxRules + 1)}}) {
		if impl.AreVersions(list) {
			t.Errorf("%s are Versions", brief(list))
		}
	}
}

func TestPromise8AreVersionsByPairs(t *testing.T) {
	for _, list := range append(someVersions(), wrongVersions()...) {
		if len(list) > 100 {
			continue
		}
		if impl.AreVersions(list) != areVersionsByPairs(list) {
			t.Errorf("AreVersions(%s) = %v", brief(list), impl.AreVersions(list))
		}
	}
	// Each choice of up to three days, in each order.
	days := []int{-1, 0, 1, 2, impl.MaxDay - 1, impl.MaxDay, impl.MaxDay + 1}
	for _, a := range days {
		for _, b := range days {
			for _, c := range days {
				list := []impl.Version{{From: a}, {From: b}, {From: c}}
				for count := range 4 {
					if impl.AreVersions(list[:count]) != areVersionsByPairs(list[:count]) {
						t.Errorf("AreVersions(%v) = %v", list[:count], impl.AreVersions(list[:count]))
					}
				}
			}
		}
	}
}

func TestPromise8AllSchedulesMakeVersions(t *testing.T) {
	for i, rules := range schedulesOfKeys() {
		if list := []impl.Version{{From: i}, {From: i + 1, Rules: rules}}; !impl.AreVersions(list) || !impl.AreVersions(list[1:]) {
			t.Errorf("%v are no Versions", list)
		}
	}
}

func TestPromise8VersionOn(t *testing.T) {
	list := threeVersions()
	for _, p := range [][2]int{{50, 0}, {51, 0}, {999, 0}, {1000, 1}, {1001, 1}, {3999, 1}, {4000, 2}, {4001, 2}, {impl.MaxDay, 2}} {
		checkInForce(t, list, p[0], p[1])
	}
	for _, day := range []int{0, 1, 48, 49} {
		checkNoneInForce(t, list, day)
	}
	for _, p := range [][2]int{{0, 0}, {1, 1}, {2, 2}, {3, 2}, {impl.MaxDay - 2, 2}, {impl.MaxDay - 1, 3}, {impl.MaxDay, 4}} {
		checkInForce(t, fullVersions(), p[0], p[1])
	}
	one := []impl.Version{{From: impl.MaxDay}}
	checkInForce(t, one, impl.MaxDay, 0)
	checkNoneInForce(t, one, impl.MaxDay-1)
	checkNoneInForce(t, one, 0)
	for _, day := range []int{0, 1, 500, impl.MaxDay} {
		checkInForce(t, []impl.Version{{From: 0}}, day, 0)
		checkNoneInForce(t, nil, day)
		checkNoneInForce(t, []impl.Version{}, day)
	}
}

func TestPromise8VersionOnEachDay(t *testing.T) {
	for _, list := range someVersions() {
		for _, day := range append(daysOfVersions(list, nil), 50, 100, 250, 1000, 12345) {
			if want := inForce(list, day); want >= 0 {
				checkInForce(t, list, day, want)
			} else {
				checkNoneInForce(t, list, day)
			}
		}
	}
	for day := 0; day <= impl.MaxDay; day++ {
		if place, ok := impl.VersionOn(threeVersions(), day); ok != (day >= 50) || place != max(inForce(threeVersions(), day), 0) {
			t.Errorf("VersionOn(%d) = %d, %v", day, place, ok)
		}
	}
}

func TestPromise8DecidesOn(t *testing.T) {
	list := threeVersions()
	r := held("12s3@100 1@140")
	checkDecidesOn(t, list, r, 50, rule(3, 0, 3650, impl.ActDestroy))
	checkDecidesOn(t, list, r, 999, rule(3, 0, 3650, impl.ActDestroy))
	checkDecidesOn(t, list, r, 1000, rule(3, 1, 2000, impl.ActTransfer))
	checkDecidesOn(t, list, r, 3999, rule(3, 1, 2000, impl.ActTransfer))
	checkDecidesOn(t, list, r, 4000, rule(3, 0, 20000, impl.ActDestroy))
	checkDecidesOn(t, list, r, impl.MaxDay, rule(3, 0, 20000, impl.ActDestroy))
	for _, day := range []int{0, 1, 49} {
		checkNothingDecides(t, list, r, day)
	}
	// The Rule decides on days on which the Record is not even made.
	checkDecidesOn(t, list, held("12s3@20000"), 50, rule(3, 0, 3650, impl.ActDestroy))
	// The strongest Act of two with the same end, and the smallest Event of several.
	same := []impl.Version{version(0, "3.0+440d 3.1+400t"), version(10, "3.0+440t 3.1+400t")}
	checkDecidesOn(t, same, r, 9, rule(3, 1, 400, impl.ActTransfer))
	checkDecidesOn(t, same, r, 10, rule(3, 0, 440, impl.ActTransfer))
}

func TestPromise8NotSettledInTheVersionInForce(t *testing.T) {
	settled, waiting, other, none := "3.0+10d", "3.0+10d 3.1+5k", "4.0+10d", ""
	r := held("12s3@100")
	for _, wrong := range []string{waiting, other, none} {
		for _, rest := range []string{waiting, other, none} {
			for place := range 3 {
				texts := []string{wrong, rest, wrong}
				texts[place] = settled
				list := []impl.Version{version(150, texts[0]), version(200, texts[1]), version(300, texts[2])}
				for i, day := range []int{150, 200, 300, 199, 299, impl.MaxDay} {
					if i%3 == place {
						checkDecidesOn(t, list, r, day, rule(3, 0, 10, impl.ActDestroy))
						checkDueOn(t, list, r, day, true)
					} else {
						checkNothingDecides(t, list, r, day)
						checkDueOn(t, list, r, day, false)
					}
				}
				checkFirst(t, list, r, []int{150, 200, 300}[place])
			}
		}
	}
}

func TestPromise8DueOn(t *testing.T) {
	r := held("12s3@100")
	list := []impl.Version{version(0, "3.0+3650d"), version(1000, "3.0+100k"), version(2000, "3.0+3000t")}
	for _, day := range []int{0, 100, 200, 999, 2000, 2001, 3099} {
		checkDueOn(t, list, r, day, false)
		checkWhy(t, list, r, day, "early")
	}
	for _, day := range []int{1000, 1001, 1999, 3100, 3101, impl.MaxDay} {
		checkDueOn(t, list, r, day, true)
		checkWhy(t, list, r, day, "due")
	}
	for _, day := range []int{0, 1, 499} {
		checkDueOn(t, []impl.Version{version(500, "3.0+0d")}, r, day, false)
	}
	for _, day := range []int{0, 1, 499, impl.MaxDay} {
		checkDueOn(t, nil, r, day, false)
		checkDueOn(t, []impl.Version{{}}, r, day, false)
		checkDueOn(t, []impl.Version{version(0, "3.1+0d")}, r, day, false)
		checkDueOn(t, []impl.Version{version(0, "4.0+0d")}, r, day, false)
	}
}

func TestPromise8ADueDayBesideTheDaysOfItsVersion(t *testing.T) {
	// The middle one of three Versions is in force from 500 on and up to 799, and the others never settle the Record.
	for _, beside := range []string{"", "3.9+0d", "4.0+0d"} {
		for due := 100; due <= 1000; due++ {
			r := held("12s3@100")
			list := []impl.Version{version(50, beside), {From: 500, Rules: []impl.Rule{rule(3, 0, due-100, impl.ActTransfer)}}, version(800, beside)}
			checkDueDays(t, list, r, -1, due, -1)
			switch {
			case due <= 500:
				checkFirst(t, list, r, 500)
			case due <= 799:
				checkFirst(t, list, r, due)
			default:
				checkNoFirst(t, list, r)
				checkDueOn(t, list, r, 799, false)
				checkDueOn(t, list, r, min(due, 800), false)
				checkDueOn(t, list, r, due, false)
			}
		}
	}
}

func TestPromise8DueBeforeTheVersion(t *testing.T) {
	r := held("12s3@100")
	for _, from := range []int{0, 1, 99, 100, 109, 110, 111, 500, impl.MaxDay - 1, impl.MaxDay} {
		list := []impl.Version{{From: from, Rules: plan("3.0+10d")}}
		checkDueDays(t, list, r, 110)
		checkFirst(t, list, r, max(from, 110))
		if from > 0 {
			checkWhy(t, list, r, from-1, "none")
		}
		if from < 110 {
			checkWhy(t, list, r, from, "early")
		}
	}
	checkFirst(t, []impl.Version{version(0, "3.0+0d")}, held("12s3@0"), 0)
	checkFirst(t, []impl.Version{version(7, "3.0+0d")}, held("12s3@0"), 7)
	// In an earlier Version it would be due before, but only behind the day on which that one is replaced.
	list := []impl.Version{version(0, "3.0+400d"), version(500, "3.0+5k"), version(600, "3.0+300t")}
	checkDueDays(t, list, r, 500, 105, 400)
	checkFirst(t, list, r, 500)
	checkDecidesOn(t, list, r, 500, rule(3, 0, 5, impl.ActKeep))
}

func TestPromise8TheNextVersionComesFirst(t *testing.T) {
	r := held("12s3@100")
	checkFirst(t, []impl.Version{version(0, "3.0+399d"), version(500, "3.0+9000k")}, r, 499)
	checkFirst(t, []impl.Version{version(0, "3.0+400d"), version(500, "3.0+9000k")}, r, 9100)
	checkFirst(t, []impl.Version{version(0, "3.0+401d"), version(500, "3.0+9000k")}, r, 9100)
	checkFirst(t, []impl.Version{version(0, "3.0+400d"), version(500, "3.0+400k")}, r, 500)
	checkFirst(t, []impl.Version{version(0, "3.0+600d"), version(500, "3.0+9000d"), version(800, "3.0+600k")}, r, 800)
	checkNoFirst(t, []impl.Version{version(0, "3.0+400d"), {From: 500}}, r)
	checkNoFirst(t, []impl.Version{version(0, "3.0+400d"), version(500, "3.1+0k")}, r)
	// The same schedule goes on under another Version.
	checkFirst(t, []impl.Version{version(0, "3.0+900d"), version(500, "3.0+900d"), version(700, "3.0+900d")}, r, 1000)
	// It is due, no more due, and due again: the first day counts.
	again := []impl.Version{version(0, "3.0+0d"), version(200, "3.0+900k"), version(300, "3.0+0t")}
	checkFirst(t, again, r, 100)
	checkDueOn(t, again, r, 199, true)
	checkDueOn(t, again, r, 200, false)
	checkDueOn(t, again, r, 299, false)
	checkDueOn(t, again, r, 300, true)
}

func TestPromise8DueBeyondTheLastDay(t *testing.T) {
	last := []impl.Version{version(0, "3.0+20000d")}
	checkFirst(t, last, held("12s3@0"), impl.MaxDay)
	checkNoFirst(t, last, held("12s3@1"))
	checkDueDays(t, last, held("12s3@1"), impl.MaxDay+1)
	checkDueDays(t, last, held("12s3@20000"), 40000)
	checkDueOn(t, last, held("12s3@1"), impl.MaxDay, false)
	checkWhy(t, last, held("12s3@1"), impl.MaxDay, "early")
	checkDecidesOn(t, last, held("12s3@1"), impl.MaxDay, rule(3, 0, 20000, impl.ActDestroy))
	two := []impl.Version{version(0, "3.0+20000d"), version(impl.MaxDay, "3.0+0k")}
	checkFirst(t, two, held("12s3@1"), impl.MaxDay)
	checkFirst(t, two, held("12s3@20000"), impl.MaxDay)
	checkNoFirst(t, []impl.Version{version(impl.MaxDay, "3.0+1k")}, held("12s3@20000"))
	checkFirst(t, []impl.Version{version(impl.MaxDay, "3.0+1k")}, held("12s3@19999"), impl.MaxDay)
}

func TestPromise8DueInNoVersion(t *testing.T) {
	for _, list := range [][]impl.Version{
		nil, {}, {{}}, {{From: 0}, {From: 500}}, {version(0, "4.0+0d"), version(500, "2.0+0d 30.0+0d")}, {version(0, "3.1+0d"), version(500, "3.0+0d 3.2+0k")},
		{version(0, "3.1+0d"), version(500, "4.0+0d"), {From: 700}}, {version(0, "3.0+20000d"), version(500, "3.0+19901d")},
	} {
		r := held("12s3@100")
		checkNoFirst(t, list, r)
		for _, day := range daysOfVersions(list, []int{100}) {
			checkDueOn(t, list, r, day, false)
		}
	}
}

func TestPromise8DueDays(t *testing.T) {
	list := threeVersions()
	checkDueDays(t, list, held("12s3@100"), 3750, -1, 20100)
	checkDueDays(t, list, held("12s3@100 1@140"), 3750, 2140, 20100)
	checkDueDays(t, list, held("12s2@100"), 110, 110, -1)
	checkDueDays(t, list, held("12s7@100"), -1, -1, -1)
	checkDueDays(t, list, held("12s7@100 2@200"), -1, 205, 205)
	checkDueDays(t, list, held("12s40@100"), -1, -1, 100)
	checkDueDays(t, list, held("12s5@100"), -1, -1, -1)
	checkDueDays(t, list[:1], held("12s3@0"), 3650)
	checkDueDays(t, nil, held("12s3@0"))
	checkDueDays(t, []impl.Version{}, held("12s3@0"))
	checkDueDays(t, []impl.Version{{}}, held("12s3@0"), -1)
	checkDueDays(t, []impl.Version{version(0, "3.0+0d"), version(1, "3.0+20000d"), version(2, "3.1+0d"), version(3, "3.0+1d"), version(4, "")}, held("12s3@0"), 0, 20000, -1, 1, -1)
	checkDueDays(t, fullVersions(), held("9s99@0 9@0"), -1, 20000, -1, -1, 20000)
}

func TestPromise8ChangedSeries(t *testing.T) {
	list := threeVersions()
	checkChanged(t, list, 1, 3, 7)
	checkChanged(t, list, 2, 2, 3, 40)
	checkChanged(t, fullVersions(), 1, 1, 5, 50, 99)
	checkChanged(t, fullVersions(), 4, 1, 2, 3, 5, 7, 40, 50, 99)
	before := "1.0+5d 3.0+10d 3.1+20t 99.0+5d"
	for _, p := range []struct {
		now  string
		want []int
	}{
		{before, nil}, {"", []int{1, 3, 99}}, {"1.0+5d 3.0+10d 99.0+5d", []int{3}}, {"1.0+5d 3.0+10d 3.1+20t 3.2+20t 99.0+5d", []int{3}},
		{"1.0+5d 3.1+20t 99.0+5d", []int{3}}, {"1.0+5d 3.0+10d 3.2+20t 99.0+5d", []int{3}}, {"1.0+5d 3.0+10d 3.1+21t 99.0+5d", []int{3}},
		{"1.0+5d 3.0+10d 3.1+20k 99.0+5d", []int{3}}, {"1.0+5d 3.0+20t 3.1+10d 99.0+5d", []int{3}}, {"1.0+5d 99.0+5d", []int{3}}, {"1.0+5d 3.0+10d 3.1+20t", []int{99}},
		{"3.0+10d 3.1+20t 99.0+5d", []int{1}}, {"1.0+5d 2.0+5d 3.0+10d 3.1+20t 99.0+5d", []int{2}}, {"1.0+5d 3.0+10d 3.1+20t 98.0+5d", []int{98, 99}},
		{"1.0+6d 3.0+10d 3.1+20t 99.0+5k", []int{1, 99}}, {"2.0+5d 4.0+10d 4.1+20t 98.0+5d", []int{1, 2, 3, 4, 98, 99}},
	} {
		checkChanged(t, []impl.Version{version(5, before), version(6, p.now)}, 1, p.want...)
		checkChanged(t, []impl.Version{version(5, p.now), version(6, before)}, 1, p.want...)
		checkChanged(t, []impl.Version{version(4, "50.0+1k"), version(5, p.now), version(6, before)}, 2, p.want...)
	}
	checkChanged(t, []impl.Version{{From: 5}, {From: 6}}, 1)
	checkChanged(t, []impl.Version{{From: 5}, {From: 6, Rules: []impl.Rule{}}}, 1)
}

func TestPromise8ChangedSeriesOfAllSchedules(t *testing.T) {
	lists := append(schedulesOfKeys(), somePlans()...)
	for i := range lists {
		for step := range 7 {
			a, b := lists[i], lists[(i*step+step)%len(lists)]
			checkChanged(t, []impl.Version{{From: 5, Rules: a}, {From: 6, Rules: b}}, 1, changedByRule(a, b)...)
		}
	}
	for _, list := range someVersions() {
		for i := 1; i < len(list); i++ {
			checkChanged(t, list, i, changedByRule(list[i-1].Rules, list[i].Rules)...)
		}
	}
}

func TestPromise8NoVersionBeforeOrNone(t *testing.T) {
	for _, list := range someVersions() {
		for _, place := range append([]int{-2, -1, 0, len(list), len(list) + 1}, extremes...) {
			checkNotChanged(t, list, place)
		}
	}
	roomy := fullVersions()[:2]
	checkNotChanged(t, roomy, 2)
	checkNotChanged(t, roomy[:1], 1)
}

func TestPromise8PutVersion(t *testing.T) {
	list := threeVersions()
	for _, from := range []int{0, 49, 51, 500, 999, 1001, 3999, 4001, impl.MaxDay} {
		for _, text := range []string{"", "3.0+5k", "2.0+10k 3.0+3650d"} {
			v := version(from, text)
			checkVersionPut(t, list, v, withVersion(list, v))
		}
	}
	ahead, between, behind := version(49, "9.9+9k"), version(1001, "9.9+9k"), version(4001, "9.9+9k")
	checkVersionPut(t, list, ahead, []impl.Version{ahead, list[0], list[1], list[2]})
	checkVersionPut(t, list, between, []impl.Version{list[0], list[1], between, list[2]})
	checkVersionPut(t, list, behind, []impl.Version{list[0], list[1], list[2], behind})
	checkVersionPut(t, nil, ahead, []impl.Version{ahead})
	checkVersionPut(t, []impl.Version{}, impl.Version{}, []impl.Version{{}})
	checkVersionPut(t, nil, impl.Version{From: impl.MaxDay, Rules: fullSchedule()}, []impl.Version{{From: impl.MaxDay, Rules: fullSchedule()}})
	checkVersionPut(t, list[:1], list[2], []impl.Version{list[0], list[2]})
}

func TestPromise8PutVersionInsteadOfOne(t *testing.T) {
	for _, list := range someVersions() {
		for i, old := range list {
			for _, rules := range [][]impl.Rule{nil, {}, plan("3.0+5k"), fullSchedule(), old.Rules} {
				want := copyOfVersions(list)
				want[i].Rules = rules
				checkVersionPut(t, list, impl.Version{From: old.From, Rules: rules}, want)
			}
			checkVersionPut(t, append(slices.Clone(list[:i]), list[i+1:]...), old, list)
		}
	}
}

func TestPromise8PutVersionInAFullList(t *testing.T) {
	for _, list := range [][]impl.Version{versionsInARow(impl.MaxVersions), fullVersions()} {
		for _, from := range []int{0, 1, 2, 3, 50, 100, 101, 150, 200, 300, 399, 400, 401, 10000, impl.MaxDay - 2, impl.MaxDay - 1, impl.MaxDay} {
			v := version(from, "9.9+9k")
			if slices.ContainsFunc(list, func(other impl.Version) bool { return other.From == from }) {
				checkVersionPut(t, list, v, withVersion(list, v))
			} else {
				checkVersionNotPut(t, list, v)
			}
			// With one Version less, each one finds room.
			checkVersionPut(t, list[1:], v, withVersion(list[1:], v))
			checkVersionPut(t, list[:4], v, withVersion(list[:4], v))
		}
	}
}

func TestPromise8PutVersionThatIsNone(t *testing.T) {
	for _, list := range [][]impl.Version{nil, threeVersions(), fullVersions(), versionsInARow(4), {{From: 55}}, {{From: 0}}, {{From: impl.MaxDay}}} {
		for _, v := range wrongVersionsAlone() {
			checkVersionNotPut(t, list, v)
		}
		for _, old := range list {
			for _, rules := range wrongSchedules() {
				checkVersionNotPut(t, list, impl.Version{From: old.From, Rules: rules})
			}
		}
	}
}

func TestPromise8PutVersionFromEachList(t *testing.T) {
	for _, list := range someVersions() {
		for _, day := range daysOfVersions(list, nil) {
			v := version(day, "3.0+77k")
			want := withVersion(list, v)
			if len(want) > impl.MaxVersions {
				checkVersionNotPut(t, list, v)
				continue
			}
			checkVersionPut(t, list, v, want)
			changed, _ := impl.PutVersion(list, v)
			checkDecidesOn(t, changed, held("12s3@100"), day, rule(3, 0, 77, impl.ActKeep))
			checkRecordOn(t, changed, held("12s3@100"), max(day-1, 0))
		}
	}
}

func TestPromise8WhyOn(t *testing.T) {
	list := threeVersions()
	r := held("12s3@100 1@140")
	for _, p := range []struct {
		day int
		why string
	}{{0, "none"}, {49, "none"}, {50, "early"}, {999, "early"}, {1000, "early"}, {2139, "early"}, {2140, "due"}, {3999, "due"}, {4000, "early"}, {impl.MaxDay, "early"}} {
		checkWhy(t, list, r, p.day, p.why)
	}
	waiting := held("12s3@100")
	for _, p := range []struct {
		day int
		why string
	}{{49, "none"}, {50, "early"}, {999, "early"}, {1000, "event"}, {3999, "event"}, {4000, "early"}} {
		checkWhy(t, list, waiting, p.day, p.why)
	}
	gone := held("2s2@100")
	for _, p := range []struct {
		day int
		why string
	}{{49, "none"}, {50, "early"}, {109, "early"}, {110, "due"}, {3999, "due"}, {4000, "series"}, {impl.MaxDay, "series"}} {
		checkWhy(t, list, gone, p.day, p.why)
	}
}

func TestPromise8TheFirstWordThatApplies(t *testing.T) {
	// No Version is in force yet, whatever the ones to come say.
	for _, text := range []string{"", "4.0+0d", "3.1+0d", "3.0+9000d", "3.0+0d"} {
		for _, day := range []int{0, 1, 499} {
			checkWhy(t, []impl.Version{version(500, text), version(600, "3.0+0d")}, held("12s3@100"), day, "none")
		}
	}
	for _, day := range []int{0, 500, impl.MaxDay} {
		checkWhy(t, nil, held("12s3@100"), day, "none")
	}
	// A Version has no Rule for the Series, and open ones, later ones and due ones for others.
	for _, text := range []string{"", "4.1+0d", "2.0+9000d 4.0+9000d", "2.0+0d 4.0+0d", "30.0+0d 33.1+0d"} {
		for _, day := range []int{0, 100, 500, impl.MaxDay} {
			checkWhy(t, []impl.Version{version(0, text), version(impl.MaxDay, text)}, held("12s3@100"), day, "series")
		}
	}
	// One Rule is open, and the end of another is behind the day, on it or before it.
	for _, text := range []string{"3.1+0d", "3.0+9000d 3.1+0d", "3.0+0d 3.1+9000d", "3.0+400d 3.1+5k", "3.0+0d 3.2+0d 3.9+0d", "3.1+20000d 3.2+0k"} {
		for _, day := range []int{0, 99, 100, 500, impl.MaxDay} {
			checkWhy(t, []impl.Version{version(0, text)}, held("12s3@100"), day, "event")
			checkWhy(t, []impl.Version{version(0, text)}, held("12s3@100 3@100"), day, "event")
		}
	}
	// One end is before the day, and the greatest one behind it.
	for _, text := range []string{"3.0+401d", "3.0+0d 3.1+401k", "3.0+401d 3.1+0k", "3.0+9000k 3.1+9000k"} {
		checkWhy(t, []impl.Version{version(0, text)}, held("12s3@100 1@100"), 500, "early")
	}
	checkWhy(t, []impl.Version{version(0, "3.0+400d 3.1+400k")}, held("12s3@100 1@100"), 500, "due")
}

func TestPromise8EachRecordInAllVersions(t *testing.T) {
	for _, list := range someVersions() {
		for _, r := range recordsToVersion() {
			checkRecord(t, list, r)
		}
	}
}

func TestPromise8AllRecordsInSomeVersions(t *testing.T) {
	lists := [][]impl.Version{threeVersions(), fullVersions(), versionsInARow(5), mixedVersions(3), mixedVersions(7)}
	for _, r := range append(recordsToSettle(), recordsOfAllKinds()[:200]...) {
		for _, list := range lists {
			checkRecord(t, list, r)
		}
	}
}

// TestPromise8OnTheFirstDaySomethingDecides goes over each day with the functions of the program alone.
func TestPromise8OnTheFirstDaySomethingDecides(t *testing.T) {
	lists := [][]impl.Version{threeVersions(), fullVersions(), versionsInARow(5)}
	for mix := range 8 {
		lists = append(lists, mixedVersions(5*mix+1))
	}
	known := 0
	for _, list := range lists {
		for _, r := range recordsToVersion()[:5] {
			first, found := impl.FirstDueDay(list, r)
			if found {
				known++
			} else {
				first = impl.MaxDay + 1
			}
			for day := 0; day <= min(first, impl.MaxDay); day++ {
				due, ok := impl.DueOn(list, r, day)
				if !ok || due != (day == first) {
					t.Fatalf("FirstDueDay(%v, %v) = %d, %v, but on %d: %v", list, r, first, found, day, due)
				}
			}
			if _, decides := impl.DecidesOn(list, r, first); decides != found {
				t.Fatalf("on %d nothing decides for %v in %v", first, r, list)
			}
		}
	}
	if known < 10 {
		t.Error("only", known, "Records are due on some day")
	}
}

func TestPromise8NumbersThatAreNoDaysOfVersions(t *testing.T) {
	for _, list := range [][]impl.Version{nil, threeVersions(), fullVersions(), {version(0, "3.0+0d")}, {version(impl.MaxDay, "3.0+0d")}} {
		for _, day := range append([]int{-1, impl.MaxDay + 1}, extremes...) {
			checkNoneInForce(t, list, day)
			for _, r := range append(recordsToVersion(), impl.Record{}) {
				checkNoneOn(t, list, r, day)
			}
		}
	}
}

func TestPromise8InvalidRecordsHaveNoVersion(t *testing.T) {
	lists := [][]impl.Version{nil, {{}}, threeVersions(), fullVersions(), {version(0, "3.0+0d")}, {version(impl.MaxDay, "3.0+0d")}, {version(0, "3.0+0d 3.1+0d 3.4+0d 5.0+1d")}}
	for _, r := range append(wrongRecords(), record(12, 0, 0), record(12, 100, 0), record(0, 3, 0)) {
		for _, list := range lists {
			checkNoneFor(t, list, r)
		}
	}
	for _, series := range append([]int{0, 100}, extremes...) {
		checkNoneFor(t, []impl.Version{{From: 0, Rules: []impl.Rule{rule(series, 0, 5, 3)}}}, record(12, series, 100))
	}
}

func TestPromise8WrongVersionsAreRefused(t *testing.T) {
	for _, list := range wrongVersions() {
		checkNoVersions(t, list)
	}
	// Only a Version that comes into force much later is wrong, or only one that is in force no more.
	late := append(threeVersions(), impl.Version{From: 15000, Rules: wrongSchedules()[0]})
	early := append([]impl.Version{{From: 0, Rules: wrongSchedules()[0]}}, threeVersions()...)
	checkNoVersions(t, late)
	checkNoVersions(t, early)
	for _, v := range append(threeVersions(), impl.Version{From: 15000}, impl.Version{From: 0}) {
		checkVersionNotPut(t, late, v)
		checkVersionNotPut(t, early, v)
	}
}

// useVersions calls each function of the chapter.
func useVersions(list []impl.Version, records []impl.Record, versions []impl.Version, numbers []int) {
	for _, r := range records {
		impl.DueDays(list, r)
		impl.FirstDueDay(list, r)
		for _, n := range numbers {
			impl.DecidesOn(list, r, n)
			impl.DueOn(list, r, n)
			impl.WhyOn(list, r, n)
		}
	}
	for _, n := range numbers {
		impl.VersionOn(list, n)
		impl.ChangedSeries(list, n)
	}
	for _, v := range versions {
		impl.PutVersion(list, v)
	}
	impl.AreVersions(list)
}

func TestPromise29VersionsReturnForAllArguments(t *testing.T) {
	numbers := append([]int{0, 1, 2, 4, 5, 6, 100, 540, impl.MaxDay}, extremes...)
	lists := append(wrongVersions(), someVersions()...)
	lists = append(lists, []impl.Version{{From: math.MinInt}, {From: math.MaxInt}}, []impl.Version{{From: math.MaxInt, Rules: wrongRules()}})
	versions := append(wrongVersionsAlone(), impl.Version{}, version(50, "3.0+10d"), impl.Version{From: impl.MaxDay, Rules: fullSchedule()})
	for _, list := range lists {
		useVersions(list, recordsToVersion()[:3], versions, numbers)
		useVersions(list, []impl.Record{{}, {Events: make([]impl.Event, 1<<16)}, record(math.MinInt, math.MaxInt, math.MinInt)}, nil, numbers)
	}
	for _, r := range append(wrongRecords(), recordsToSettle()...) {
		useVersions(threeVersions(), []impl.Record{r}, nil, numbers)
		useVersions(fullVersions(), []impl.Record{r}, nil, numbers)
		useVersions(nil, []impl.Record{r}, nil, numbers)
	}
}

// roomyVersions has a list of as many Versions, with others behind its length, and with room and Rules behind the length of their Rules.
func roomyVersions(length int) []impl.Version {
	all := append(versionsInARow(impl.MaxVersions), impl.Version{From: -7}, impl.Version{From: 7})
	for i, v := range all {
		all[i].Rules = append(slices.Clone(v.Rules), rule(3, 5, 10, 1), rule(99, 9, 10, 1), rule(-7, -7, -7, -7))[:len(v.Rules)]
	}
	return all[:length]
}

// roomyVersion has Rules behind the length of its Rules.
func roomyVersion(from int) impl.Version {
	return impl.Version{From: from, Rules: append(plan("3.0+5k 3.1+6d"), rule(3, 2, 10, 1), rule(-7, -7, -7, -7))[:2]}
}

// textOfVersions shows a list as far as its memory reaches.
func textOfVersions(list []impl.Version) string {
	var text strings.Builder
	for _, v := range list[:cap(list)] {
		fmt.Fprintln(&text, v.From, len(v.Rules), v.Rules[:cap(v.Rules)])
	}
	return text.String()
}

func TestPromise29VersionsAreNotModified(t *testing.T) {
	numbers := []int{-1, 0, 1, 2, 3, 5, 100, 140, 200, 400, 1000, impl.MaxDay, impl.MaxDay + 1}
	lists := append(wrongVersions(), someVersions()[:30]...)
	for length := range impl.MaxVersions + 1 {
		lists = append(lists, roomyVersions(length), append(make([]impl.Version, 0, 9), roomyVersions(length)...))
	}
	for _, list := range lists {
		for length := range 7 {
			r, events := roomy(length)
			versions := []impl.Version{{From: 50}, roomyVersion(0), roomyVersion(100), roomyVersion(150), roomyVersion(400), roomyVersion(500), roomyVersion(-1)}
			keptList, keptVersions, keptEvents, keptText := textOfVersions(list), textOfVersions(versions), slices.Clone(events), textOfRecord(r)
			useVersions(list, []impl.Record{r}, versions, numbers)
			if textOfVersions(list) != keptList || textOfVersions(versions) != keptVersions {
				t.Fatalf("the Versions changed to %s, %s", brief(textOfVersions(list)), brief(textOfVersions(versions)))
			}
			if !slices.Equal(events, keptEvents) || textOfRecord(r) != keptText {
				t.Fatalf("the Record changed to %v, %v", r, events)
			}
		}
	}
}

func TestPromise29VersionsBehindTheLengthAreNotUsed(t *testing.T) {
	records := heldAll("12s3@100", "12s3@100 1@140", "12s3@0 1@0", "9s99@0 9@0")
	for length := range impl.MaxVersions + 1 {
		list := roomyVersions(length)
		if !impl.AreVersions(list) {
			t.Fatalf("the lengths of %s are not kept to", textOfVersions(list))
		}
		for _, r := range records {
			checkRecord(t, list, r)
		}
		for i := range length {
			if i > 0 {
				checkChanged(t, list, i, 3)
			}
		}
		checkNotChanged(t, list, length)
		for _, from := range []int{0, 50, 100, 450, impl.MaxDay} {
			if want := withVersion(list, roomyVersion(from)); len(want) <= impl.MaxVersions {
				checkVersionPut(t, list, roomyVersion(from), want)
			} else {
				checkVersionNotPut(t, list, roomyVersion(from))
			}
		}
	}
	checkNoVersions(t, roomyVersions(impl.MaxVersions+1))
}

// scribbleVersions overwrites a list of Versions and their Rules, as far as their memory reaches.
func scribbleVersions(list []impl.Version) {
	all := list[:cap(list)]
	for i := range all {
		scribbleRules(all[i].Rules)
		all[i] = impl.Version{From: -7}
	}
}

func TestPromise29PutVersionSharesNoMemory(t *testing.T) {
	for length := range impl.MaxVersions + 1 {
		for _, from := range []int{0, 50, 100, 150, 200, 300, 399, 400, 500, impl.MaxDay} {
			list, v := roomyVersions(length), roomyVersion(from)
			keptList, keptRules := textOfVersions(list), slices.Clone(v.Rules[:cap(v.Rules)])
			first, ok := impl.PutVersion(list, v)
			second, fine := impl.PutVersion(list, v)
			if !ok || !fine {
				checkVersionNotPut(t, list, v)
				continue
			}
			want := copyOfVersions(second)
			scribbleVersions(first)
			if textOfVersions(list) != keptList || !slices.Equal(v.Rules[:cap(v.Rules)], keptRules) || !sameVersions(second, want) {
				t.Errorf("a result of %d Versions and one from %d on shares memory: %s, %v, %v", length, from, textOfVersions(list), v, second)
			}
			scribbleVersions(list)
			scribbleRules(v.Rules)
			if !sameVersions(second, want) {
				t.Errorf("an argument of %d Versions and one from %d on shares memory: %v", length, from, second)
			}
		}
	}
}

func TestPromise29VersionsOfOneResultShareNoMemory(t *testing.T) {
	// All Versions have the same Rules in the same memory, and the new one has those of the others.
	rules := fullSchedule()
	list := []impl.Version{{From: 0, Rules: rules}, {From: 100, Rules: rules[:4]}, {From: 200, Rules: rules[4:]}, {From: 300, Rules: rules}}
	for _, from := range []int{0, 50, 100, 150, 200, 250, 300, 350} {
		changed, ok := impl.PutVersion(list, impl.Version{From: from, Rules: list[1].Rules})
		want := copyOfVersions(changed)
		for i := range changed {
			scribbleRules(changed[i].Rules)
			for j := i + 1; j < len(changed); j++ {
				if !slices.Equal(changed[j].Rules, want[j].Rules) {
					t.Errorf("with one from %d on, the Versions %d and %d share memory", from, i, j)
				}
			}
		}
		if !ok || !slices.Equal(rules, fullSchedule()) {
			t.Errorf("with one from %d on, the Rules of an argument changed to %v", from, rules)
		}
	}
}

// checkVersionNumbersUnshared looks that neither an argument nor a second result changes with the memory of the first one.
func checkVersionNumbersUnshared(t *testing.T, name string, act func([]impl.Version, impl.Record) ([]int, bool)) {
	t.Helper()
	list := roomyVersions(4)
	r, events := roomy(4)
	keptList, keptEvents := textOfVersions(list), slices.Clone(events)
	first, ok := act(list, r)
	second, fine := act(list, r)
	want := slices.Clone(second)
	scribbleNumbers(first)
	if !ok || !fine || len(want) == 0 || !slices.Equal(second, want) || textOfVersions(list) != keptList || !slices.Equal(events, keptEvents) {
		t.Errorf("a result of %s shares memory: %v, %s, %v", name, second, textOfVersions(list), events)
	}
	scribbleVersions(list)
	scribble(events)
	if !slices.Equal(second, want) {
		t.Errorf("an argument of %s shares memory: %v", name, second)
	}
}

func TestPromise29NumbersOfVersionsShareNoMemory(t *testing.T) {
	checkVersionNumbersUnshared(t, "DueDays", impl.DueDays)
	for place := 1; place < 4; place++ {
		checkVersionNumbersUnshared(t, "ChangedSeries", func(list []impl.Version, _ impl.Record) ([]int, bool) { return impl.ChangedSeries(list, place) })
	}
}
