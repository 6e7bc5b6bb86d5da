package tests

import (
	"fmt"
	"math"
	"slices"
	"strings"
	"testing"

	"loop.example/g01035/impl"
)

// hold makes one for Records that were made on the days first..last, of all Series if none is named.
func hold(id, from, until, first, last int, series ...int) impl.Hold {
	return impl.Hold{Id: id, From: from, Until: until, Series: series, First: first, Last: last}
}

// always makes one for all Records.
func always(id, from, until int) impl.Hold {
	return hold(id, from, until, 0, impl.MaxDay)
}

// sixHolds overlap, follow each other and have gaps between them, and differ in the Records that they cover.
func sixHolds() []impl.Hold {
	return []impl.Hold{
		hold(2, 100, 300, 50, 150, 3, 5), hold(6, 0, 500, 0, 200), hold(12, 600, 900, 0, impl.MaxDay, 3),
		hold(13, 500, 700, 100, 100), hold(40, 1000, 1200, 0, 100, 1, 2, 3, 4, 5), hold(70, impl.MaxDay-9, -1, 90, 110, 3, 99),
	}
}

// fullHolds has as many as may be, most of which meet limits.
func fullHolds() []impl.Hold {
	return []impl.Hold{
		hold(1, 0, 1, 0, 0), hold(2, 0, -1, impl.MaxDay, impl.MaxDay, 1), hold(3, 0, impl.MaxDay, 0, impl.MaxDay, 99),
		hold(4, impl.MaxDay-1, impl.MaxDay, 0, impl.MaxDay, 1, 2, 3, 4, 5), hold(50, impl.MaxDay, -1, 0, impl.MaxDay, 95, 96, 97, 98, 99),
		hold(97, impl.MaxDay-1, -1, 0, 0, 1, 99), hold(98, 500, -1, 100, 100, 3), hold(99, 0, impl.MaxDay, 99, 101, 3),
	}
}

// holdsInARow makes as many, each of which has half of its days in common with the next one.
func holdsInARow(count int) []impl.Hold {
	var list []impl.Hold
	for i := range count {
		list = append(list, hold(3+5*i, 100*i, 100*i+200, 10*i, 10*i+100, 3, 4+i))
	}
	return list
}

// mixedHolds makes some out of a number, with days that many of them have in common.
func mixedHolds(mix int) []impl.Hold {
	next := func(n int) int {
		mix = (mix*8121 + 28411) % 134456
		return mix / 7 % n
	}
	days := []int{0, 1, 99, 100, 101, 300, 540, 541, 3749, 3750, 3751, 3752, impl.MaxDay - 1, impl.MaxDay}
	var list []impl.Hold
	for id := range next(impl.MaxHolds + 1) {
		from, until := next(len(days)), -1
		if rest := len(days) - 1 - from; rest > 0 && next(5) > 0 {
			until = days[from+1+next(rest)]
		}
		first := next(len(days))
		last := first + next(len(days)-first)
		if next(2) == 0 {
			first, last = 0, len(days)-1
		}
		list = append(list, hold(1+12*id, days[from], until, days[first], days[last], [][]int{nil, {}, {3}, {3, 5}, {1, 2, 3, 7, 99}, {5}, {1, 99}}[next(7)]...))
	}
	return list
}

func someHolds() [][]impl.Hold {
	lists := [][]impl.Hold{nil, {}, sixHolds(), fullHolds(), {always(1, 0, -1)}, {always(99, impl.MaxDay, -1)}, {always(1, 0, 1)}, {always(1, 0, impl.MaxDay)}}
	for count := 1; count <= impl.MaxHolds; count++ {
		lists = append(lists, holdsInARow(count), fullHolds()[:count], fullHolds()[impl.MaxHolds-count:])
	}
	for mix := range 200 {
		lists = append(lists, mixedHolds(mix))
	}
	return lists
}

// wrongHoldsAlone are invalid, each for one reason, as far as one number can be wrong for one reason alone.
func wrongHoldsAlone() []impl.Hold {
	wrong := []impl.Hold{
		{}, hold(0, 100, 300, 50, 150, 3), hold(100, 100, 300, 50, 150, 3), hold(12, -1, 300, 50, 150, 3), hold(12, -1, -1, 50, 150, 3),
		hold(12, impl.MaxDay+1, -1, 50, 150, 3), hold(12, impl.MaxDay+1, impl.MaxDay+2, 50, 150, 3), hold(12, impl.MaxDay, impl.MaxDay+1, 50, 150, 3),
		hold(12, 100, 100, 50, 150, 3), hold(12, 100, 99, 50, 150, 3), hold(12, 100, 0, 50, 150, 3), hold(12, 0, 0, 50, 150, 3), hold(12, impl.MaxDay, impl.MaxDay, 50, 150),
		hold(12, 100, impl.MaxDay+1, 50, 150, 3), hold(12, 100, -2, 50, 150, 3), hold(12, 0, -2, 50, 150, 3),
		hold(12, 100, 300, 50, 150, 0), hold(12, 100, 300, 50, 150, 100), hold(12, 100, 300, 50, 150, -1), hold(12, 100, 300, 50, 150, 0, 3), hold(12, 100, 300, 50, 150, 3, 100),
		hold(12, 100, 300, 50, 150, 3, 3), hold(12, 100, 300, 50, 150, 3, 5, 5), hold(12, 100, 300, 50, 150, 5, 3), hold(12, 100, 300, 50, 150, 3, 7, 5), hold(12, 100, 300, 50, 150, 3, 5, 3),
		hold(12, 100, 300, 50, 150, 1, 2, 3, 4, 5, 6), hold(12, 100, 300, 50, 150, 3, 94, 95, 96, 97, 98, 99), hold(12, 100, 300, 50, 150, make([]int, 1<<16)...),
		hold(12, 100, 300, 151, 150, 3), hold(12, 100, 300, impl.MaxDay, 0), hold(12, 100, 300, 101, 100), hold(12, 100, 300, -1, 150, 3), hold(12, 100, 300, -1, -1, 3),
		hold(12, 100, 300, 50, impl.MaxDay+1, 3), hold(12, 100, 300, impl.MaxDay+1, impl.MaxDay+1, 3), hold(12, 100, 300, 0, impl.MaxDay+1),
	}
	for _, n := range extremes {
		wrong = append(wrong, hold(n, 100, 300, 50, 150, 3), hold(12, n, -1, 50, 150, 3), hold(12, 100, 300, 50, 150, n), hold(12, 100, 300, n, 150, 3), hold(12, 100, 300, 50, n, 3), hold(n, n, n, n, n, n))
		if n != -1 {
			wrong = append(wrong, hold(12, 100, n, 50, 150, 3))
		}
	}
	return wrong
}

// wrongHolds are lists that are none of Holds, most of them for one reason.
func wrongHolds() [][]impl.Hold {
	a, b, c := always(5, 0, -1), always(50, 0, 400), always(60, 100, -1)
	lists := [][]impl.Hold{
		{b, a}, {a, a}, {c, b, a}, {a, c, b}, {b, a, c}, {a, a, c}, {a, c, c}, {a, b, a}, {a, hold(5, 10, 20, 30, 40, 3)},
		holdsInARow(impl.MaxHolds + 1), holdsInARow(impl.MaxHolds + 2), append(fullHolds()[:7], always(98, 0, 1)), append([]impl.Hold{always(1, 0, 1)}, fullHolds()...), make([]impl.Hold, 1<<16),
	}
	for _, wrong := range wrongHoldsAlone() {
		lists = append(lists, []impl.Hold{wrong})
		if wrong.Id == 12 {
			lists = append(lists, []impl.Hold{a, wrong}, []impl.Hold{wrong, b}, []impl.Hold{a, wrong, b})
		}
	}
	return append(lists, []impl.Hold{always(0, 0, -1), a}, []impl.Hold{c, always(100, 0, -1)}, []impl.Hold{a, {}}, []impl.Hold{{}, a})
}

// wrongRecordLists are lists that are none of Records.
func wrongRecordLists() [][]impl.Record {
	a, b, c := record(1, 3, 100), record(2, 3, 100), record(999, 3, 100)
	lists := [][]impl.Record{{b, a}, {a, a}, {c, b, a}, {a, c, b}, {a, b, b}, recordsFrom(1, impl.MaxHeld+1), recordsFrom(1, impl.MaxHeld+2), make([]impl.Record, 1<<16)}
	for _, wrong := range wrongRecords() {
		lists = append(lists, []impl.Record{wrong}, []impl.Record{a, wrong}, []impl.Record{wrong, c}, []impl.Record{a, wrong, c})
	}
	return lists
}

// recordsToHold are Records that many of someHolds cover, and some that few do.
func recordsToHold() []impl.Record {
	return heldAll("1s3@100", "12s3@100 1@140", "13s3@99", "14s3@0", "15s3@101 1@20000", "16s5@540", "17s99@0", "18s1@20000", "19s40@100", "20s3@3750")
}

// validHold reports whether one is, by the numbers of the document.
func validHold(h impl.Hold) bool {
	if h.Id < 1 || h.Id > 99 || h.From < 0 || h.From > 20000 || len(h.Series) > 5 {
		return false
	}
	if h.Until != -1 && (h.Until < h.From+1 || h.Until > 20000) {
		return false
	}
	for i, series := range h.Series {
		if series < 1 || series > 99 || slices.ContainsFunc(h.Series[i+1:], func(later int) bool { return later <= series }) {
			return false
		}
	}
	return h.First >= 0 && h.Last <= 20000 && h.First <= h.Last
}

// areHoldsByPairs compares each Hold with each one behind it.
func areHoldsByPairs(list []impl.Hold) bool {
	for i, h := range list {
		if !validHold(h) || slices.ContainsFunc(list[i+1:], func(later impl.Hold) bool { return later.Id <= h.Id }) {
			return false
		}
	}
	return len(list) <= 8
}

// isFor reports whether a Hold names a Record, on whichever day.
func isFor(h impl.Hold, r impl.Record) bool {
	if r.Made < h.First || r.Made > h.Last {
		return false
	}
	return len(h.Series) == 0 || slices.Index(h.Series, r.Series) >= 0
}

// coveringOn returns the Ids of the Holds that cover a Record on a day.
func coveringOn(list []impl.Hold, r impl.Record, day int) []int {
	var ids []int
	for _, h := range list {
		if isFor(h, r) && h.From <= day && (h.Until == -1 || h.Until > day) {
			ids = append(ids, h.Id)
		}
	}
	return ids
}

// countsByDay has the number of the Holds that cover a Record, for each day, and goes over the days of each Hold for it.
func countsByDay(list []impl.Hold, r impl.Record) []int {
	counts := make([]int, impl.MaxDay+1)
	for _, h := range list {
		if !isFor(h, r) {
			continue
		}
		for day := h.From; day <= impl.MaxDay && day != h.Until; day++ {
			counts[day]++
		}
	}
	return counts
}

// sameHolds compares the Holds and their Series.
func sameHolds(a, b []impl.Hold) bool {
	return slices.EqualFunc(a, b, func(x, y impl.Hold) bool {
		return x.Id == y.Id && x.From == y.From && x.Until == y.Until && slices.Equal(x.Series, y.Series) && x.First == y.First && x.Last == y.Last
	})
}

// copyOfHolds has the same Holds in other memory.
func copyOfHolds(list []impl.Hold) []impl.Hold {
	all := slices.Clone(list)
	for i, h := range all {
		all[i].Series = slices.Clone(h.Series)
	}
	return all
}

func checkHoldsOn(t *testing.T, list []impl.Hold, r impl.Record, day int, want ...int) {
	t.Helper()
	if ids, ok := impl.HoldsOn(list, r, day); !ok || !slices.Equal(ids, want) {
		t.Errorf("HoldsOn(%v, %v, %d) = %v, %v", list, r, day, ids, ok)
	}
}

func checkNoHoldsOn(t *testing.T, list []impl.Hold, r impl.Record, day int) {
	t.Helper()
	if ids, ok := impl.HoldsOn(list, r, day); ok || len(ids) != 0 {
		t.Errorf("HoldsOn(%s, %s, %d) = %v, %v", brief(list), brief(r), day, ids, ok)
	}
}

func checkFree(t *testing.T, list []impl.Hold, r impl.Record, day, want int) {
	t.Helper()
	if free, ok := impl.FreeDay(list, r, day); !ok || free != want {
		t.Errorf("FreeDay(%v, %v, %d) = %d, %v", list, r, day, free, ok)
	}
}

func checkNoFree(t *testing.T, list []impl.Hold, r impl.Record, day int) {
	t.Helper()
	if free, ok := impl.FreeDay(list, r, day); ok || free != 0 {
		t.Errorf("FreeDay(%s, %s, %d) = %d, %v", brief(list), brief(r), day, free, ok)
	}
}

// checkReleased looks that one Hold is in force Until a day, and that the others stay as they are.
func checkReleased(t *testing.T, list []impl.Hold, place, day int) {
	t.Helper()
	want := copyOfHolds(list)
	want[place].Until = day
	if changed, ok := impl.ReleaseHold(list, list[place].Id, day); !ok || !sameHolds(changed, want) {
		t.Errorf("ReleaseHold(%v, %d, %d) = %v, %v", list, list[place].Id, day, changed, ok)
	}
}

func checkNotReleased(t *testing.T, list []impl.Hold, id, day int) {
	t.Helper()
	if changed, ok := impl.ReleaseHold(list, id, day); ok || len(changed) != 0 {
		t.Errorf("ReleaseHold(%s, %d, %d) = %s, %v", brief(list), id, day, brief(changed), ok)
	}
}

func checkHeldOn(t *testing.T, list []impl.Hold, records []impl.Record, day int, want ...int) {
	t.Helper()
	if ids, ok := impl.HeldOn(list, records, day); !ok || !slices.Equal(ids, want) {
		t.Errorf("HeldOn(%v, %v, %d) = %v, %v", list, records, day, ids, ok)
	}
}

func checkNeeded(t *testing.T, list []impl.Hold, records []impl.Record, day int, want ...int) {
	t.Helper()
	if ids, ok := impl.NeededHolds(list, records, day); !ok || !slices.Equal(ids, want) {
		t.Errorf("NeededHolds(%v, %v, %d) = %v, %v", list, records, day, ids, ok)
	}
}

// checkNoRecordsOn hands what is invalid to the functions that take Records and a day.
func checkNoRecordsOn(t *testing.T, list []impl.Hold, records []impl.Record, day int) {
	t.Helper()
	if ids, ok := impl.HeldOn(list, records, day); ok || len(ids) != 0 {
		t.Errorf("HeldOn(%s, %s, %d) = %v, %v", brief(list), brief(records), day, ids, ok)
	}
	if ids, ok := impl.NeededHolds(list, records, day); ok || len(ids) != 0 {
		t.Errorf("NeededHolds(%s, %s, %d) = %v, %v", brief(list), brief(records), day, ids, ok)
	}
}

func checkMayDestroy(t *testing.T, list []impl.Hold, r impl.Record, schedule []impl.Rule, day int, want bool) {
	t.Helper()
	if may, ok := impl.MayDestroy(list, r, schedule, day); !ok || may != want {
		t.Errorf("MayDestroy(%v, %v, %v, %d) = %v, %v", list, r, schedule, day, may, ok)
	}
}

func checkNotMayDestroy(t *testing.T, list []impl.Hold, r impl.Record, schedule []impl.Rule, day int) {
	t.Helper()
	if may, ok := impl.MayDestroy(list, r, schedule, day); ok || may {
		t.Errorf("MayDestroy(%s, %s, %s, %d) = %v, %v", brief(list), brief(r), brief(schedule), day, may, ok)
	}
}

// checkFirstDestruction looks for the first day, and that the Record may be destroyed on it but not on the day before it.
func checkFirstDestruction(t *testing.T, list []impl.Hold, r impl.Record, schedule []impl.Rule, want int) {
	t.Helper()
	if day, ok := impl.FirstDestruction(list, r, schedule); !ok || day != want {
		t.Errorf("FirstDestruction(%v, %v, %v) = %d, %v", list, r, schedule, day, ok)
	}
	checkMayDestroy(t, list, r, schedule, want, true)
	if want > 0 {
		checkMayDestroy(t, list, r, schedule, want-1, false)
	}
}

func checkNoDestruction(t *testing.T, list []impl.Hold, r impl.Record, schedule []impl.Rule) {
	t.Helper()
	if day, ok := impl.FirstDestruction(list, r, schedule); ok || day != 0 {
		t.Errorf("FirstDestruction(%s, %s, %s) = %d, %v", brief(list), brief(r), brief(schedule), day, ok)
	}
}

func checkMost(t *testing.T, list []impl.Hold, r impl.Record, wantMost, wantFirst int) {
	t.Helper()
	if most, first, ok := impl.MostHolds(list, r); !ok || most != wantMost || first != wantFirst {
		t.Errorf("MostHolds(%v, %v) = %d, %d, %v", list, r, most, first, ok)
	}
}

func checkNoMost(t *testing.T, list []impl.Hold, r impl.Record) {
	t.Helper()
	if most, first, ok := impl.MostHolds(list, r); ok || most != 0 || first != 0 {
		t.Errorf("MostHolds(%s, %s) = %d, %d, %v", brief(list), brief(r), most, first, ok)
	}
}

func checkHeldDays(t *testing.T, list []impl.Hold, r impl.Record, want int) {
	t.Helper()
	if days, ok := impl.HeldDays(list, r); !ok || days != want {
		t.Errorf("HeldDays(%v, %v) = %d, %v", list, r, days, ok)
	}
}

// checkNotHeld hands Holds or a Record that are none to each function that takes both.
func checkNotHeld(t *testing.T, list []impl.Hold, r impl.Record) {
	t.Helper()
	schedule := []impl.Rule{rule(r.Series, 0, 0, impl.ActDestroy)}
	for _, day := range []int{-1, 0, 1, 99, 100, 200, 300, impl.MaxDay, impl.MaxDay + 1} {
		checkNoHoldsOn(t, list, r, day)
		checkNoFree(t, list, r, day)
		checkNotMayDestroy(t, list, r, schedule, day)
		checkNotMayDestroy(t, list, r, nil, day)
		checkNotMayDestroy(t, list, r, fullSchedule(), day)
		checkNoRecordsOn(t, list, []impl.Record{r}, day)
	}
	checkNoDestruction(t, list, r, schedule)
	checkNoDestruction(t, list, r, nil)
	checkNoMost(t, list, r)
	if days, ok := impl.HeldDays(list, r); ok || days != 0 {
		t.Errorf("HeldDays(%s, %s) = %d, %v", brief(list), brief(r), days, ok)
	}
}

// checkNoHolds hands a list that is none of Holds to each function.
func checkNoHolds(t *testing.T, list []impl.Hold) {
	t.Helper()
	if impl.AreHolds(list) {
		t.Errorf("%s are Holds", brief(list))
	}
	for _, r := range heldAll("12s3@100", "12s3@0 1@0", "7s5@20000") {
		checkNotHeld(t, list, r)
	}
	for _, day := range []int{-1, 0, 1, 150, 500, impl.MaxDay, impl.MaxDay + 1} {
		checkNoRecordsOn(t, list, nil, day)
		checkNoRecordsOn(t, list, recordsToHold(), day)
		for _, id := range []int{-1, 0, 3, 5, 12, 50, 60, 98, 99, 100} {
			checkNotReleased(t, list, id, day)
		}
	}
}

// checkNoHoldDay hands a number that is no day to each function that takes one.
func checkNoHoldDay(t *testing.T, list []impl.Hold, day int) {
	t.Helper()
	for _, r := range recordsToHold() {
		checkNoHoldsOn(t, list, r, day)
		checkNoFree(t, list, r, day)
		checkNotMayDestroy(t, list, r, plan("3.0+0d"), day)
		checkNotMayDestroy(t, list, r, nil, day)
	}
	for _, records := range [][]impl.Record{nil, recordsToHold()} {
		checkNoRecordsOn(t, list, records, day)
	}
	for _, h := range list {
		checkNotReleased(t, list, h.Id, day)
	}
}

// daysOfHolds are the days at the limits, and those at each From and each Until.
func daysOfHolds(list []impl.Hold) []int {
	days := []int{0, 1, 100, impl.MaxDay - 1, impl.MaxDay}
	for _, h := range list {
		days = append(days, daysAround(h.From)...)
		days = append(days, daysAround(h.Until)...)
	}
	slices.Sort(days)
	return slices.Compact(days)
}

// checkHolds compares what each function tells of Holds and of a Record with the counts of all days.
func checkHolds(t *testing.T, list []impl.Hold, r impl.Record) {
	t.Helper()
	most, first, heldDays, free := 0, 0, 0, -1
	counts := countsByDay(list, r)
	days := daysOfHolds(list)
	for day := impl.MaxDay; day >= 0; day-- {
		if counts[day] == 0 {
			free = day
		} else {
			heldDays++
		}
		if counts[day] > 0 && counts[day] >= most {
			most, first = counts[day], day
		}
		if _, found := slices.BinarySearch(days, day); !found {
			continue
		}
		checkHoldsOn(t, list, r, day, coveringOn(list, r, day)...)
		if free >= 0 {
			checkFree(t, list, r, day, free)
		} else {
			checkNoFree(t, list, r, day)
		}
	}
	checkHeldDays(t, list, r, heldDays)
	if most > 0 {
		checkMost(t, list, r, most, first)
	} else {
		checkNoMost(t, list, r)
	}
}

// checkDestruction compares what the functions tell of the destruction of a Record with its settlement and with the counts of all days.
func checkDestruction(t *testing.T, list []impl.Hold, r impl.Record, schedule []impl.Rule) {
	t.Helper()
	s := settlementOf(r, schedule)
	counts := countsByDay(list, r)
	may := func(day int) bool {
		return s.settled && s.due <= day && s.deciding.Act == 3 && counts[day] == 0
	}
	for _, day := range append(daysOfHolds(list), daysAround(s.due)...) {
		checkMayDestroy(t, list, r, schedule, day, may(day))
	}
	for day := range impl.MaxDay + 1 {
		if may(day) {
			checkFirstDestruction(t, list, r, schedule, day)
			return
		}
	}
	checkNoDestruction(t, list, r, schedule)
}

// checkRecordsOn compares what the functions tell of Records on a day with each Hold and each Record.
func checkRecordsOn(t *testing.T, list []impl.Hold, records []impl.Record, day int) {
	t.Helper()
	var heldIds, neededIds []int
	for _, r := range records {
		covering := coveringOn(list, r, day)
		if len(covering) > 0 {
			heldIds = append(heldIds, r.Id)
		}
		if len(covering) == 1 {
			neededIds = append(neededIds, covering[0])
		}
	}
	slices.Sort(neededIds)
	checkHeldOn(t, list, records, day, heldIds...)
	checkNeeded(t, list, records, day, slices.Compact(neededIds)...)
}

func TestPromise9Constants(t *testing.T) {
	if impl.MaxHolds != 8 {
		t.Error("MaxHolds is", impl.MaxHolds)
	}
}

func TestPromise9AreHolds(t *testing.T) {
	for _, list := range [][]impl.Hold{
		nil, {}, sixHolds(), fullHolds(), holdsInARow(1), holdsInARow(impl.MaxHolds - 1), holdsInARow(impl.MaxHolds), {always(1, 0, -1)}, {always(99, impl.MaxDay, -1)},
		{always(1, 0, 1), always(2, 0, 1)}, {always(98, 500, 600), always(99, 0, 1)}, {hold(1, 100, 101, 5, 5, 1)}, {hold(1, impl.MaxDay-1, impl.MaxDay, impl.MaxDay, impl.MaxDay, 99)},
		{hold(1, 0, impl.MaxDay, 0, 0, 1, 2, 3, 4, 5)}, {hold(1, 0, -1, 0, 0, 95, 96, 97, 98, 99)}, {{Id: 1, Until: 1}}, {{Id: 1, Until: -1, Series: []int{}}},
	} {
		if !impl.AreHolds(list) {
			t.Errorf("%v are no Holds", list)
		}
	}
	for _, list := range wrongHolds() {
		if impl.AreHolds(list) {
			t.Errorf("%s are Holds", brief(list))
		}
	}
	for count := impl.MaxHolds + 1; count <= 18; count++ {
		if impl.AreHolds(holdsInARow(count)) {
			t.Error(count, "are Holds")
		}
	}
}

func TestPromise9AreHoldsByPairs(t *testing.T) {
	for _, list := range append(someHolds(), wrongHolds()...) {
		if len(list) <= 100 && impl.AreHolds(list) != areHoldsByPairs(list) {
			t.Errorf("AreHolds(%s) = %v", brief(list), impl.AreHolds(list))
		}
	}
	// Each choice of up to three Ids, in each order.
	ids := []int{-1, 0, 1, 2, 98, 99, 100}
	for _, a := range ids {
		for _, b := range ids {
			for _, c := range ids {
				list := []impl.Hold{always(a, 5, 6), always(b, 0, -1), always(c, 3, 4)}
				for count := range 4 {
					if impl.AreHolds(list[:count]) != areHoldsByPairs(list[:count]) {
						t.Errorf("AreHolds(%v) = %v", list[:count], impl.AreHolds(list[:count]))
					}
				}
			}
		}
	}
}

func TestPromise9NumbersOfAHold(t *testing.T) {
	numbers := append([]int{-3, -2, 0, 1, 2, 98, 99, 100, 101, impl.MaxDay - 1, impl.MaxDay, impl.MaxDay + 2}, extremes...)
	check := func(h impl.Hold) {
		t.Helper()
		if list := []impl.Hold{h}; impl.AreHolds(list) != validHold(h) {
			t.Errorf("AreHolds(%v) = %v", list, impl.AreHolds(list))
		}
	}
	for _, a := range numbers {
		check(hold(a, 100, 300, 50, 150, 3))
		for _, b := range numbers {
			check(hold(12, a, b, 50, 150, 3))
			check(hold(12, 100, 300, a, b))
			for _, c := range numbers {
				check(hold(12, 100, 300, 50, 150, a, b, c))
				check(hold(12, a, b, 50, c, 3))
			}
		}
	}
	for from := range 9 {
		for until := -3; until < 12; until++ {
			check(always(12, from, until))
		}
	}
}

func TestPromise9SeriesOfAHold(t *testing.T) {
	for set := range 1 << 8 {
		var series []int
		for i := range 8 {
			if set>>i&1 == 1 {
				series = append(series, 7+13*i)
			}
		}
		h := hold(12, 100, 300, 50, 150, series...)
		if impl.AreHolds([]impl.Hold{h}) != (len(series) <= 5) {
			t.Errorf("AreHolds([%v]) = %v", h, impl.AreHolds([]impl.Hold{h}))
		}
		if len(series) > 5 {
			continue
		}
		for one := 1; one <= 99; one++ {
			if len(series) == 0 || slices.Contains(series, one) {
				checkHoldsOn(t, []impl.Hold{h}, record(1, one, 100), 200, 12)
			} else {
				checkHoldsOn(t, []impl.Hold{h}, record(1, one, 100), 200)
			}
		}
	}
}

func TestPromise9HoldsOn(t *testing.T) {
	list := sixHolds()
	r := held("12s3@100")
	checkHoldsOn(t, list, r, 0, 6)
	checkHoldsOn(t, list, r, 99, 6)
	checkHoldsOn(t, list, r, 100, 2, 6)
	checkHoldsOn(t, list, r, 299, 2, 6)
	checkHoldsOn(t, list, r, 300, 6)
	checkHoldsOn(t, list, r, 499, 6)
	checkHoldsOn(t, list, r, 500, 13)
	checkHoldsOn(t, list, r, 600, 12, 13)
	checkHoldsOn(t, list, r, 700, 12)
	checkHoldsOn(t, list, r, 899, 12)
	checkHoldsOn(t, list, r, 900)
	checkHoldsOn(t, list, r, 1000, 40)
	checkHoldsOn(t, list, r, 1199, 40)
	checkHoldsOn(t, list, r, 1200)
	checkHoldsOn(t, list, r, impl.MaxDay-10)
	checkHoldsOn(t, list, r, impl.MaxDay-9, 70)
	checkHoldsOn(t, list, r, impl.MaxDay, 70)
	for day := range 1300 {
		checkHoldsOn(t, list, held("12s3@20000"), day, map[bool][]int{true: {12}}[day >= 600 && day < 900]...)
		checkHoldsOn(t, nil, r, day)
	}
	// Every one of as many as may be.
	var all []impl.Hold
	var ids []int
	for id := 92; id <= 99; id++ {
		all, ids = append(all, always(id, 99-id, 200+id)), append(ids, id)
	}
	checkHoldsOn(t, all, r, 100, ids...)
	checkHoldsOn(t, all, r, 6, ids[1:]...)
	checkHoldsOn(t, all, r, 292, ids[1:]...)
	checkHoldsOn(t, all, r, 298, 99)
	checkHoldsOn(t, all, r, 299)
}

func TestPromise9FirstAndLastDayInForce(t *testing.T) {
	for _, series := range [][]int{nil, {3}, {1, 2, 3, 4, 5}} {
		for _, from := range []int{0, 1, 2, 500, impl.MaxDay - 2, impl.MaxDay - 1, impl.MaxDay} {
			for _, until := range []int{-1, from + 1, from + 2, from + 100, impl.MaxDay - 1, impl.MaxDay} {
				if until > impl.MaxDay || until >= 0 && until <= from {
					continue
				}
				list := []impl.Hold{hold(12, from, until, 100, 100, series...)}
				for _, day := range append(daysOfHolds(list), from+50) {
					if day > impl.MaxDay {
						continue
					}
					if day < from || until >= 0 && day >= until {
						checkHoldsOn(t, list, held("1s3@100"), day)
						checkHeldOn(t, list, heldAll("1s3@100"), day)
						checkNeeded(t, list, heldAll("1s3@100"), day)
						checkFree(t, list, held("1s3@100"), day, day)
						checkMayDestroy(t, list, held("1s3@100"), plan("3.0+0d"), day, day >= 100)
					} else {
						checkHoldsOn(t, list, held("1s3@100"), day, 12)
						checkHeldOn(t, list, heldAll("1s3@100"), day, 1)
						checkNeeded(t, list, heldAll("1s3@100"), day, 12)
						checkMayDestroy(t, list, held("1s3@100"), plan("3.0+0d"), day, false)
					}
				}
				last := until
				if until < 0 {
					last = impl.MaxDay + 1
				}
				checkHeldDays(t, list, held("1s3@100"), last-from)
				checkMost(t, list, held("1s3@100"), 1, from)
			}
		}
	}
}

func TestPromise9FirstAndLastDayMade(t *testing.T) {
	days := []int{0, 1, 2, 99, 100, 101, 102, impl.MaxDay - 2, impl.MaxDay - 1, impl.MaxDay}
	for i, first := range days {
		for _, last := range days[i:] {
			list := []impl.Hold{hold(12, 500, 600, first, last)}
			for _, made := range days {
				r := record(1, 3, made)
				if made < first || made > last {
					checkHoldsOn(t, list, r, 500)
					checkHeldOn(t, list, []impl.Record{r}, 599)
					checkNeeded(t, list, []impl.Record{r}, 599)
					checkFree(t, list, r, 550, 550)
					checkNoMost(t, list, r)
					checkHeldDays(t, list, r, 0)
				} else {
					checkHoldsOn(t, list, r, 500, 12)
					checkHeldOn(t, list, []impl.Record{r}, 599, 1)
					checkNeeded(t, list, []impl.Record{r}, 599, 12)
					checkFree(t, list, r, 550, 600)
					checkMost(t, list, r, 1, 500)
					checkHeldDays(t, list, r, 100)
				}
			}
		}
	}
	// Only the day Made counts, and neither the days of Events nor their Kinds.
	list := []impl.Hold{hold(12, 0, -1, 200, 300, 1, 2)}
	checkHoldsOn(t, list, held("1s2@199 1@200 2@250 3@300"), 250)
	checkHoldsOn(t, list, held("1s3@200 1@200 2@250 3@300"), 250)
	checkHoldsOn(t, list, held("1s2@200 1@301 2@400 3@500"), 250, 12)
	checkHoldsOn(t, list, held("1s2@300 9@400"), 250, 12)
}

func TestPromise9HeldBeforeItIsMade(t *testing.T) {
	// A Hold is in force for a Record on days on which this is not made yet, as the document names no day of the Record but Made in First..Last.
	r := held("1s3@5000")
	list := []impl.Hold{always(12, 10, 20), always(13, 15, 5000)}
	checkHoldsOn(t, list, r, 10, 12)
	checkHoldsOn(t, list, r, 19, 12, 13)
	checkFree(t, list, r, 10, 5000)
	checkHeldDays(t, list, r, 4990)
	checkMost(t, list, r, 2, 15)
	checkFirstDestruction(t, list, r, plan("3.0+0d"), 5000)
}

func TestPromise9FreeDay(t *testing.T) {
	r := held("12s3@100")
	list := sixHolds()
	for _, p := range [][2]int{{0, 900}, {99, 900}, {499, 900}, {500, 900}, {899, 900}, {900, 900}, {950, 950}, {999, 999}, {1000, 1200}, {1199, 1200}, {1200, 1200}, {impl.MaxDay - 10, impl.MaxDay - 10}} {
		checkFree(t, list, r, p[0], p[1])
	}
	for day := impl.MaxDay - 9; day <= impl.MaxDay; day++ {
		checkNoFree(t, list, r, day)
	}
	for _, day := range []int{0, 1, 100, 5000, impl.MaxDay} {
		checkFree(t, nil, r, day, day)
		checkFree(t, []impl.Hold{hold(1, 0, -1, 0, impl.MaxDay, 4), hold(2, 0, -1, 101, 102), hold(3, 0, -1, 0, 99)}, r, day, day)
	}
}

func TestPromise9FreeBehindHoldsThatFollow(t *testing.T) {
	r := held("12s3@100")
	for gap := -5; gap <= 5; gap++ {
		// The Ids of the Holds are in the order of their days, and in the other one.
		ahead := []impl.Hold{always(1, 10, 20), always(2, 20+gap, 40)}
		behind := []impl.Hold{always(1, 20+gap, 40), always(2, 10, 20)}
		for _, list := range [][]impl.Hold{ahead, behind} {
			for day := range 60 {
				switch {
				case day < 10 || day >= 40 || day >= 20 && day < 20+gap:
					checkFree(t, list, r, day, day)
				case day < 20 && gap > 0:
					checkFree(t, list, r, day, 20)
				default:
					checkFree(t, list, r, day, 40)
				}
			}
			checkHeldDays(t, list, r, 30-max(gap, 0))
		}
	}
	// A chain of as many as may be, in each of several orders.
	for step := range 8 {
		var list []impl.Hold
		for i := range 8 {
			place := (i*(2*step+1) + step) % 8
			list = append(list, always(i+1, 100*place, 100*place+100))
		}
		for day := range 800 {
			checkFree(t, list, r, day, 800)
		}
		checkFree(t, list, r, 800, 800)
		checkHeldDays(t, list, r, 800)
		checkMost(t, list, r, 1, 0)
	}
}

func TestPromise9FreeOnTheLastDay(t *testing.T) {
	r := held("12s3@100")
	for day := range impl.MaxDay {
		if day%500 == 0 || day > impl.MaxDay-3 {
			checkFree(t, []impl.Hold{always(1, 0, impl.MaxDay)}, r, day, impl.MaxDay)
			checkFree(t, []impl.Hold{always(1, impl.MaxDay, -1)}, r, day, day)
			checkNoFree(t, []impl.Hold{always(1, 0, impl.MaxDay), always(2, impl.MaxDay, -1)}, r, day)
			checkNoFree(t, []impl.Hold{always(1, 0, -1)}, r, day)
			checkNoFree(t, []impl.Hold{always(1, day, -1)}, r, day)
			checkFree(t, []impl.Hold{always(1, day+1, -1)}, r, day, day)
			checkNoFree(t, []impl.Hold{always(1, 0, impl.MaxDay), always(2, day, -1)}, r, day)
		}
	}
	checkFree(t, nil, r, impl.MaxDay, impl.MaxDay)
	checkFree(t, []impl.Hold{always(1, 0, impl.MaxDay)}, r, impl.MaxDay, impl.MaxDay)
	checkNoFree(t, []impl.Hold{always(1, impl.MaxDay, -1)}, r, impl.MaxDay)
	checkNoFree(t, []impl.Hold{always(1, 0, -1)}, r, impl.MaxDay)
	checkFree(t, []impl.Hold{hold(1, 0, -1, 0, impl.MaxDay, 4)}, r, impl.MaxDay, impl.MaxDay)
}

func TestPromise9ReleaseHold(t *testing.T) {
	for _, from := range []int{0, 1, 500, impl.MaxDay - 2, impl.MaxDay - 1, impl.MaxDay} {
		list := []impl.Hold{always(5, 0, 3), hold(12, from, -1, 50, 150, 3, 5), always(13, 7, -1), always(70, 0, impl.MaxDay)}
		for _, day := range []int{0, 1, 2, from - 2, from - 1, from, from + 1, from + 2, 700, impl.MaxDay - 1, impl.MaxDay, impl.MaxDay + 1, impl.MaxDay + 2} {
			if day > from && day <= impl.MaxDay {
				checkReleased(t, list, 1, day)
				checkReleased(t, list[1:2], 0, day)
			} else {
				checkNotReleased(t, list, 12, day)
				checkNotReleased(t, list[1:2], 12, day)
			}
		}
		for day := range 20 {
			if day > 7 {
				checkReleased(t, list, 2, day)
			} else {
				checkNotReleased(t, list, 13, day)
			}
		}
	}
	checkReleased(t, []impl.Hold{always(1, 0, -1)}, 0, 1)
	checkReleased(t, []impl.Hold{always(99, 0, -1)}, 0, impl.MaxDay)
}

func TestPromise9ReleasedAlready(t *testing.T) {
	for _, list := range someHolds() {
		for i, h := range list {
			for _, day := range daysOfHolds(list) {
				if h.Until == -1 && day > h.From {
					checkReleased(t, list, i, day)
				} else {
					checkNotReleased(t, list, h.Id, day)
				}
			}
		}
	}
	list := []impl.Hold{always(12, 100, 300), always(13, 100, -1)}
	for _, day := range []int{0, 100, 101, 200, 299, 300, 301, impl.MaxDay} {
		checkNotReleased(t, list, 12, day)
		if once, ok := impl.ReleaseHold(list, 13, 200); ok {
			checkNotReleased(t, once, 13, day)
		}
	}
}

func TestPromise9IdsThatDoNotOccur(t *testing.T) {
	for _, list := range someHolds() {
		for id := -1; id <= 101; id++ {
			if !slices.ContainsFunc(list, func(h impl.Hold) bool { return h.Id == id }) {
				checkNotReleased(t, list, id, 15000)
				checkNotReleased(t, list, id, impl.MaxDay)
			}
		}
		for _, id := range extremes {
			checkNotReleased(t, list, id, impl.MaxDay)
		}
	}
	// The Id is one behind the length.
	list := []impl.Hold{always(12, 100, -1), always(13, 100, -1)}
	checkNotReleased(t, list[:1], 13, 500)
}

func TestPromise9AReleasedHoldEndsOnItsDay(t *testing.T) {
	for _, list := range someHolds() {
		for _, h := range list {
			for _, day := range []int{h.From + 1, h.From + 2, 500, impl.MaxDay} {
				changed, ok := impl.ReleaseHold(list, h.Id, day)
				if !ok {
					continue
				}
				if !impl.AreHolds(changed) {
					t.Errorf("released, %v are no Holds", changed)
				}
				for _, r := range recordsToHold() {
					before, _ := impl.HoldsOn(list, r, day-1)
					checkHoldsOn(t, changed, r, day-1, before...)
					checkHoldsOn(t, changed, r, day, slices.DeleteFunc(coveringOn(list, r, day), func(id int) bool { return id == h.Id })...)
				}
			}
		}
	}
}

func TestPromise9HeldOn(t *testing.T) {
	list := []impl.Hold{hold(2, 100, 300, 50, 150, 3), hold(6, 200, 400, 0, 100), hold(9, 250, -1, 100, 100, 5, 7)}
	records := heldAll("1s3@100", "2s3@150", "3s3@151", "4s4@0", "5s5@100", "6s7@100", "7s5@101", "999s99@20000")
	checkHeldOn(t, list, records, 99)
	checkHeldOn(t, list, records, 100, 1, 2)
	checkHeldOn(t, list, records, 200, 1, 2, 4, 5, 6)
	checkHeldOn(t, list, records, 250, 1, 2, 4, 5, 6)
	checkHeldOn(t, list, records, 300, 1, 4, 5, 6)
	checkHeldOn(t, list, records, 400, 5, 6)
	checkHeldOn(t, list, records, impl.MaxDay, 5, 6)
	for _, day := range []int{0, 100, 250, impl.MaxDay} {
		checkHeldOn(t, list, nil, day)
		checkHeldOn(t, list, []impl.Record{}, day)
		checkHeldOn(t, nil, records, day)
		checkHeldOn(t, nil, nil, day)
		checkHeldOn(t, []impl.Hold{always(1, 0, -1)}, records, day, 1, 2, 3, 4, 5, 6, 7, 999)
		checkHeldOn(t, []impl.Hold{always(1, 0, -1), always(2, 0, -1), hold(3, 0, -1, 0, impl.MaxDay, 3)}, records, day, 1, 2, 3, 4, 5, 6, 7, 999)
		checkHeldOn(t, []impl.Hold{hold(1, 0, -1, 102, 19999), hold(2, 0, -1, 0, impl.MaxDay, 1, 2, 6, 8)}, records, day, 2, 3)
	}
	full := recordsFrom(990, impl.MaxHeld)
	checkHeldOn(t, []impl.Hold{hold(1, 0, -1, 0, impl.MaxDay, 3)}, full, 5, 990, 992, 994, 996, 998)
	checkHeldOn(t, []impl.Hold{hold(1, 0, -1, 103, 107)}, full, 5, 993, 994, 995, 996, 997)
}

func TestPromise9MayDestroy(t *testing.T) {
	r := held("12s3@100 1@140")
	covering := []impl.Hold{always(5, 500, 600)}
	other := []impl.Hold{hold(5, 0, -1, 0, impl.MaxDay, 1, 2, 4), hold(6, 0, -1, 101, impl.MaxDay), hold(7, 0, -1, 0, 99, 3), always(8, 0, 500), always(9, 600, -1)}
	for _, day := range []int{0, 100, 499, 538, 539, 540, 541, 599, 600, 700, impl.MaxDay} {
		checkMayDestroy(t, nil, r, plan("3.0+440d"), day, day >= 540)
		checkMayDestroy(t, covering, r, plan("3.0+440d"), day, day >= 600)
		checkMayDestroy(t, covering, r, plan("3.0+399d"), day, day == 499 || day >= 600)
		checkMayDestroy(t, other, r, plan("3.0+440d"), day, day >= 540 && day < 600)
		for _, text := range []string{"3.0+440k", "3.0+440t", "3.0+440d 3.1+400t", "3.0+440k 3.1+400d", "3.0+0d 3.1+400k", "3.0+0t", "3.0+0k"} {
			checkMayDestroy(t, nil, r, plan(text), day, false)
			checkMayDestroy(t, covering, r, plan(text), day, false)
			checkMayDestroy(t, other, r, plan(text), day, false)
		}
		// Another Rule has a stronger Act, but ends earlier.
		checkMayDestroy(t, nil, r, plan("3.0+439k 3.1+400d"), day, day >= 540)
		checkMayDestroy(t, other, r, plan("2.0+0k 3.0+439t 3.1+400d 4.0+9000k"), day, day >= 540 && day < 600)
		// It is not settled.
		for _, text := range []string{"", "4.0+0d", "3.2+0d", "3.0+0d 3.2+0d", "3.0+0d 3.9+0k", "2.0+0d 30.0+0d"} {
			checkMayDestroy(t, nil, r, plan(text), day, false)
			checkMayDestroy(t, covering, r, plan(text), day, false)
		}
	}
	checkMayDestroy(t, nil, held("1s3@0"), plan("3.0+0d"), 0, true)
	checkMayDestroy(t, []impl.Hold{always(1, 0, 1)}, held("1s3@0"), plan("3.0+0d"), 0, false)
	checkMayDestroy(t, []impl.Hold{always(1, 0, 1)}, held("1s3@0"), plan("3.0+0d"), 1, true)
	checkMayDestroy(t, nil, held("1s3@0"), plan("3.0+20000d"), impl.MaxDay, true)
	checkMayDestroy(t, nil, held("1s3@1"), plan("3.0+20000d"), impl.MaxDay, false)
	checkMayDestroy(t, []impl.Hold{always(1, 0, impl.MaxDay)}, held("1s3@0"), plan("3.0+20000d"), impl.MaxDay, true)
	checkMayDestroy(t, []impl.Hold{always(1, impl.MaxDay, -1)}, held("1s3@0"), plan("3.0+20000d"), impl.MaxDay, false)
}

func TestPromise9FirstDestruction(t *testing.T) {
	r := held("12s3@100 1@140")
	at := plan("3.0+440d 3.1+10k")
	checkFirstDestruction(t, nil, r, at, 540)
	checkFirstDestruction(t, []impl.Hold{hold(1, 0, -1, 0, impl.MaxDay, 4), hold(2, 0, -1, 101, 140), always(3, 541, -1)}, r, at, 540)
	// The due day itself is held, a Hold begins on it, ends on it, or ends the day before it.
	checkFirstDestruction(t, []impl.Hold{always(1, 500, 600)}, r, at, 600)
	checkFirstDestruction(t, []impl.Hold{always(1, 540, 541)}, r, at, 541)
	checkFirstDestruction(t, []impl.Hold{always(1, 540, 700)}, r, at, 700)
	checkFirstDestruction(t, []impl.Hold{always(1, 100, 540)}, r, at, 540)
	checkFirstDestruction(t, []impl.Hold{always(1, 100, 539)}, r, at, 540)
	checkFirstDestruction(t, []impl.Hold{always(1, 100, 541)}, r, at, 541)
	checkFirstDestruction(t, []impl.Hold{always(1, 541, -1)}, r, at, 540)
	checkFirstDestruction(t, []impl.Hold{always(1, 100, 540), always(2, 540, 800)}, r, at, 800)
	checkFirstDestruction(t, []impl.Hold{always(1, 700, 900), always(2, 100, 600), always(3, 600, 700)}, r, at, 900)
	checkFirstDestruction(t, []impl.Hold{always(1, 100, 600), always(2, 601, -1)}, r, at, 600)
	checkFirstDestruction(t, []impl.Hold{always(1, 0, impl.MaxDay)}, r, at, impl.MaxDay)
	checkFirstDestruction(t, []impl.Hold{always(1, 0, 1)}, held("1s3@0"), plan("3.0+0d"), 1)
	checkFirstDestruction(t, nil, held("1s3@0"), plan("3.0+0d"), 0)
	// No day is left.
	checkNoDestruction(t, []impl.Hold{always(1, 540, -1)}, r, at)
	checkNoDestruction(t, []impl.Hold{always(1, 0, -1)}, r, at)
	checkNoDestruction(t, []impl.Hold{always(1, 300, 1000), always(2, 1000, -1)}, r, at)
	checkNoDestruction(t, []impl.Hold{always(1, 300, impl.MaxDay), always(2, impl.MaxDay, -1)}, r, at)
	// Another Act decides, or nothing does.
	for _, text := range []string{"3.0+440k", "3.0+440t", "3.0+440d 3.1+400t", "3.0+440d 3.1+401k", "", "4.0+0d", "3.2+0d", "3.0+0d 3.2+0d"} {
		checkNoDestruction(t, nil, r, plan(text))
		checkNoDestruction(t, []impl.Hold{always(1, 500, 600)}, r, plan(text))
	}
}

func TestPromise9DueAtTheEndOfTheDays(t *testing.T) {
	for _, made := range []int{0, 1, 2, 10000, impl.MaxDay - 1, impl.MaxDay} {
		for _, days := range []int{0, 1, 2, impl.MaxDay - 1 - made, impl.MaxDay - made, impl.MaxDay - made + 1, impl.MaxDay} {
			if days < 0 || days > impl.MaxPeriod {
				continue
			}
			r, schedule := record(1, 3, made), []impl.Rule{rule(3, 0, days, impl.ActDestroy)}
			due := made + days
			if due > impl.MaxDay {
				checkNoDestruction(t, nil, r, schedule)
				checkMayDestroy(t, nil, r, schedule, impl.MaxDay, false)
				continue
			}
			checkFirstDestruction(t, nil, r, schedule, due)
			checkFirstDestruction(t, []impl.Hold{always(1, 0, impl.MaxDay)}, r, schedule, impl.MaxDay)
			checkNoDestruction(t, []impl.Hold{always(1, due, -1)}, r, schedule)
			if due < impl.MaxDay {
				checkFirstDestruction(t, []impl.Hold{always(1, due+1, -1)}, r, schedule, due)
			}
		}
	}
}

func TestPromise9MostHolds(t *testing.T) {
	r := held("12s3@100")
	checkMost(t, sixHolds(), r, 2, 100)
	checkMost(t, sixHolds(), held("12s3@20000"), 1, 600)
	checkMost(t, []impl.Hold{always(1, 300, 400), always(2, 100, 200), always(3, 100, 200)}, r, 2, 100)
	// The number is the greatest one on several days, and the Hold with the smallest Id begins last.
	checkMost(t, []impl.Hold{always(1, 500, 600), always(2, 550, -1), always(3, 100, 200), always(4, 150, 160), always(5, 300, 400), always(6, 300, 301)}, r, 2, 150)
	checkMost(t, []impl.Hold{always(1, 500, 600), always(2, 500, 600), always(3, 100, 200), always(4, 100, 200), always(5, 100, 200)}, r, 3, 100)
	checkMost(t, []impl.Hold{always(1, 100, 200), always(2, 100, 200), always(3, 500, 600), always(4, 500, 600), always(5, 500, 600)}, r, 3, 500)
	checkMost(t, []impl.Hold{always(1, 0, -1), always(2, 0, 1), always(3, impl.MaxDay, -1)}, r, 2, 0)
	checkMost(t, []impl.Hold{always(1, 0, -1), always(2, 0, impl.MaxDay), always(3, impl.MaxDay, -1)}, r, 2, 0)
	checkMost(t, []impl.Hold{always(1, 5, -1), always(2, 7, impl.MaxDay), always(3, impl.MaxDay, -1)}, r, 2, 7)
	checkMost(t, []impl.Hold{always(1, 5, -1), always(2, 7, -1), always(3, impl.MaxDay, -1)}, r, 3, impl.MaxDay)
	// Some end on the day on which others begin.
	checkMost(t, []impl.Hold{always(1, 100, 200), always(2, 200, 300), always(3, 300, 400)}, r, 1, 100)
	checkMost(t, []impl.Hold{always(1, 300, 400), always(2, 200, 300), always(3, 100, 200)}, r, 1, 100)
	checkMost(t, []impl.Hold{always(1, 100, 201), always(2, 200, 300)}, r, 2, 200)
	checkMost(t, []impl.Hold{always(1, 100, 200), always(2, 150, 250), always(3, 200, 300), always(4, 250, 350)}, r, 2, 150)
	checkMost(t, []impl.Hold{always(1, 100, 200), always(2, 100, 200), always(3, 200, 300), always(4, 200, 300), always(5, 200, 201)}, r, 3, 200)
	// A Hold that does not cover the Record begins on a day before, with and without one that does.
	checkMost(t, []impl.Hold{hold(1, 0, -1, 0, impl.MaxDay, 4), always(2, 100, 200), hold(3, 150, 160, 0, 99)}, r, 1, 100)
	checkMost(t, []impl.Hold{hold(1, 120, -1, 0, impl.MaxDay, 4), always(2, 100, 200)}, r, 1, 100)
	for _, list := range [][]impl.Hold{nil, {}, {hold(1, 0, -1, 0, impl.MaxDay, 4)}, {hold(1, 0, -1, 101, impl.MaxDay, 3), hold(2, 5, 9, 0, 99)}} {
		checkNoMost(t, list, r)
		checkHeldDays(t, list, r, 0)
	}
	var all []impl.Hold
	for i := range impl.MaxHolds {
		all = append(all, always(i+1, 10*(8-i), 500+i))
		checkMost(t, all, r, i+1, 80)
	}
}

func TestPromise9NeededHolds(t *testing.T) {
	// Two Holds cover the first Record, and only the second one of them covers another one, too.
	list := []impl.Hold{hold(2, 100, 300, 100, 100), hold(6, 200, 400, 100, 150, 3)}
	records := heldAll("1s3@100", "2s3@120")
	checkNeeded(t, list, records, 99)
	checkNeeded(t, list, records, 100, 2)
	checkNeeded(t, list, records, 199, 2)
	checkNeeded(t, list, records, 200, 6)
	checkNeeded(t, list, records, 299, 6)
	checkNeeded(t, list, records, 300, 6)
	checkNeeded(t, list, records, 400)
	checkNeeded(t, list, records[:1], 199, 2)
	checkNeeded(t, list, records[:1], 200)
	checkNeeded(t, list, records[:1], 300, 6)
	checkNeeded(t, list, records[1:], 100)
	// Each one is named once, in the order of the Holds, and not of the Records.
	three := []impl.Hold{hold(2, 0, -1, 0, impl.MaxDay, 5), hold(6, 0, -1, 0, impl.MaxDay, 4), hold(9, 0, -1, 0, impl.MaxDay, 3), hold(12, 0, -1, 0, impl.MaxDay, 6)}
	many := heldAll("1s3@0", "2s3@1", "3s4@2", "4s4@3", "5s5@4", "6s5@5", "7s7@6")
	checkNeeded(t, three, many, 10, 2, 6, 9)
	checkNeeded(t, append(three[:3:3], always(12, 0, -1)), many, 10, 12)
	checkNeeded(t, append(three[:3:3], always(12, 0, -1)), many[:6], 10)
	checkNeeded(t, append(three[:3:3], hold(12, 0, -1, 1, 1)), many, 10, 2, 6, 9)
	for _, day := range []int{0, 10, impl.MaxDay} {
		checkNeeded(t, three, nil, day)
		checkNeeded(t, three, []impl.Record{}, day)
		checkNeeded(t, nil, many, day)
		checkNeeded(t, nil, nil, day)
	}
	// As many Holds as may be, each of which has a Record of its own, and then none, as one more covers all.
	var all []impl.Hold
	var ids []int
	for i := range impl.MaxHolds {
		all, ids = append(all, hold(10*i+1, 0, -1, 100+i, 100+i)), append(ids, 10*i+1)
	}
	checkNeeded(t, all, recordsFrom(1, impl.MaxHeld), 5, ids...)
	all[7] = always(99, 5, 6)
	checkNeeded(t, all, recordsFrom(1, impl.MaxHeld), 5, 99)
	checkNeeded(t, all, recordsFrom(1, 7), 5)
	checkNeeded(t, all, recordsFrom(1, 7), 4, ids[:7]...)
	checkNeeded(t, all, recordsFrom(1, 7), 6, ids[:7]...)
}

func TestPromise9HeldDays(t *testing.T) {
	r := held("12s3@100")
	checkHeldDays(t, sixHolds(), r, 900+200+10)
	checkHeldDays(t, sixHolds(), held("12s3@20000"), 300)
	checkHeldDays(t, nil, r, 0)
	checkHeldDays(t, []impl.Hold{always(1, 0, -1)}, r, impl.MaxDay+1)
	checkHeldDays(t, []impl.Hold{always(1, 0, impl.MaxDay)}, r, impl.MaxDay)
	checkHeldDays(t, []impl.Hold{always(1, 0, impl.MaxDay), always(2, impl.MaxDay, -1)}, r, impl.MaxDay+1)
	checkHeldDays(t, []impl.Hold{always(1, impl.MaxDay, -1)}, r, 1)
	checkHeldDays(t, []impl.Hold{always(1, impl.MaxDay-1, impl.MaxDay)}, r, 1)
	checkHeldDays(t, []impl.Hold{always(1, 0, 1)}, r, 1)
	checkHeldDays(t, []impl.Hold{always(1, 100, 200), always(2, 150, 250)}, r, 150)
	checkHeldDays(t, []impl.Hold{always(1, 150, 250), always(2, 100, 200)}, r, 150)
	checkHeldDays(t, []impl.Hold{always(1, 100, 200), always(2, 200, 250)}, r, 150)
	checkHeldDays(t, []impl.Hold{always(1, 100, 200), always(2, 201, 250)}, r, 149)
	checkHeldDays(t, []impl.Hold{always(1, 100, 400), always(2, 200, 250)}, r, 300)
	checkHeldDays(t, []impl.Hold{always(1, 200, 250), always(2, 100, 400)}, r, 300)
	checkHeldDays(t, []impl.Hold{always(1, 100, 200), always(2, 100, 300), always(3, 100, 200)}, r, 200)
	checkHeldDays(t, []impl.Hold{always(1, 100, 400), always(2, 200, 250), always(3, 300, 500)}, r, 400)
	checkHeldDays(t, []impl.Hold{always(1, 100, -1), always(2, 200, 250), always(3, 50, 90)}, r, impl.MaxDay+1-100+40)
	checkHeldDays(t, []impl.Hold{hold(1, 0, -1, 0, impl.MaxDay, 4), always(2, 200, 250), hold(3, 240, 300, 101, 200)}, r, 50)
}

func TestPromise9TwoAndThreeHoldsOfAllKinds(t *testing.T) {
	// With few days, all the ways in which Holds may lie beside each other occur.
	r := held("12s3@100")
	var kinds []impl.Hold
	for from := range 5 {
		for until := from + 1; until <= 5; until++ {
			kinds = append(kinds, always(1, from, until))
		}
	}
	for _, a := range kinds {
		for _, b := range kinds {
			for _, c := range kinds {
				list := []impl.Hold{a, always(2, b.From, b.Until), always(3, c.From, c.Until)}
				most, first, heldDays, free := 0, 0, 0, 6
				for day := 6; day >= 0; day-- {
					var ids []int
					for _, h := range list {
						if day >= h.From && day < h.Until {
							ids = append(ids, h.Id)
						}
					}
					if len(ids) >= max(most, 1) {
						most, first = len(ids), day
					}
					if len(ids) > 0 {
						heldDays++
					} else {
						free = day
					}
					checkHoldsOn(t, list, r, day, ids...)
					checkFree(t, list, r, day, free)
				}
				checkMost(t, list, r, most, first)
				checkHeldDays(t, list, r, heldDays)
			}
		}
	}
}

func TestPromise9EachRecordUnderAllHolds(t *testing.T) {
	for _, list := range someHolds() {
		for _, r := range recordsToHold() {
			checkHolds(t, list, r)
		}
	}
}

func TestPromise9AllRecordsOnSomeDays(t *testing.T) {
	for _, list := range someHolds() {
		for _, day := range daysOfHolds(list) {
			checkRecordsOn(t, list, recordsToHold(), day)
			checkRecordsOn(t, list, recordsToHold()[3:5], day)
			checkRecordsOn(t, list, recordsFrom(1, impl.MaxHeld), day)
		}
	}
}

func TestPromise9DestructionsUnderAllHolds(t *testing.T) {
	schedules := append(somePlans(), plan("3.0+440d"), plan("3.0+3650d 5.0+1d"), plan("3.0+0d 3.1+0d"), plan("1.0+0d 3.1+3611d 5.0+3d 40.0+1d 99.0+1d"))
	records := recordsToHold()
	for i, list := range someHolds() {
		for j, schedule := range schedules {
			checkDestruction(t, list, records[(i+j)%len(records)], schedule)
		}
		checkDestruction(t, list, records[0], plan("3.0+440d"))
		checkDestruction(t, list, records[1], plan("3.0+3650d 3.1+400t"))
		checkDestruction(t, list, records[3], plan("3.0+0d"))
		checkDestruction(t, list, records[7], plan("1.0+0d"))
	}
}

// TestPromise9NothingIsDestroyedWhileItIsHeld goes over each day with the functions of the program alone.
func TestPromise9NothingIsDestroyedWhileItIsHeld(t *testing.T) {
	lists := [][]impl.Hold{nil, sixHolds(), fullHolds(), holdsInARow(8)}
	for mix := range 20 {
		lists = append(lists, mixedHolds(3*mix+1))
	}
	schedule := plan("1.0+0d 3.0+90d 5.0+100d 99.0+1d")
	destroyed, waiting := 0, 0
	for _, list := range lists {
		for _, r := range recordsToHold()[:7] {
			first, found := impl.FirstDestruction(list, r, schedule)
			if !found {
				first = impl.MaxDay + 1
			}
			heldDays := 0
			for day := range impl.MaxDay + 1 {
				ids, ok := impl.HoldsOn(list, r, day)
				may, fine := impl.MayDestroy(list, r, schedule, day)
				due, _ := impl.IsDue(r, schedule, day)
				if !ok || !fine || may != (due && len(ids) == 0) || may && day < first || day == first && !may {
					t.Fatalf("on %d, %v cover %v, but: %v, from %d on (%v)", day, ids, r, may, first, list)
				}
				if len(ids) > 0 {
					heldDays++
				}
				if may {
					destroyed++
				} else if due {
					waiting++
				}
			}
			checkHeldDays(t, list, r, heldDays)
		}
	}
	if destroyed < 1000 || waiting < 1000 {
		t.Error("only", destroyed, "destructions and", waiting, "days on which one waits")
	}
}

func TestPromise9WrongHoldsAreRefused(t *testing.T) {
	for _, list := range wrongHolds() {
		checkNoHolds(t, list)
	}
	// Only a Hold that is in force no more is wrong, or one of Records that do not occur.
	checkNoHolds(t, append(sixHolds(), hold(71, 0, 0, 0, 0)))
	checkNoHolds(t, append([]impl.Hold{hold(1, 5, 4, 0, 0, 99)}, sixHolds()...))
	checkNoHolds(t, append(sixHolds(), hold(71, 0, 1, 0, 0, 77, 77)))
	checkNoHolds(t, append(sixHolds(), hold(71, 0, 1, 1, 0, 77)))
}

func TestPromise9InvalidRecordsAreNotHeld(t *testing.T) {
	lists := [][]impl.Hold{nil, {}, {always(1, 0, -1)}, {always(1, impl.MaxDay, -1)}, sixHolds(), fullHolds()}
	for _, r := range append(wrongRecords(), record(0, 3, 100), record(12, 0, 0), record(12, 100, 0)) {
		for _, list := range lists {
			checkNotHeld(t, list, r)
		}
	}
	for _, records := range wrongRecordLists() {
		for _, list := range lists {
			for _, day := range []int{-1, 0, 100, 250, impl.MaxDay, impl.MaxDay + 1} {
				checkNoRecordsOn(t, list, records, day)
			}
		}
	}
}

func TestPromise9WrongSchedulesDestroyNothing(t *testing.T) {
	schedules := append(wrongSchedules(), make([]impl.Rule, 1<<16))
	for _, x := range wrongRules() {
		schedules = append(schedules, []impl.Rule{x}, []impl.Rule{rule(3, 0, 0, impl.ActDestroy), x}, []impl.Rule{x, rule(3, 0, 0, impl.ActDestroy)})
	}
	for _, schedule := range schedules {
		for _, list := range [][]impl.Hold{nil, {always(1, 0, 1)}, {always(1, 0, -1)}, sixHolds(), {always(0, 0, 1)}} {
			for _, r := range heldAll("12s3@0", "12s3@100 1@140", "7s40@5") {
				for _, day := range []int{-1, 0, 1, 99, 300, 950, impl.MaxDay, impl.MaxDay + 1} {
					checkNotMayDestroy(t, list, r, schedule, day)
				}
				checkNoDestruction(t, list, r, schedule)
			}
		}
	}
}

func TestPromise9NumbersThatAreNoDays(t *testing.T) {
	for _, list := range [][]impl.Hold{nil, {}, sixHolds(), fullHolds(), {always(1, 0, -1)}, {always(1, 0, 1), always(2, 5, -1)}, {always(1, impl.MaxDay, -1)}} {
		for _, day := range append([]int{-2, -1, impl.MaxDay + 1, impl.MaxDay + 2, 40000}, extremes...) {
			checkNoHoldDay(t, list, day)
		}
	}
}

// useHolds calls each function of the chapter.
func useHolds(list []impl.Hold, records []impl.Record, schedule []impl.Rule, numbers []int) {
	for _, r := range records[:min(len(records), 12)] {
		for _, n := range numbers {
			impl.HoldsOn(list, r, n)
			impl.FreeDay(list, r, n)
			impl.MayDestroy(list, r, schedule, n)
		}
		impl.FirstDestruction(list, r, schedule)
		impl.MostHolds(list, r)
		impl.HeldDays(list, r)
	}
	for _, n := range numbers {
		impl.HeldOn(list, records, n)
		impl.NeededHolds(list, records, n)
		for _, day := range numbers {
			impl.ReleaseHold(list, n, day)
		}
	}
	impl.AreHolds(list)
}

func TestPromise29HoldsReturnForAllArguments(t *testing.T) {
	numbers := append([]int{0, 1, 12, 99, 100, 540, impl.MaxDay}, extremes...)
	lists := append(wrongHolds(), someHolds()...)
	lists = append(lists, []impl.Hold{{Id: math.MinInt, From: math.MaxInt}, {Id: math.MaxInt, From: math.MinInt, Until: math.MaxInt, First: math.MinInt, Last: math.MaxInt}})
	records := append(recordsToHold()[:3], impl.Record{}, impl.Record{Events: make([]impl.Event, 1<<16)}, record(math.MinInt, math.MaxInt, math.MinInt))
	for _, list := range lists {
		useHolds(list, recordsToHold(), plan("3.0+440d"), numbers)
		useHolds(list, records, plan("3.0+440d"), numbers[:4])
		useHolds(list, nil, make([]impl.Rule, 1<<10), numbers)
	}
	for _, list := range [][]impl.Hold{nil, sixHolds(), fullHolds(), wrongHolds()[3]} {
		for _, records := range append(wrongRecordLists(), wrongRecords(), recordsToSettle()) {
			useHolds(list, records, fullSchedule(), numbers)
		}
		for _, schedule := range append(wrongSchedules(), wrongRules(), make([]impl.Rule, 1<<16)) {
			useHolds(list, recordsToHold(), schedule, numbers)
		}
	}
}

// roomyHolds has a list of as many, with others behind its length, and with room and Series behind the length of their Series.
func roomyHolds(length int) []impl.Hold {
	all := append(holdsInARow(impl.MaxHolds), always(50, 0, -1), impl.Hold{Id: -7})
	for i, h := range all {
		if i%2 == 0 {
			all[i].Until = -1
		}
		all[i].Series = append(slices.Clone(h.Series), 6, 99, -7)[:len(h.Series)]
	}
	return all[:length]
}

// textOfHolds shows a list as far as its memory reaches.
func textOfHolds(list []impl.Hold) string {
	var text strings.Builder
	for _, h := range list[:cap(list)] {
		fmt.Fprintln(&text, h.Id, h.From, h.Until, h.First, h.Last, len(h.Series), h.Series[:cap(h.Series)])
	}
	return text.String()
}

// textOfRecords shows a list as far as its memory reaches.
func textOfRecords(list []impl.Record) string {
	var text strings.Builder
	for _, r := range list[:cap(list)] {
		r.Events = r.Events[:cap(r.Events)]
		fmt.Fprintln(&text, textOfRecord(r))
	}
	return text.String()
}

func TestPromise29HoldsAreNotModified(t *testing.T) {
	numbers := []int{-1, 0, 1, 3, 8, 13, 23, 38, 100, 150, 200, 400, 1000, impl.MaxDay, impl.MaxDay + 1}
	lists := append(wrongHolds(), someHolds()[:40]...)
	for length := range impl.MaxHolds + 2 {
		lists = append(lists, roomyHolds(length), append(make([]impl.Hold, 0, 12), roomyHolds(length)...))
	}
	for _, list := range lists {
		for length := range 7 {
			r, events := roomy(length)
			records := append(heldAll("3s3@20 1@30"), r, held("13s4@30"), held("14s3@100"), impl.Record{Id: -1})[:length%4]
			schedule := append(plan("3.0+10d 3.2+5d 4.0+1d"), rule(5, 0, 0, 3), rule(-7, -7, -7, -7))[:3]
			keptList, keptRecords, keptEvents, keptRules := textOfHolds(list), textOfRecords(records), slices.Clone(events), slices.Clone(schedule[:5])
			useHolds(list, records, schedule, numbers)
			useHolds(list, []impl.Record{r}, schedule, numbers)
			if textOfHolds(list) != keptList {
				t.Fatalf("the Holds changed to %s", brief(textOfHolds(list)))
			}
			if textOfRecords(records) != keptRecords || !slices.Equal(events, keptEvents) || !slices.Equal(schedule[:5], keptRules) {
				t.Fatalf("the others changed to %s, %v, %v", brief(textOfRecords(records)), events, schedule[:5])
			}
		}
	}
}

func TestPromise29HoldsBehindTheLengthAreNotUsed(t *testing.T) {
	records := heldAll("1s3@60", "2s4@60", "3s6@60", "4s7@60", "5s99@60", "6s3@0", "7s3@170")
	for length := range impl.MaxHolds + 1 {
		list := roomyHolds(length)
		if !impl.AreHolds(list) {
			t.Fatalf("the lengths of %s are not kept to", textOfHolds(list))
		}
		for _, r := range records {
			checkHolds(t, list, r)
			checkDestruction(t, list, r, append(plan("3.0+10d 4.0+10d 6.0+10d 7.0+10d 99.0+10d"), rule(99, 1, 10, 1))[:5])
		}
		for _, day := range daysOfHolds(list) {
			checkRecordsOn(t, list, records, day)
			checkRecordsOn(t, list, records[:length/2], day)
		}
		for _, h := range roomyHolds(impl.MaxHolds)[length:] {
			checkNotReleased(t, list, h.Id, impl.MaxDay)
		}
	}
	checkNoHolds(t, roomyHolds(impl.MaxHolds+1))
	r, _ := roomy(2)
	checkHolds(t, sixHolds(), r)
	checkDestruction(t, sixHolds(), r, plan("3.0+10d 3.5+10k"))
	checkDestruction(t, sixHolds(), r, plan("3.0+10d 3.4+10d"))
	checkHeldOn(t, sixHolds(), append(heldAll("12s3@100"), impl.Record{})[:1], 100, 12)
	checkNeeded(t, sixHolds(), append(heldAll("12s3@100"), impl.Record{})[:1], 400, 6)
}

// scribbleHolds overwrites a list of Holds and their Series, as far as their memory reaches.
func scribbleHolds(list []impl.Hold) {
	all := list[:cap(list)]
	for i := range all {
		scribbleNumbers(all[i].Series)
		all[i] = impl.Hold{Id: -7, From: -7}
	}
}

func TestPromise29ReleaseHoldSharesNoMemory(t *testing.T) {
	for length := 1; length <= impl.MaxHolds; length++ {
		for place := 0; place < length; place += 2 {
			list := roomyHolds(length)
			kept, id := textOfHolds(list), list[place].Id
			first, ok := impl.ReleaseHold(list, id, 5000)
			second, fine := impl.ReleaseHold(list, id, 5000)
			want := copyOfHolds(list)
			want[place].Until = 5000
			scribbleHolds(first)
			if !ok || !fine || textOfHolds(list) != kept || !sameHolds(second, want) {
				t.Errorf("a result of %d Holds shares memory: %s, %v", length, textOfHolds(list), second)
			}
			scribbleHolds(list)
			if !sameHolds(second, want) {
				t.Errorf("an argument of %d Holds shares memory: %v", length, second)
			}
		}
	}
}

func TestPromise29HoldsOfOneResultShareNoMemory(t *testing.T) {
	// All Holds have the same Series in the same memory.
	series := []int{3, 5, 7, 9, 11}
	list := []impl.Hold{hold(1, 0, -1, 0, 9, series...), hold(2, 0, 9, 0, 9, series[:2]...), hold(3, 0, -1, 0, 9, series[2:]...), hold(4, 0, -1, 0, 9, series...)}
	for _, id := range []int{1, 3, 4} {
		changed, ok := impl.ReleaseHold(list, id, 100)
		want := copyOfHolds(changed)
		for i := range changed {
			scribbleNumbers(changed[i].Series)
			for j := i + 1; j < len(changed); j++ {
				if !slices.Equal(changed[j].Series, want[j].Series) {
					t.Errorf("with %d released, the Holds %d and %d share memory", id, i, j)
				}
			}
		}
		if !ok || !slices.Equal(series, []int{3, 5, 7, 9, 11}) {
			t.Errorf("with %d released, the Series of an argument changed to %v", id, series)
		}
	}
}

// checkHoldNumbersUnshared looks that neither an argument nor a second result changes with the memory of the first one.
func checkHoldNumbersUnshared(t *testing.T, name string, act func([]impl.Hold, []impl.Record) ([]int, bool)) {
	t.Helper()
	list := roomyHolds(4)
	r, events := roomy(4)
	records := []impl.Record{held("3s3@20"), r, held("13s4@30")}
	keptList, keptEvents := textOfHolds(list), slices.Clone(events)
	first, ok := act(list, records)
	second, fine := act(list, records)
	want := slices.Clone(second)
	scribbleNumbers(first)
	if !ok || !fine || len(want) == 0 || !slices.Equal(second, want) || textOfHolds(list) != keptList || !slices.Equal(events, keptEvents) || records[1].Id != 12 {
		t.Errorf("a result of %s shares memory: %v, %s, %v", name, second, textOfHolds(list), events)
	}
	scribbleHolds(list)
	scribble(events)
	records[0], records[1], records[2] = impl.Record{}, impl.Record{}, impl.Record{}
	if !slices.Equal(second, want) {
		t.Errorf("an argument of %s shares memory: %v", name, second)
	}
}

func TestPromise29NumbersOfHoldsShareNoMemory(t *testing.T) {
	for _, day := range []int{0, 50, 150, 1000, impl.MaxDay} {
		checkHoldNumbersUnshared(t, "HoldsOn", func(list []impl.Hold, records []impl.Record) ([]int, bool) {
			return impl.HoldsOn(list, records[1], day)
		})
		checkHoldNumbersUnshared(t, "HeldOn", func(list []impl.Hold, records []impl.Record) ([]int, bool) { return impl.HeldOn(list, records, day) })
		checkHoldNumbersUnshared(t, "NeededHolds", func(list []impl.Hold, records []impl.Record) ([]int, bool) {
			return impl.NeededHolds(list, records, day)
		})
	}
}
