package tests

import (
	"cmp"
	"math"
	"slices"
	"testing"

	"loop.example/g01035/impl"
)

// plan reads a schedule from a text that is one.
func plan(text string) []impl.Rule {
	list, ok := scheduleOfText(text)
	if !ok {
		panic("the test has a wrong schedule: " + text)
	}
	return list
}

// held reads a Record from a text that is one.
func held(text string) impl.Record {
	r, ok := recordOfText(text)
	if !ok {
		panic("the test has a wrong Record: " + text)
	}
	return r
}

func heldAll(texts ...string) []impl.Record {
	var list []impl.Record
	for _, text := range texts {
		list = append(list, held(text))
	}
	return list
}

// settlement is what the document says of a Record and a schedule, found without the functions of the program.
type settlement struct {
	ends      []int
	waits     []int
	scheduled bool
	settled   bool
	due       int
	deciding  impl.Rule
}

// endByScan returns the end of the period of one Rule, or -1.
func endByScan(r impl.Record, x impl.Rule) int {
	if x.Event == 0 {
		return r.Made + x.Days
	}
	for _, e := range r.Events {
		if e.Kind == x.Event {
			return e.Day + x.Days
		}
	}
	return -1
}

func settlementOf(r impl.Record, schedule []impl.Rule) settlement {
	var s settlement
	var rules []impl.Rule
	for _, x := range schedule {
		if x.Series != r.Series {
			continue
		}
		rules = append(rules, x)
		s.ends = append(s.ends, endByScan(r, x))
		if endByScan(r, x) == -1 {
			s.waits = append(s.waits, x.Event)
		}
	}
	s.scheduled = len(rules) > 0
	s.settled = s.scheduled && len(s.waits) == 0
	if s.settled {
		s.deciding = slices.MinFunc(rules, func(a, b impl.Rule) int {
			return cmp.Or(cmp.Compare(endByScan(r, b), endByScan(r, a)), cmp.Compare(a.Act, b.Act), cmp.Compare(a.Event, b.Event))
		})
		s.due = endByScan(r, s.deciding)
	}
	return s
}

func checkEnds(t *testing.T, r impl.Record, schedule []impl.Rule, want ...int) {
	t.Helper()
	if ends, ok := impl.EndsOf(r, schedule); !ok || !slices.Equal(ends, want) {
		t.Errorf("EndsOf(%v, %v) = %v, %v", r, schedule, ends, ok)
	}
}

func checkWaits(t *testing.T, r impl.Record, schedule []impl.Rule, want ...int) {
	t.Helper()
	if events, ok := impl.WaitsFor(r, schedule); !ok || !slices.Equal(events, want) {
		t.Errorf("WaitsFor(%v, %v) = %v, %v", r, schedule, events, ok)
	}
}

// checkDecides looks for the due day of a Record and for the Rule that decides on it.
func checkDecides(t *testing.T, r impl.Record, schedule []impl.Rule, due int, want impl.Rule) {
	t.Helper()
	if day, ok := impl.DueDay(r, schedule); !ok || day != due {
		t.Errorf("DueDay(%v, %v) = %d, %v", r, schedule, day, ok)
	}
	if deciding, ok := impl.DecidingRule(r, schedule); !ok || deciding != want {
		t.Errorf("DecidingRule(%v, %v) = %v, %v", r, schedule, deciding, ok)
	}
}

func checkNotSettled(t *testing.T, r impl.Record, schedule []impl.Rule) {
	t.Helper()
	if day, ok := impl.DueDay(r, schedule); ok || day != 0 {
		t.Errorf("DueDay(%s, %s) = %d, %v", brief(r), brief(schedule), day, ok)
	}
	if deciding, ok := impl.DecidingRule(r, schedule); ok || deciding != (impl.Rule{}) {
		t.Errorf("DecidingRule(%s, %s) = %v, %v", brief(r), brief(schedule), deciding, ok)
	}
}

func checkIsDue(t *testing.T, r impl.Record, schedule []impl.Rule, day int, want bool) {
	t.Helper()
	if due, ok := impl.IsDue(r, schedule, day); !ok || due != want {
		t.Errorf("IsDue(%v, %v, %d) = %v, %v", r, schedule, day, due, ok)
	}
}

func checkNotIsDue(t *testing.T, r impl.Record, schedule []impl.Rule, day int) {
	t.Helper()
	if due, ok := impl.IsDue(r, schedule, day); ok || due {
		t.Errorf("IsDue(%s, %s, %d) = %v, %v", brief(r), brief(schedule), day, due, ok)
	}
}

func checkDueRecords(t *testing.T, list []impl.Record, schedule []impl.Rule, day, act int, want ...int) {
	t.Helper()
	if ids, ok := impl.DueRecords(list, schedule, day, act); !ok || !slices.Equal(ids, want) {
		t.Errorf("DueRecords(%v, %v, %d, %d) = %v, %v", list, schedule, day, act, ids, ok)
	}
}

func checkNoDueRecords(t *testing.T, list []impl.Record, schedule []impl.Rule, day, act int) {
	t.Helper()
	if ids, ok := impl.DueRecords(list, schedule, day, act); ok || len(ids) != 0 {
		t.Errorf("DueRecords(%s, %s, %d, %d) = %v, %v", brief(list), brief(schedule), day, act, ids, ok)
	}
}

func checkNextDue(t *testing.T, list []impl.Record, schedule []impl.Rule, day, wantId, wantDue int) {
	t.Helper()
	if id, due, ok := impl.NextDue(list, schedule, day); !ok || id != wantId || due != wantDue {
		t.Errorf("NextDue(%v, %v, %d) = %d, %d, %v", list, schedule, day, id, due, ok)
	}
}

func checkNoNextDue(t *testing.T, list []impl.Record, schedule []impl.Rule, day int) {
	t.Helper()
	if id, due, ok := impl.NextDue(list, schedule, day); ok || id != 0 || due != 0 {
		t.Errorf("NextDue(%s, %s, %d) = %d, %d, %v", brief(list), brief(schedule), day, id, due, ok)
	}
}

func checkNotScheduled(t *testing.T, list []impl.Record, schedule []impl.Rule, want ...int) {
	t.Helper()
	if ids, ok := impl.NotScheduled(list, schedule); !ok || !slices.Equal(ids, want) {
		t.Errorf("NotScheduled(%v, %v) = %v, %v", list, schedule, ids, ok)
	}
}

func checkDueAfter(t *testing.T, r impl.Record, schedule []impl.Rule, kind, day, want int) {
	t.Helper()
	if due, ok := impl.DueAfter(r, schedule, impl.Event{Kind: kind, Day: day}); !ok || due != want {
		t.Errorf("DueAfter(%v, %v, %d@%d) = %d, %v", r, schedule, kind, day, due, ok)
	}
}

func checkNoDueAfter(t *testing.T, r impl.Record, schedule []impl.Rule, kind, day int) {
	t.Helper()
	if due, ok := impl.DueAfter(r, schedule, impl.Event{Kind: kind, Day: day}); ok || due != 0 {
		t.Errorf("DueAfter(%s, %s, %d@%d) = %d, %v", brief(r), brief(schedule), kind, day, due, ok)
	}
}

// daysAround are the days at the limits, and those at a due day.
func daysAround(due int) []int {
	days := []int{0, 1, impl.MaxDay - 1, impl.MaxDay}
	for day := due - 1; day <= due+1; day++ {
		if day > 0 && day < impl.MaxDay {
			days = append(days, day)
		}
	}
	return days
}

// checkPeriods compares what each function tells of one Record with the settlement of it.
func checkPeriods(t *testing.T, r impl.Record, schedule []impl.Rule) {
	t.Helper()
	want := settlementOf(r, schedule)
	checkEnds(t, r, schedule, want.ends...)
	checkWaits(t, r, schedule, want.waits...)
	if want.settled {
		checkDecides(t, r, schedule, want.due, want.deciding)
	} else {
		checkNotSettled(t, r, schedule)
	}
	for _, day := range daysAround(want.due) {
		checkIsDue(t, r, schedule, day, want.settled && want.due <= day)
	}
}

// checkListOn compares what each function tells of Records on a day with the settlements of them.
func checkListOn(t *testing.T, list []impl.Record, schedule []impl.Rule, day int) {
	t.Helper()
	var dueByAct [4][]int
	var missing []int
	nextId, nextDue := 0, math.MaxInt
	for _, r := range list {
		s := settlementOf(r, schedule)
		if !s.scheduled {
			missing = append(missing, r.Id)
		}
		if s.settled && s.due <= day {
			dueByAct[s.deciding.Act] = append(dueByAct[s.deciding.Act], r.Id)
		}
		if s.settled && s.due > day && s.due < nextDue {
			nextId, nextDue = r.Id, s.due
		}
	}
	for act := 1; act <= 3; act++ {
		checkDueRecords(t, list, schedule, day, act, dueByAct[act]...)
	}
	if nextId > 0 {
		checkNextDue(t, list, schedule, day, nextId, nextDue)
	} else {
		checkNoNextDue(t, list, schedule, day)
	}
	checkNotScheduled(t, list, schedule, missing...)
}

// checkNoListOn hands a list, a schedule or a day that is none to each function that takes Records.
func checkNoListOn(t *testing.T, list []impl.Record, schedule []impl.Rule, day int) {
	t.Helper()
	for act := -1; act <= 5; act++ {
		checkNoDueRecords(t, list, schedule, day, act)
	}
	checkNoNextDue(t, list, schedule, day)
}

// checkNoPeriods hands an invalid Record, or a list that is no schedule, to each function.
func checkNoPeriods(t *testing.T, r impl.Record, schedule []impl.Rule) {
	t.Helper()
	if ends, ok := impl.EndsOf(r, schedule); ok || len(ends) != 0 {
		t.Errorf("EndsOf(%s, %s) = %v, %v", brief(r), brief(schedule), ends, ok)
	}
	if events, ok := impl.WaitsFor(r, schedule); ok || len(events) != 0 {
		t.Errorf("WaitsFor(%s, %s) = %v, %v", brief(r), brief(schedule), events, ok)
	}
	checkNotSettled(t, r, schedule)
	for _, day := range []int{-1, 0, 100, 3750, impl.MaxDay, impl.MaxDay + 1} {
		checkNotIsDue(t, r, schedule, day)
		for kind := 0; kind <= 10; kind++ {
			checkNoDueAfter(t, r, schedule, kind, day)
		}
	}
	checkNoLists(t, []impl.Record{r}, schedule)
}

// checkNoLists hands a list that is none of Records, or one that is no schedule, to each function that takes Records.
func checkNoLists(t *testing.T, list []impl.Record, schedule []impl.Rule) {
	t.Helper()
	for _, day := range []int{-1, 0, 100, 3750, impl.MaxDay, impl.MaxDay + 1} {
		checkNoListOn(t, list, schedule, day)
	}
	if ids, ok := impl.NotScheduled(list, schedule); ok || len(ids) != 0 {
		t.Errorf("NotScheduled(%s, %s) = %v, %v", brief(list), brief(schedule), ids, ok)
	}
}

// somePlans are schedules of which most have Rules for the Series 3.
func somePlans() [][]impl.Rule {
	lists := [][]impl.Rule{nil, {}, sevenRules(), fullSchedule()}
	for _, text := range []string{
		"3.0+0k", "3.0+3650d", "3.0+20000t", "3.1+0d", "3.1+400t", "3.9+20000k", "5.0+1d", "2.9+20000k 4.0+20000k",
		"3.0+3650d 3.1+400t", "3.0+440d 3.1+400t", "3.0+10d 3.2+10k", "3.1+10d 3.2+10k 3.3+10t", "3.0+20000d 3.1+19960t",
		"2.0+20000k 2.1+20000k 3.0+5d 3.1+5t 4.0+20000k 4.1+20000k", "3.0+1d 3.1+2d 3.2+3d 3.3+4d 3.4+5d 3.5+6d 3.6+7d 3.7+8d",
		"3.2+8k 3.3+7t 3.4+6d 3.5+5k 3.6+4t 3.7+3d 3.8+2k 3.9+1t",
	} {
		lists = append(lists, plan(text))
	}
	return lists
}

// recordsToSettle are Records of the Series 3 and of others, at the limits and ordinary.
func recordsToSettle() []impl.Record {
	list := edgeRecords()
	for _, text := range []string{
		"1s3@0", "12s3@100", "12s3@20000", "12s3@100 1@100", "12s3@100 1@140", "12s3@100 1@20000", "1s3@0 1@0", "1s3@0 1@0 2@0 3@0", "1s3@0 9@0", "12s3@1 9@1",
		"12s3@20000 9@20000", "12s3@100 1@140 2@200 3@150", "12s3@100 1@140 2@139 3@138", "12s3@100 1@110 2@109 3@108 4@107 5@106 6@105",
		"12s3@100 2@110 3@111 4@112 5@113 6@114 7@115", "999s3@20000 1@20000 2@20000 3@20000 4@20000 5@20000 6@20000", "7s5@100 1@140", "7s2@100 3@140", "7s99@0 9@0",
	} {
		list = append(list, held(text))
	}
	return list
}

func TestPromise6EndsOf(t *testing.T) {
	r := held("12s3@100 1@140 4@200")
	checkEnds(t, r, plan("3.0+3650d 3.1+400t"), 3750, 540)
	checkEnds(t, r, plan("3.0+0d"), 100)
	checkEnds(t, r, plan("3.1+0d"), 140)
	checkEnds(t, r, plan("3.4+1k"), 201)
	checkEnds(t, r, plan("3.2+1k"), -1)
	checkEnds(t, r, plan("3.0+5d 3.1+5d 3.2+5d 3.3+5d 3.4+5d 3.5+5d 3.6+5d 3.9+5d"), 105, 145, -1, -1, 205, -1, -1, -1)
	checkEnds(t, r, plan("2.0+1d 3.1+9d 3.4+2d 4.0+1d"), 149, 202)
	checkEnds(t, r, plan("2.0+1d 4.0+1d"))
	checkEnds(t, r, nil)
	checkEnds(t, held("12s3@100"), plan("3.0+5d 3.1+5d"), 105, -1)
	checkEnds(t, held("12s3@100 1@100"), plan("3.0+5d 3.1+5d"), 105, 105)
}

func TestPromise6EndsAtTheLimits(t *testing.T) {
	days := plan("3.0+0d 3.1+1d 3.2+19999d 3.3+20000d")
	checkEnds(t, held("1s3@0 1@0 2@0 3@0"), days, 0, 1, 19999, 20000)
	checkEnds(t, held("1s3@1 1@1 2@1 3@1"), days, 1, 2, 20000, 20001)
	checkEnds(t, held("1s3@2 1@3 2@2 3@2"), days, 2, 4, 20001, 20002)
	checkEnds(t, held("1s3@20000 1@20000 2@20000 3@20000"), days, 20000, 20001, 39999, 40000)
	checkEnds(t, held("1s3@0 1@20000 2@20000 3@0"), days, 0, 20001, 39999, 20000)
	six := plan("3.1+1d 3.2+2d 3.3+3d 3.4+4d 3.5+5d 3.6+6d")
	checkEnds(t, held("1s3@10 1@10 2@20 3@30 4@40 5@50 6@60"), six, 11, 22, 33, 44, 55, 66)
	checkDecides(t, held("1s3@20000"), plan("3.0+20000d"), 40000, rule(3, 0, 20000, 3))
	checkDecides(t, held("1s3@20000"), plan("3.0+0d"), 20000, rule(3, 0, 0, 3))
	checkDecides(t, held("1s3@0 9@1"), plan("3.9+20000k"), 20001, rule(3, 9, 20000, 1))
	checkDecides(t, held("1s3@0"), plan("3.0+0k"), 0, rule(3, 0, 0, 1))
}

func TestPromise6WaitsFor(t *testing.T) {
	r := held("12s3@100 1@140 4@200")
	checkWaits(t, r, plan("3.0+5d 3.1+5d 3.2+5d 3.3+5d 3.4+5d 3.5+5d 3.6+5d 3.9+5d"), 2, 3, 5, 6, 9)
	checkWaits(t, r, plan("3.0+5d"))
	checkWaits(t, r, plan("3.0+5d 3.1+5d 3.4+0d"))
	checkWaits(t, r, plan("3.2+0k 3.3+20000d"), 2, 3)
	checkWaits(t, r, plan("2.2+5d 3.9+5d 4.3+5d"), 9)
	checkWaits(t, r, plan("2.2+5d 4.3+5d"))
	checkWaits(t, r, nil)
	checkWaits(t, held("12s3@100"), plan("3.0+5d 3.1+5d 3.9+5d"), 1, 9)
	checkWaits(t, held("1s3@0 1@0"), plan("3.1+0d 3.2+0d"), 2)
	checkWaits(t, held("12s3@100 4@100 5@100 6@100 7@100 8@100 9@100"), plan("3.1+1d 3.2+1d 3.3+1d 3.4+1d 3.9+1d"), 1, 2, 3)
}

func TestPromise6OpenRules(t *testing.T) {
	four := plan("3.1+10d 3.2+20d 3.3+30d 3.4+40d")
	for set := range 16 {
		r := record(12, 3, 100)
		var waits []int
		for kind := 1; kind <= 4; kind++ {
			if set>>(kind-1)&1 == 1 {
				r.Events = append(r.Events, impl.Event{Kind: kind, Day: 100})
			} else {
				waits = append(waits, kind)
			}
		}
		checkWaits(t, r, four, waits...)
		if set < 15 {
			checkNotSettled(t, r, four)
			checkIsDue(t, r, four, impl.MaxDay, false)
		} else {
			checkDecides(t, r, four, 140, four[3])
			checkIsDue(t, r, four, impl.MaxDay, true)
		}
		checkPeriods(t, r, append(plan("3.0+50d"), four...))
	}
	checkNotSettled(t, held("12s3@100"), plan("3.0+3650d 3.1+400t"))
	checkNotSettled(t, held("12s3@100 1@140"), plan("3.0+10d 3.2+10k"))
}

func TestPromise6NotScheduledIsNotSettled(t *testing.T) {
	r := held("12s3@100 1@140")
	for _, schedule := range [][]impl.Rule{nil, {}, plan("2.0+5d"), plan("4.0+5d"), plan("2.9+5d 4.0+0k"), plan("30.0+5d 33.0+5d")} {
		checkNotSettled(t, r, schedule)
		checkEnds(t, r, schedule)
		checkWaits(t, r, schedule)
		for _, day := range []int{0, 100, impl.MaxDay} {
			checkIsDue(t, r, schedule, day, false)
			checkNoNextDue(t, []impl.Record{r}, schedule, day)
			for act := 1; act <= 3; act++ {
				checkDueRecords(t, []impl.Record{r}, schedule, day, act)
			}
		}
		checkNotScheduled(t, []impl.Record{r}, schedule, 12)
		checkNoDueAfter(t, r, schedule, 2, 150)
	}
}

func TestPromise6DueDayIsTheGreatestEnd(t *testing.T) {
	r := held("12s3@100 1@140 4@200")
	checkDecides(t, r, plan("3.0+3650d 3.1+400t"), 3750, rule(3, 0, 3650, impl.ActDestroy))
	checkDecides(t, r, plan("3.0+365d 3.1+400t"), 540, rule(3, 1, 400, impl.ActTransfer))
	checkDecides(t, r, plan("3.0+365d 3.1+400k 3.4+400d"), 600, rule(3, 4, 400, impl.ActDestroy))
	checkDecides(t, r, plan("3.0+10d 3.1+500k 3.4+10t"), 640, rule(3, 1, 500, impl.ActKeep))
	checkDecides(t, r, plan("3.4+0t"), 200, rule(3, 4, 0, impl.ActTransfer))
	checkDecides(t, r, plan("3.0+99d 3.1+59d 3.4+0d"), 200, rule(3, 4, 0, impl.ActDestroy))
	checkDecides(t, held("12s3@100"), plan("3.0+7d"), 107, rule(3, 0, 7, impl.ActDestroy))
}

func TestPromise6TwoRulesWithTheSameEnd(t *testing.T) {
	r := held("12s3@100 1@140 4@200")
	checkDecides(t, r, plan("3.0+440d 3.1+400t"), 540, rule(3, 1, 400, impl.ActTransfer))
	checkDecides(t, r, plan("3.0+440t 3.1+400d"), 540, rule(3, 0, 440, impl.ActTransfer))
	checkDecides(t, r, plan("3.0+440k 3.1+400d"), 540, rule(3, 0, 440, impl.ActKeep))
	checkDecides(t, r, plan("3.0+440d 3.1+400k"), 540, rule(3, 1, 400, impl.ActKeep))
	for act, letter := range []string{"k", "t", "d"} {
		checkDecides(t, r, plan("3.0+440"+letter+" 3.1+400"+letter), 540, rule(3, 0, 440, act+1))
		checkDecides(t, r, plan("3.0+9k 3.1+400"+letter+" 3.4+340"+letter), 540, rule(3, 1, 400, act+1))
		checkDecides(t, r, plan("3.0+440"+letter+" 3.1+400"+letter+" 3.4+340"+letter), 540, rule(3, 0, 440, act+1))
	}
	checkDecides(t, r, plan("3.0+440d 3.1+400t 3.4+340k"), 540, rule(3, 4, 340, impl.ActKeep))
	checkDecides(t, r, plan("3.0+440k 3.1+400t 3.4+340d"), 540, rule(3, 0, 440, impl.ActKeep))
	checkDecides(t, r, plan("3.0+440d 3.1+400t 3.4+340t"), 540, rule(3, 1, 400, impl.ActTransfer))
	checkDecides(t, r, plan("3.0+440t 3.1+400d 3.4+340t"), 540, rule(3, 0, 440, impl.ActTransfer))
	checkDecides(t, held("1s3@0 1@0"), plan("3.0+0d 3.1+0t"), 0, rule(3, 1, 0, impl.ActTransfer))
	checkDecides(t, held("1s3@20000 9@20000"), plan("3.0+20000d 3.9+20000k"), 40000, rule(3, 9, 20000, impl.ActKeep))
}

func TestPromise6StrongerActWithAnEarlierEnd(t *testing.T) {
	r := held("12s3@100 1@140 4@200")
	checkDecides(t, r, plan("3.0+441d 3.1+400t"), 541, rule(3, 0, 441, impl.ActDestroy))
	checkDecides(t, r, plan("3.0+439k 3.1+400d"), 540, rule(3, 1, 400, impl.ActDestroy))
	checkDecides(t, r, plan("3.0+439d 3.1+400t"), 540, rule(3, 1, 400, impl.ActTransfer))
	checkDecides(t, r, plan("3.0+440t 3.1+401d"), 541, rule(3, 1, 401, impl.ActDestroy))
	checkDecides(t, r, plan("3.0+440k 3.1+400k 3.4+341d"), 541, rule(3, 4, 341, impl.ActDestroy))
	checkDecides(t, r, plan("3.0+441d 3.1+400k 3.4+340k"), 541, rule(3, 0, 441, impl.ActDestroy))
	checkDecides(t, r, plan("3.0+440k 3.1+401d 3.4+341t"), 541, rule(3, 4, 341, impl.ActTransfer))
	checkDecides(t, r, plan("3.0+441t 3.1+401d 3.4+340k"), 541, rule(3, 0, 441, impl.ActTransfer))
}

// TestPromise6AllActsAtTheSameEnd has up to eight Rules of which some end on the due day and the others a day earlier.
func TestPromise6AllActsAtTheSameEnd(t *testing.T) {
	r := held("12s3@100 1@101 2@102 3@103 4@104 5@105 6@106")
	for choice := range 6 * 6 * 6 * 6 {
		var list []impl.Rule
		for event, rest := 0, choice; event < 4; event, rest = event+1, rest/6 {
			list = append(list, rule(3, event, 50-event-rest%2, 1+rest%6/2))
		}
		checkPeriods(t, r, list)
		for i := range list {
			list[i].Event += 3
			list[i].Days -= 3
		}
		checkPeriods(t, r, list)
	}
	for set := range 1 << 7 {
		var list []impl.Rule
		for event := range 7 {
			list = append(list, rule(3, event, 50-event, 3-set>>event&1))
		}
		checkPeriods(t, r, list)
	}
}

func TestPromise6RulesOfOtherSeries(t *testing.T) {
	r := held("12s3@100 1@140")
	for _, text := range []string{
		"2.0+20000k 3.0+440d 3.1+400t", "2.9+1k 3.0+440d 3.1+400t", "3.0+440d 3.1+400t 4.0+20000k", "3.0+440d 3.1+400t 4.9+20000k",
		"1.1+400k 2.1+400k 3.0+440d 3.1+400t 4.1+400k 5.1+400k", "2.0+440k 2.1+400k 2.2+1k 3.0+440d 3.1+400t 30.0+440k 33.1+400k 99.2+1k",
	} {
		checkEnds(t, r, plan(text), 540, 540)
		checkWaits(t, r, plan(text))
		checkDecides(t, r, plan(text), 540, rule(3, 1, 400, impl.ActTransfer))
		checkIsDue(t, r, plan(text), 540, true)
		checkIsDue(t, r, plan(text), 539, false)
		checkDueAfter(t, r, plan(text), 2, 500, 540)
		checkListOn(t, heldAll("12s3@100 1@140"), plan(text), 540)
	}
}

func TestPromise6IsDue(t *testing.T) {
	r := held("12s3@100 1@140")
	l := plan("3.0+3650d 3.1+400t")
	for day := range impl.MaxDay + 1 {
		checkIsDue(t, r, l, day, day >= 3750)
	}
	for _, day := range append([]int{-1, impl.MaxDay + 1, 40000}, extremes...) {
		checkNotIsDue(t, r, l, day)
		checkNotIsDue(t, r, plan("3.0+10d 3.2+10k"), day)
		checkNotIsDue(t, r, nil, day)
	}
	checkIsDue(t, held("1s3@0"), plan("3.0+0d"), 0, true)
	checkIsDue(t, held("1s3@0"), plan("3.0+1d"), 0, false)
	checkIsDue(t, held("1s3@0"), plan("3.0+1d"), 1, true)
	checkIsDue(t, held("1s3@0"), plan("3.0+20000d"), impl.MaxDay, true)
	checkIsDue(t, held("1s3@0"), plan("3.0+20000d"), impl.MaxDay-1, false)
	checkIsDue(t, held("1s3@1"), plan("3.0+20000d"), impl.MaxDay, false)
	checkIsDue(t, held("1s3@20000"), plan("3.0+0d"), impl.MaxDay, true)
	checkIsDue(t, held("1s3@20000"), plan("3.0+1d"), impl.MaxDay, false)
	checkIsDue(t, held("1s3@20000"), plan("3.0+20000d"), impl.MaxDay, false)
	checkIsDue(t, held("12s3@100 1@140"), plan("3.0+10d 3.2+10k"), impl.MaxDay, false)
}

func TestPromise6DueRecords(t *testing.T) {
	l := plan("3.0+100d 3.1+50t 4.0+0k 5.2+10d")
	list := heldAll("1s3@0 1@40", "2s3@0 1@50", "3s3@0 1@60", "4s4@99", "5s4@100", "6s4@101", "7s5@0", "8s5@0 2@90", "9s6@0", "10s3@0")
	checkDueRecords(t, list, l, 100, impl.ActDestroy, 1, 8)
	checkDueRecords(t, list, l, 100, impl.ActTransfer, 2)
	checkDueRecords(t, list, l, 100, impl.ActKeep, 4, 5)
	checkDueRecords(t, list, l, 99, impl.ActDestroy)
	checkDueRecords(t, list, l, 99, impl.ActTransfer)
	checkDueRecords(t, list, l, 99, impl.ActKeep, 4)
	checkDueRecords(t, list, l, 101, impl.ActKeep, 4, 5, 6)
	checkDueRecords(t, list, l, 109, impl.ActTransfer, 2)
	checkDueRecords(t, list, l, 110, impl.ActTransfer, 2, 3)
	checkDueRecords(t, list, l, impl.MaxDay, impl.ActDestroy, 1, 8)
	checkDueRecords(t, list, l, 0, impl.ActDestroy)
	checkDueRecords(t, list[6:7], l, impl.MaxDay, impl.ActDestroy)
	checkDueRecords(t, heldAll("1s4@0", "2s4@1"), l, 0, impl.ActKeep, 1)
	checkDueRecords(t, heldAll("1s4@20000", "2s3@19950 1@20000"), l, impl.MaxDay, impl.ActKeep, 1)
	checkDueRecords(t, heldAll("1s4@20000", "2s3@19900 1@19900"), l, impl.MaxDay, impl.ActDestroy, 2)
	checkDueRecords(t, heldAll("1s4@20000", "2s3@19901 1@19901"), l, impl.MaxDay, impl.ActDestroy)
	for day := range 130 {
		checkListOn(t, list, l, day)
	}
}

func TestPromise6DueRecordsRefuses(t *testing.T) {
	l := plan("3.0+100d 3.1+50t 4.0+0k")
	for _, list := range [][]impl.Record{nil, heldAll("1s3@0 1@40", "4s4@99"), heldAll("4s9@99")} {
		for _, act := range append([]int{0, 4, 5}, extremes...) {
			checkNoDueRecords(t, list, l, 100, act)
			checkNoDueRecords(t, list, nil, 100, act)
		}
		for _, day := range append([]int{-1, impl.MaxDay + 1}, extremes...) {
			checkNoListOn(t, list, l, day)
			checkNoListOn(t, list, nil, day)
		}
	}
}

func TestPromise6NextDue(t *testing.T) {
	l := plan("3.0+100d 4.0+0k 5.2+20000d")
	list := heldAll("1s3@50", "2s4@150", "3s3@10", "4s4@110", "5s3@10", "6s5@0", "7s9@0", "8s4@0", "9s5@20000 2@20000")
	checkNextDue(t, list, l, 0, 3, 110)
	checkNextDue(t, list, l, 109, 3, 110)
	checkNextDue(t, list, l, 110, 1, 150)
	checkNextDue(t, list, l, 149, 1, 150)
	checkNextDue(t, list, l, 150, 9, 40000)
	checkNextDue(t, list, l, impl.MaxDay, 9, 40000)
	checkNoNextDue(t, list[:8], l, 150)
	checkNoNextDue(t, list[:8], l, impl.MaxDay)
	checkNoNextDue(t, list[5:8], l, 0)
	checkNextDue(t, list[3:5], l, 0, 4, 110)
	checkNextDue(t, list[4:], l, 0, 5, 110)
	checkNextDue(t, heldAll("8s4@0", "9s4@1"), l, 0, 9, 1)
	checkNextDue(t, heldAll("1s4@20000"), l, impl.MaxDay-1, 1, impl.MaxDay)
	checkNoNextDue(t, heldAll("1s4@20000"), l, impl.MaxDay)
	checkNextDue(t, heldAll("1s3@19901"), l, impl.MaxDay, 1, impl.MaxDay+1)
	checkNextDue(t, heldAll("1s3@19900", "2s3@19902", "3s3@19901", "4s3@19901"), l, impl.MaxDay, 3, impl.MaxDay+1)
	checkNextDue(t, heldAll("1s3@30", "2s3@20", "3s3@10"), l, 0, 3, 110)
	checkNextDue(t, heldAll("1s3@10", "2s3@20", "3s3@30"), l, 0, 1, 110)
	checkNextDue(t, heldAll("998s3@10", "999s3@10"), l, 0, 998, 110)
	for day := range 200 {
		checkListOn(t, list, l, day)
	}
}

func TestPromise6TheEmptyList(t *testing.T) {
	for _, empty := range [][]impl.Record{nil, {}, recordsFrom(1, 3)[:0]} {
		for _, schedule := range somePlans() {
			checkNotScheduled(t, empty, schedule)
			for _, day := range []int{0, 100, impl.MaxDay} {
				checkNoNextDue(t, empty, schedule, day)
				for act := 1; act <= 3; act++ {
					checkDueRecords(t, empty, schedule, day, act)
				}
			}
		}
		for _, wrong := range wrongSchedules() {
			checkNoLists(t, empty, wrong)
		}
	}
}

func TestPromise6NotScheduled(t *testing.T) {
	list := heldAll("1s3@0", "2s4@0 1@5", "3s3@9", "7s99@0", "8s1@20000", "999s30@0")
	checkNotScheduled(t, list, nil, 1, 2, 3, 7, 8, 999)
	checkNotScheduled(t, list, []impl.Rule{}, 1, 2, 3, 7, 8, 999)
	checkNotScheduled(t, list, plan("3.0+5d"), 2, 7, 8, 999)
	checkNotScheduled(t, list, plan("3.9+5d"), 2, 7, 8, 999)
	checkNotScheduled(t, list, plan("4.0+5d 4.1+5d"), 1, 3, 7, 8, 999)
	checkNotScheduled(t, list, plan("1.9+5d 99.9+5d"), 1, 2, 3, 999)
	checkNotScheduled(t, list, plan("2.0+5d 5.0+5d 9.0+5d"), 1, 2, 3, 7, 8, 999)
	checkNotScheduled(t, list, plan("1.0+1d 3.1+1d 4.9+1d 30.2+1d 99.0+1d"))
	checkNotScheduled(t, recordsFrom(1, impl.MaxHeld), plan("4.0+5d"), 1, 3, 5, 7, 9)
}

func TestPromise6DueAfter(t *testing.T) {
	r := held("12s3@100 1@140 4@200")
	l := plan("3.0+3650d 3.1+400t")
	checkDueAfter(t, r, l, 2, 150, 3750)
	checkDueAfter(t, r, l, 9, impl.MaxDay, 3750)
	checkDueAfter(t, r, l, 5, 100, 3750)
	checkDueAfter(t, held("12s3@100"), l, 1, 140, 3750)
	checkDueAfter(t, held("12s3@100"), l, 1, 4000, 4400)
	checkDueAfter(t, r, plan("3.0+10d 3.2+10k"), 2, 4000, 4010)
	checkDueAfter(t, r, plan("3.0+10d 3.2+10k"), 2, 100, 110)
	checkDueAfter(t, r, plan("3.2+20000k"), 2, impl.MaxDay, 40000)
	checkDueAfter(t, held("1s3@0"), plan("3.0+0d 3.1+0d"), 1, 0, 0)
	checkDueAfter(t, held("1s3@0"), plan("3.1+0d"), 1, impl.MaxDay, impl.MaxDay)
	checkDueAfter(t, held("1s3@20000"), plan("3.9+1d"), 9, impl.MaxDay, impl.MaxDay+1)
	checkDueAfter(t, held("12s3@100 1@100 2@100 3@100 4@100 5@100"), plan("3.6+7d"), 6, 150, 157)
	checkNoDueAfter(t, r, plan("3.2+10d 3.3+10d"), 2, 150)
	checkNoDueAfter(t, r, plan("3.2+10d"), 3, 150)
	checkNoDueAfter(t, r, plan("4.2+10d"), 2, 150)
	checkNoDueAfter(t, r, nil, 2, 150)
}

func TestPromise6DueAfterRefuses(t *testing.T) {
	r := held("12s3@100 1@140 4@200")
	for _, l := range [][]impl.Rule{plan("3.0+3650d"), plan("3.0+3650d 3.1+400t"), plan("3.1+1d 3.4+1d")} {
		for _, e := range wrongEvents() {
			checkNoDueAfter(t, r, l, e.Kind, e.Day)
		}
		for _, kind := range []int{1, 4} {
			for _, day := range []int{100, 140, 200, 300} {
				checkNoDueAfter(t, r, l, kind, day)
			}
		}
		for kind := 1; kind <= 9; kind++ {
			checkNoDueAfter(t, r, l, kind, 99)
			checkNoDueAfter(t, r, l, kind, 0)
			checkNoDueAfter(t, held("12s3@20000"), l, kind, impl.MaxDay-1)
			checkNoDueAfter(t, held("12s3@100 1@140 2@140 3@140 4@140 5@140 6@140"), l, kind, 150)
		}
	}
}

// TestPromise6AllSmallSchedules has each schedule of three Events with small Days, and each Record that has some of them on small days.
func TestPromise6AllSmallSchedules(t *testing.T) {
	var records []impl.Record
	for choice := range 16 {
		r := record(12, 3, 1)
		for kind, day := range []int{0, choice % 4, choice / 4} {
			if day > 0 {
				r.Events = append(r.Events, impl.Event{Kind: kind, Day: day})
			}
		}
		records = append(records, r)
	}
	for choice := range 1000 {
		var list []impl.Rule
		for event, rest := 0, choice; event < 3; event, rest = event+1, rest/10 {
			if rest%10 > 0 {
				list = append(list, rule(3, event, (rest%10-1)/3, 1+(rest%10-1)%3))
			}
		}
		for _, r := range records {
			checkPeriods(t, r, list)
			for day := range 6 {
				checkListOn(t, []impl.Record{r}, list, day)
			}
		}
	}
}

func TestPromise6ListsOfAllKinds(t *testing.T) {
	all := recordsOfAllKinds()
	for i := range all {
		all[i].Series = []int{1, 2, 99, 3}[i%4]
	}
	for i, schedule := range schedulesOfKeys() {
		start := 7 * i % (len(all) - impl.MaxHeld)
		list := all[start : start+i%(impl.MaxHeld+1)]
		for _, r := range list {
			checkPeriods(t, r, schedule)
		}
		for _, day := range []int{0, 100, 150, 200, 250, 300, 399, 400, 401, 420, 449, impl.MaxDay} {
			checkListOn(t, list, schedule, day)
		}
	}
	for _, schedule := range somePlans() {
		for _, r := range recordsToSettle() {
			checkPeriods(t, r, schedule)
			for _, day := range daysAround(settlementOf(r, schedule).due) {
				checkListOn(t, []impl.Record{r}, schedule, day)
			}
		}
	}
}

// TestPromise6NoPeriodEndsAfterTheDueDay holds the promise for the results of the program alone.
func TestPromise6NoPeriodEndsAfterTheDueDay(t *testing.T) {
	settled := 0
	for _, schedule := range append(somePlans(), schedulesOfKeys()...) {
		for _, r := range append(recordsToSettle(), recordsOfAllKinds()[:120]...) {
			due, ok := impl.DueDay(r, schedule)
			ends, fine := impl.EndsOf(r, schedule)
			waits, good := impl.WaitsFor(r, schedule)
			if !fine || !good || ok != (len(ends) > 0 && len(waits) == 0) || slices.Contains(ends, -1) != (len(waits) > 0) {
				t.Fatalf("of %v in %v: ends %v, waits for %v, settled %v", r, schedule, ends, waits, ok)
			}
			if !ok {
				continue
			}
			settled++
			deciding, there := impl.DecidingRule(r, schedule)
			if slices.Max(ends) != due || !there || !slices.Contains(schedule, deciding) || endByScan(r, deciding) != due {
				t.Errorf("of %v in %v: ends %v, due %d, decides %v", r, schedule, ends, due, deciding)
			}
		}
	}
	if settled < 1000 {
		t.Error("only", settled, "Records are settled")
	}
}

// TestPromise6OneMoreEventMakesNoDueDayEarlier holds the guarantee of the chapter.
func TestPromise6OneMoreEventMakesNoDueDayEarlier(t *testing.T) {
	added := 0
	for _, schedule := range append(somePlans(), schedulesOfKeys()[:200]...) {
		for _, r := range append(recordsToSettle(), recordsOfAllKinds()[:40]...) {
			due, settled := impl.DueDay(r, schedule)
			for kind := 1; kind <= 9; kind++ {
				for _, day := range []int{r.Made, (r.Made + impl.MaxDay) / 2, impl.MaxDay} {
					longer, ok := impl.AddEvent(r, impl.Event{Kind: kind, Day: day})
					want := settlementOf(longer, schedule)
					if !ok || !want.settled {
						checkNoDueAfter(t, r, schedule, kind, day)
						continue
					}
					checkDueAfter(t, r, schedule, kind, day, want.due)
					after, _ := impl.DueAfter(r, schedule, impl.Event{Kind: kind, Day: day})
					if settled && after < due {
						t.Errorf("%v with %d@%d is due on %d instead of %d in %v", r, kind, day, after, due, schedule)
					}
					added++
				}
			}
		}
	}
	if added < 1000 {
		t.Error("only", added, "Events are added")
	}
}

func TestPromise6InvalidRecordsAreRefused(t *testing.T) {
	for _, r := range wrongRecords() {
		for _, schedule := range [][]impl.Rule{nil, plan("3.0+3650d"), plan("3.0+3650d 3.1+400t"), plan("5.0+1d"), sevenRules(), fullSchedule()} {
			checkNoPeriods(t, r, schedule)
		}
	}
	for _, r := range []impl.Record{record(12, 0, 100), record(12, 100, 100), record(0, 3, 100)} {
		checkNoPeriods(t, r, []impl.Rule{rule(r.Series, 0, 5, 3)})
	}
}

func TestPromise6WrongSchedulesAreRefused(t *testing.T) {
	records := heldAll("12s3@100", "12s3@100 1@140", "12s3@100 1@140 2@150 5@160", "12s4@0 1@0", "12s99@0 9@0", "12s7@0")
	lists := wrongSchedules()
	for _, x := range wrongRules() {
		lists = append(lists, []impl.Rule{x}, []impl.Rule{rule(1, 0, 10, 2), x}, []impl.Rule{x, rule(99, 9, 10, 2)})
	}
	for _, list := range append(lists, make([]impl.Rule, 1000)) {
		for _, r := range records {
			checkNoPeriods(t, r, list)
		}
		checkNoLists(t, recordsFrom(1, impl.MaxHeld), list)
	}
}

func TestPromise6ListsThatAreNoRecordsAreRefused(t *testing.T) {
	a, b, c := held("1s3@0"), held("2s3@0 1@5"), held("999s5@0")
	lists := [][]impl.Record{{b, a}, {a, a}, {a, b, b}, {a, c, b}, {c, b, a}, recordsFrom(1, impl.MaxHeld+1), recordsFrom(1, 500)}
	for _, wrong := range wrongRecords() {
		lists = append(lists, []impl.Record{wrong}, []impl.Record{wrong, c}, []impl.Record{a, wrong}, []impl.Record{a, wrong, c})
	}
	for _, list := range lists {
		for _, schedule := range [][]impl.Rule{nil, plan("3.0+100d"), plan("3.0+100d 3.1+50t 5.0+0k"), fullSchedule(), wrongSchedules()[0]} {
			checkNoLists(t, list, schedule)
		}
	}
}

// usePeriods calls each function of the chapter, with arguments that succeed and some that fail.
func usePeriods(list []impl.Record, schedule []impl.Rule, numbers []int) {
	for _, r := range list[:min(len(list), 20)] {
		impl.EndsOf(r, schedule)
		impl.WaitsFor(r, schedule)
		impl.DueDay(r, schedule)
		impl.DecidingRule(r, schedule)
		for _, n := range numbers {
			impl.IsDue(r, schedule, n)
			impl.DueAfter(r, schedule, impl.Event{Kind: n, Day: 150})
			impl.DueAfter(r, schedule, impl.Event{Kind: 3, Day: n})
		}
	}
	for _, n := range numbers {
		impl.NextDue(list, schedule, n)
		for _, act := range numbers {
			impl.DueRecords(list, schedule, n, act)
		}
	}
	impl.NotScheduled(list, schedule)
}

func TestPromise29PeriodsReturnForAllArguments(t *testing.T) {
	numbers := append([]int{0, 1, 2, 3, 4, 9, 10, 100, impl.MaxDay}, extremes...)
	schedules := append(wrongSchedules(), nil, sevenRules(), fullSchedule(), plan("3.0+3650d 3.1+400t"), make([]impl.Rule, 1<<16))
	for _, x := range wrongRules() {
		schedules = append(schedules, []impl.Rule{x}, []impl.Rule{rule(1, 0, 10, 2), x, x, rule(99, 9, 10, 2)})
	}
	lists := [][]impl.Record{nil, recordsFrom(1, impl.MaxHeld), edgeRecords(), make([]impl.Record, 1<<16)}
	for _, r := range append(recordsToSettle(), wrongRecords()...) {
		lists = append(lists, []impl.Record{r})
	}
	for _, schedule := range schedules {
		for _, list := range lists {
			usePeriods(list, schedule, numbers[:4])
		}
		usePeriods(recordsToSettle(), schedule, numbers)
		usePeriods(wrongRecords(), schedule, []int{math.MinInt, math.MaxInt})
	}
}

func TestPromise29PeriodsModifyNoArgument(t *testing.T) {
	numbers := []int{-1, 0, 1, 2, 3, 4, 9, 10, 100, 150, 540, impl.MaxDay, impl.MaxDay + 1}
	schedules := append(somePlans(), wrongSchedules()...)
	for length := range len(sevenRules()) + 1 {
		schedules = append(schedules, sevenRules()[:length])
	}
	for _, schedule := range schedules {
		for length := range 7 {
			r, events := roomy(length)
			records := []impl.Record{held("3s3@20 1@30"), r, held("13s4@100"), held("14s3@100"), {Id: -1}}
			rules := schedule[:cap(schedule)]
			keptRules, keptEvents := slices.Clone(rules), slices.Clone(events)
			var keptTexts []string
			for _, x := range records {
				keptTexts = append(keptTexts, textOfRecord(x))
			}
			usePeriods(records, schedule, numbers)
			usePeriods(records[:min(length, 4)], schedule, numbers)
			if !slices.Equal(rules, keptRules) || !slices.Equal(events, keptEvents) {
				t.Fatalf("with %d Events and %d Rules: changed to %v, %v", length, len(schedule), rules, events)
			}
			for i, x := range records {
				if textOfRecord(x) != keptTexts[i] {
					t.Fatalf("with %d Events and %d Rules: Record %d changed to %v", length, len(schedule), i, x)
				}
			}
		}
	}
}

func TestPromise29PeriodsUseNothingBehindTheLength(t *testing.T) {
	for length := range 7 {
		r, events := roomy(length)
		for i := length; i < len(events); i++ {
			events[i] = impl.Event{Kind: -1, Day: -1}
		}
		all := plan("3.0+5d 3.2+9t 3.4+1k 3.5+2d 3.7+3d 3.8+4d 3.9+5d 4.0+0d")
		schedule := all[:length+1]
		for i := length + 1; i < len(all); i++ {
			all[i] = rule(-1, -1, -1, -1)
		}
		checkPeriods(t, r, schedule)
		checkPeriods(t, r, all[:length])
		records := []impl.Record{held("3s3@20 1@30"), r, held("14s4@100"), {Id: -1}, {}}
		for count := range 4 {
			checkListOn(t, records[:count], schedule, 150)
			checkListOn(t, records[:count], schedule, 20)
		}
		checkNoLists(t, records, schedule)
		if length < 6 {
			checkDueAfter(t, r, schedule, 1, 150, settlementOf(r, schedule).due)
		}
	}
}

// checkNumbersUnshared looks that neither an argument nor a second result changes with the memory of the first one.
func checkNumbersUnshared(t *testing.T, name string, act func([]impl.Record, []impl.Rule) ([]int, bool)) {
	t.Helper()
	r, events := roomy(4)
	kept := slices.Clone(events)
	list := []impl.Record{held("3s5@20"), r, held("14s5@100")}
	schedule := append(make([]impl.Rule, 0, 20), plan("3.0+5d 3.2+9t 3.4+1k 3.8+2d 3.9+3d")...)
	keptRules := slices.Clone(schedule)
	first, ok := act(list, schedule)
	second, fine := act(list, schedule)
	want := slices.Clone(second)
	scribbleNumbers(first)
	if !ok || !fine || len(want) == 0 || !slices.Equal(second, want) || !slices.Equal(events, kept) || !slices.Equal(schedule, keptRules) || list[1].Id != 12 {
		t.Errorf("a result of %s shares memory: %v, %v, %v", name, second, events, schedule)
	}
	scribble(events)
	scribbleRules(schedule)
	list[0], list[1], list[2] = impl.Record{}, impl.Record{}, impl.Record{}
	if !slices.Equal(second, want) {
		t.Errorf("an argument of %s shares memory: %v", name, second)
	}
}

func TestPromise29PeriodsShareNoMemory(t *testing.T) {
	checkNumbersUnshared(t, "EndsOf", func(list []impl.Record, schedule []impl.Rule) ([]int, bool) { return impl.EndsOf(list[1], schedule) })
	checkNumbersUnshared(t, "WaitsFor", func(list []impl.Record, schedule []impl.Rule) ([]int, bool) { return impl.WaitsFor(list[1], schedule) })
	checkNumbersUnshared(t, "NotScheduled", impl.NotScheduled)
	checkNumbersUnshared(t, "DueRecords", func(list []impl.Record, schedule []impl.Rule) ([]int, bool) {
		return impl.DueRecords(list, schedule[:3], 150, impl.ActTransfer)
	})
}
