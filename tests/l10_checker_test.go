package tests

import (
	"fmt"
	"math"
	"slices"
	"strings"
	"testing"

	"loop.example/g01035/impl"
)

func trigger(event, after, days int) impl.Trigger {
	return impl.Trigger{Event: event, After: after, Days: days}
}

// triggers reads a list from a text, in which `2<1+10` tells that 2 follows 1 by 10 days. The list need not be valid.
func triggers(text string) []impl.Trigger {
	var list []impl.Trigger
	for _, part := range strings.Fields(text) {
		var x impl.Trigger
		if _, err := fmt.Sscanf(part, "%d<%d+%d", &x.Event, &x.After, &x.Days); err != nil {
			panic("the test has a wrong Trigger: " + part)
		}
		list = append(list, x)
	}
	return list
}

// sixTriggers has events that follow the making, one other and several others, and some that are not expected.
func sixTriggers() []impl.Trigger {
	return triggers("1<0+30 2<1+10 4<0+5 4<2+5 7<4+0 7<6+9")
}

// fullTriggers has as many as may be, some of which meet limits, and no cycle.
func fullTriggers() []impl.Trigger {
	return triggers("1<0+0 2<0+10000 3<1+10000 3<2+0 4<3+10000 5<0+1 5<4+9999 8<7+0 9<0+0 9<8+10000")
}

// fullCycles has as many as may be, with several cycles.
func fullCycles() []impl.Trigger {
	return triggers("1<2+0 1<9+10000 2<3+5 3<1+0 3<2+0 4<0+7 5<1+1 8<9+0 9<1+10000 9<8+0")
}

// chain has one kind follow the next one of a list, by as many days.
func chain(days int, kinds ...int) []impl.Trigger {
	var list []impl.Trigger
	for i, kind := range kinds[1:] {
		list = append(list, trigger(kinds[i], kind, days))
	}
	return sorted(list)
}

// ring has one kind follow the next one of a list, and the last one the first one.
func ring(days int, kinds ...int) []impl.Trigger {
	return sorted(append(chain(days, kinds...), trigger(kinds[len(kinds)-1], kinds[0], days)))
}

// sorted has the Triggers of several lists in order.
func sorted(lists ...[]impl.Trigger) []impl.Trigger {
	all := slices.Concat(lists...)
	slices.SortFunc(all, func(a, b impl.Trigger) int { return 10*(a.Event-b.Event) + a.After - b.After })
	return all
}

// triggersInARow makes as many in ascending order.
func triggersInARow(count int) []impl.Trigger {
	var list []impl.Trigger
	for i := range count {
		list = append(list, trigger(2+i/2, i%2, 10*i))
	}
	return list
}

// chosenTriggers has those of a list that are in a set.
func chosenTriggers(list []impl.Trigger, set int) []impl.Trigger {
	var chosen []impl.Trigger
	for i, x := range list {
		if set>>i&1 == 1 {
			chosen = append(chosen, x)
		}
	}
	return chosen
}

// allPairs has a Trigger for each of some kinds and each other one of them, with Days in no order.
func allPairs(kinds ...int) []impl.Trigger {
	var list []impl.Trigger
	for i, event := range kinds {
		for j, after := range kinds {
			if event != after && event != 0 {
				list = append(list, trigger(event, after, (7*i+3*j+i*j)%11*(1+i%3)))
			}
		}
	}
	return sorted(list)
}

// mixedTriggers makes some out of a number, of which every second one has no cycle.
func mixedTriggers(mix int) []impl.Trigger {
	next := func(n int) int {
		mix = (mix*8121 + 28411) % 134456
		return mix / 7 % n
	}
	upward := mix%2 == 0
	// The kinds in an order in which no event follows a later one, if there is to be no cycle.
	order := []int{0, 1, 2, 3, 4, 5, 6, 7, 8, 9}
	for i := range 9 {
		j := 1 + next(9)
		order[i+1], order[j] = order[j], order[i+1]
	}
	kinds := 3 + next(8)
	byKey := map[int]impl.Trigger{}
	for range 4 + next(9) {
		i, j := 1+next(kinds-1), next(kinds)
		if i == j || upward && i < j || len(byKey) == impl.MaxTriggers {
			continue
		}
		x := trigger(order[i], order[j], []int{0, 1, 2, 5, 10, 100, 9999, 10000}[next(8)])
		byKey[10*x.Event+x.After] = x
	}
	var list []impl.Trigger
	for key := range 100 {
		if x, found := byKey[key]; found {
			list = append(list, x)
		}
	}
	return list
}

func someTriggers() [][]impl.Trigger {
	lists := [][]impl.Trigger{nil, {}, sixTriggers(), fullTriggers(), fullCycles(), {trigger(1, 0, 0)}, {trigger(9, 0, 10000)}, {trigger(1, 9, 5)}, {trigger(9, 8, 5)}}
	for count := 1; count <= impl.MaxTriggers; count++ {
		lists = append(lists, triggersInARow(count), fullTriggers()[:count], fullCycles()[:count], fullCycles()[impl.MaxTriggers-count:])
	}
	for mix := range 300 {
		lists = append(lists, mixedTriggers(mix))
	}
	return lists
}

// wrongTriggersAlone are invalid, each for one reason, as far as one number can be wrong for one reason alone.
func wrongTriggersAlone() []impl.Trigger {
	wrong := []impl.Trigger{{}, trigger(0, 1, 10), trigger(0, 9, 0), trigger(10, 1, 10), trigger(-1, 1, 10), trigger(5, -1, 10), trigger(5, 10, 10), trigger(5, 1, -1), trigger(5, 1, 10001)}
	for kind := range 10 {
		wrong = append(wrong, trigger(kind, kind, 10), trigger(kind, kind, 0))
	}
	for _, n := range extremes {
		wrong = append(wrong, trigger(n, 1, 10), trigger(5, n, 10), trigger(5, 1, n), trigger(n, n, n))
	}
	return wrong
}

// wrongTriggers are lists that are none of Triggers, most of them for one reason.
func wrongTriggers() [][]impl.Trigger {
	lists := [][]impl.Trigger{
		triggers("2<1+10 2<1+10"), triggers("2<1+10 2<1+11"), triggers("2<1+10 2<0+10"), triggers("2<0+10 1<0+10"), triggers("2<0+10 1<5+10"), triggers("3<0+10 2<9+10"),
		triggers("1<0+5 3<0+5 2<0+5"), triggers("1<0+5 3<2+5 3<1+5"), triggers("1<0+5 3<2+5 3<2+5"), triggers("1<0+5 1<0+5 3<2+5"), triggers("3<0+5 2<1+5 1<0+5"), triggers("1<2+5 2<1+5 1<2+5"),
		triggers("1<2+5 2<1+5 2<1+5"), triggers("2<1+5 1<2+5"), append(fullTriggers()[:9], trigger(9, 0, 5)), append(fullTriggers()[:9], trigger(9, 0, 0)),
		triggersInARow(impl.MaxTriggers + 1), triggersInARow(impl.MaxTriggers + 2), append([]impl.Trigger{trigger(1, 0, 0)}, triggersInARow(impl.MaxTriggers)...),
		chosenTriggers(allPairs(1, 2, 3, 4), 1<<11-1), allPairs(0, 1, 2, 3, 4), make([]impl.Trigger, 1<<16),
	}
	for _, x := range wrongTriggersAlone() {
		lists = append(lists, []impl.Trigger{x}, []impl.Trigger{trigger(1, 0, 5), x}, []impl.Trigger{x, trigger(9, 8, 5)}, []impl.Trigger{trigger(1, 0, 5), x, trigger(9, 8, 5)})
	}
	return lists
}

// wrongSeriesLists are lists that name no Series to look for.
func wrongSeriesLists() [][]int {
	lists := [][]int{{0}, {100}, {-1}, {0, 1}, {99, 100}, {1, 2, 100}, {3, 3}, {1, 3, 3}, {3, 3, 5}, {5, 3}, {1, 5, 3}, {5, 1, 3}, {3, 5, 3}, {99, 1}, make([]int, 1<<16)}
	for _, n := range extremes {
		lists = append(lists, []int{n}, []int{3, n}, []int{n, 3}, []int{1, n, 99})
	}
	for _, count := range []int{21, 22, 99} {
		lists = append(lists, seriesFrom(1, count))
	}
	// The 21st one is wrong on its own, too, or is the only one that could be.
	return append(lists, append(seriesFrom(1, 20), 20), append(seriesFrom(1, 19), 19), append(seriesFrom(80, 19), 100), append(seriesFrom(1, 20), 99))
}

// seriesFrom has as many numbers in a row.
func seriesFrom(first, count int) []int {
	var list []int
	for i := range count {
		list = append(list, first+i)
	}
	return list
}

// areTriggersByPairs compares each Trigger with each one behind it.
func areTriggersByPairs(list []impl.Trigger) bool {
	for i, x := range list {
		if x.Event < 1 || x.Event > 9 || x.After < 0 || x.After > 9 || x.Event == x.After || x.Days < 0 || x.Days > 10000 {
			return false
		}
		if slices.ContainsFunc(list[i+1:], func(later impl.Trigger) bool { return 10*later.Event+later.After <= 10*x.Event+x.After }) {
			return false
		}
	}
	return len(list) <= 10
}

// cycleOf returns the cycle of which each of some Triggers is a step, or none.
func cycleOf(list []impl.Trigger) []int {
	var after [10]int
	first := 10
	for _, x := range list {
		if after[x.Event] != 0 || x.After == 0 {
			return nil
		}
		after[x.Event] = x.After
		first = min(first, x.Event)
	}
	var cycle []int
	for kind := first; len(cycle) < len(list); kind = after[kind] {
		if after[kind] == 0 || slices.Contains(cycle, kind) {
			return nil
		}
		cycle = append(cycle, kind)
	}
	if after[cycle[len(cycle)-1]] != first {
		return nil
	}
	return cycle
}

// smallestCycle tries each choice of Triggers.
func smallestCycle(list []impl.Trigger) []int {
	var smallest []int
	for set := 1; set < 1<<len(list); set++ {
		cycle := cycleOf(chosenTriggers(list, set))
		if cycle != nil && (smallest == nil || slices.Compare(cycle, smallest) < 0) {
			smallest = cycle
		}
	}
	return smallest
}

// expectedByRounds returns the expected day of each kind, or -1, for Triggers without a cycle: after each round, one more step is known.
func expectedByRounds(list []impl.Trigger) [10]int {
	days := [10]int{0, -1, -1, -1, -1, -1, -1, -1, -1, -1}
	for range 10 {
		known := [10]int{0, -1, -1, -1, -1, -1, -1, -1, -1, -1}
		var missing [10]bool
		for _, x := range list {
			known[x.Event] = max(known[x.Event], days[x.After]+x.Days)
			missing[x.Event] = missing[x.Event] || days[x.After] < 0
		}
		for kind := range known {
			if missing[kind] {
				known[kind] = -1
			}
		}
		days = known
	}
	return days
}

// withoutTriggersOf has those of a list that have nothing to do with an event.
func withoutTriggersOf(list []impl.Trigger, event int) []impl.Trigger {
	return slices.DeleteFunc(slices.Clone(list), func(x impl.Trigger) bool { return x.Event == event || x.After == event })
}

func checkGaps(t *testing.T, schedule []impl.Rule, series []int, want ...int) {
	t.Helper()
	if gaps, ok := impl.SeriesGaps(schedule, series); !ok || !slices.Equal(gaps, want) {
		t.Errorf("SeriesGaps(%v, %v) = %v, %v", schedule, series, gaps, ok)
	}
}

func checkNoGaps(t *testing.T, schedule []impl.Rule, series []int) {
	t.Helper()
	if gaps, ok := impl.SeriesGaps(schedule, series); ok || len(gaps) != 0 {
		t.Errorf("SeriesGaps(%s, %s) = %v, %v", brief(schedule), brief(series), gaps, ok)
	}
}

func checkContradictions(t *testing.T, schedule []impl.Rule, want ...int) {
	t.Helper()
	if series, ok := impl.Contradictions(schedule); !ok || !slices.Equal(series, want) {
		t.Errorf("Contradictions(%v) = %v, %v", schedule, series, ok)
	}
}

func checkNever(t *testing.T, schedule []impl.Rule, want ...[2]int) {
	t.Helper()
	if never, ok := impl.NeverDecides(schedule); !ok || !slices.Equal(never, want) {
		t.Errorf("NeverDecides(%v) = %v, %v", schedule, never, ok)
	}
}

func checkCycle(t *testing.T, list []impl.Trigger, want ...int) {
	t.Helper()
	if has, ok := impl.HasCycle(list); !ok || !has {
		t.Errorf("HasCycle(%v) = %v, %v", list, has, ok)
	}
	if cycle, ok := impl.FirstCycle(list); !ok || !slices.Equal(cycle, want) {
		t.Errorf("FirstCycle(%v) = %v, %v", list, cycle, ok)
	}
	// Nothing is expected then, whether it is in the cycle or not.
	for event := range 10 {
		checkNotExpected(t, list, event)
	}
	checkNoUnexpectedEvents(t, list, nil)
	checkNoUnexpectedEvents(t, list, plan("3.0+5d"))
	checkNoExpectedDue(t, list, plan("3.0+5d"), 3)
}

func checkNoCycle(t *testing.T, list []impl.Trigger) {
	t.Helper()
	if has, ok := impl.HasCycle(list); !ok || has {
		t.Errorf("HasCycle(%v) = %v, %v", list, has, ok)
	}
	if cycle, ok := impl.FirstCycle(list); ok || len(cycle) != 0 {
		t.Errorf("FirstCycle(%v) = %v, %v", list, cycle, ok)
	}
}

func checkExpected(t *testing.T, list []impl.Trigger, event, want int) {
	t.Helper()
	if day, ok := impl.ExpectedDay(list, event); !ok || day != want {
		t.Errorf("ExpectedDay(%v, %d) = %d, %v", list, event, day, ok)
	}
}

func checkNotExpected(t *testing.T, list []impl.Trigger, events ...int) {
	t.Helper()
	for _, event := range events {
		if day, ok := impl.ExpectedDay(list, event); ok || day != 0 {
			t.Errorf("ExpectedDay(%s, %d) = %d, %v", brief(list), event, day, ok)
		}
	}
}

func checkExpectedDue(t *testing.T, list []impl.Trigger, schedule []impl.Rule, series, want int) {
	t.Helper()
	if due, ok := impl.ExpectedDue(list, schedule, series); !ok || due != want {
		t.Errorf("ExpectedDue(%v, %v, %d) = %d, %v", list, schedule, series, due, ok)
	}
}

func checkNoExpectedDue(t *testing.T, list []impl.Trigger, schedule []impl.Rule, series int) {
	t.Helper()
	if due, ok := impl.ExpectedDue(list, schedule, series); ok || due != 0 {
		t.Errorf("ExpectedDue(%s, %s, %d) = %d, %v", brief(list), brief(schedule), series, due, ok)
	}
}

func checkUnexpectedEvents(t *testing.T, list []impl.Trigger, schedule []impl.Rule, want ...int) {
	t.Helper()
	if events, ok := impl.UnexpectedEvents(list, schedule); !ok || !slices.Equal(events, want) {
		t.Errorf("UnexpectedEvents(%v, %v) = %v, %v", list, schedule, events, ok)
	}
}

func checkNoUnexpectedEvents(t *testing.T, list []impl.Trigger, schedule []impl.Rule) {
	t.Helper()
	if events, ok := impl.UnexpectedEvents(list, schedule); ok || len(events) != 0 {
		t.Errorf("UnexpectedEvents(%s, %s) = %v, %v", brief(list), brief(schedule), events, ok)
	}
}

func checkTriggersDropped(t *testing.T, list []impl.Trigger, event int, want ...impl.Trigger) {
	t.Helper()
	if left, ok := impl.DropTriggers(list, event); !ok || !slices.Equal(left, want) {
		t.Errorf("DropTriggers(%v, %d) = %v, %v", list, event, left, ok)
	}
}

func checkNoTriggersDropped(t *testing.T, list []impl.Trigger, event int) {
	t.Helper()
	if left, ok := impl.DropTriggers(list, event); ok || len(left) != 0 {
		t.Errorf("DropTriggers(%s, %d) = %s, %v", brief(list), event, brief(left), ok)
	}
}

// checkNoTriggers hands a list that is none of Triggers to each function that takes one.
func checkNoTriggers(t *testing.T, list []impl.Trigger) {
	t.Helper()
	if impl.AreTriggers(list) {
		t.Errorf("%s are Triggers", brief(list))
	}
	if has, ok := impl.HasCycle(list); ok || has {
		t.Errorf("HasCycle(%s) = %v, %v", brief(list), has, ok)
	}
	if cycle, ok := impl.FirstCycle(list); ok || len(cycle) != 0 {
		t.Errorf("FirstCycle(%s) = %v, %v", brief(list), cycle, ok)
	}
	for event := -1; event <= 10; event++ {
		checkNotExpected(t, list, event)
		checkNoTriggersDropped(t, list, event)
	}
	for _, schedule := range [][]impl.Rule{nil, {}, plan("3.0+5d"), plan("3.1+5d"), fullSchedule()} {
		checkNoUnexpectedEvents(t, list, schedule)
		for _, series := range []int{0, 1, 3, 5, 50, 99, 100} {
			checkNoExpectedDue(t, list, schedule, series)
		}
	}
}

// checkNoneToCheck hands a list that is no schedule to each function that takes one.
func checkNoneToCheck(t *testing.T, schedule []impl.Rule) {
	t.Helper()
	for _, series := range [][]int{nil, {}, {1}, {3}, {1, 3, 99}, seriesFrom(1, 20), {0}} {
		checkNoGaps(t, schedule, series)
	}
	if series, ok := impl.Contradictions(schedule); ok || len(series) != 0 {
		t.Errorf("Contradictions(%s) = %v, %v", brief(schedule), series, ok)
	}
	if never, ok := impl.NeverDecides(schedule); ok || len(never) != 0 {
		t.Errorf("NeverDecides(%s) = %v, %v", brief(schedule), never, ok)
	}
	for _, list := range [][]impl.Trigger{nil, {}, sixTriggers(), fullTriggers(), fullCycles(), {{}}} {
		checkNoUnexpectedEvents(t, list, schedule)
		for series := range 101 {
			checkNoExpectedDue(t, list, schedule, series)
		}
	}
}

// checkTriggers compares what each function tells of Triggers alone with what all choices and all rounds tell of them.
func checkTriggers(t *testing.T, list []impl.Trigger) {
	t.Helper()
	if !impl.AreTriggers(list) {
		t.Errorf("%v are no Triggers", list)
	}
	for event := range 10 {
		checkTriggersDropped(t, list, event, withoutTriggersOf(list, event)...)
	}
	if cycle := smallestCycle(list); cycle != nil {
		checkCycle(t, list, cycle...)
		return
	}
	checkNoCycle(t, list)
	for event, day := range expectedByRounds(list) {
		if day < 0 {
			checkNotExpected(t, list, event)
		} else {
			checkExpected(t, list, event, day)
		}
	}
}

// checkSchedule compares what the functions tell of a schedule alone with each two of its Rules.
func checkSchedule(t *testing.T, schedule []impl.Rule) {
	t.Helper()
	contradicts := map[int]bool{}
	never := map[[2]int]bool{}
	for _, a := range schedule {
		for _, b := range schedule {
			if a.Series == b.Series && a.Days == b.Days && a.Act == 1 && b.Act == 3 {
				contradicts[a.Series] = true
			}
			if a.Series == b.Series && a.Days < b.Days && a.Event == 0 {
				never[[2]int{a.Series, 0}] = true
			}
		}
	}
	var series []int
	var keys [][2]int
	for number := range 100 {
		if contradicts[number] {
			series = append(series, number)
		}
		if never[[2]int{number, 0}] {
			keys = append(keys, [2]int{number, 0})
		}
	}
	checkContradictions(t, schedule, series...)
	checkNever(t, schedule, keys...)
}

// checkBoth compares what the functions tell of Triggers and of a schedule with the days of all rounds.
func checkBoth(t *testing.T, list []impl.Trigger, schedule []impl.Rule) {
	t.Helper()
	cyclic := smallestCycle(list) != nil
	days := expectedByRounds(list)
	var missing []int
	for event, day := range days {
		if day < 0 && slices.ContainsFunc(schedule, func(r impl.Rule) bool { return r.Event == event }) {
			missing = append(missing, event)
		}
	}
	if cyclic {
		checkNoUnexpectedEvents(t, list, schedule)
	} else {
		checkUnexpectedEvents(t, list, schedule, missing...)
	}
	for series := 1; series <= 99; series++ {
		due, known := -1, !cyclic
		for _, r := range schedule {
			if r.Series == series {
				due = max(due, days[r.Event]+r.Days)
				known = known && days[r.Event] >= 0
			}
		}
		if known && due >= 0 {
			checkExpectedDue(t, list, schedule, series, due)
		} else {
			checkNoExpectedDue(t, list, schedule, series)
		}
	}
}

func TestPromise10Constants(t *testing.T) {
	if impl.MaxTriggers != 10 {
		t.Error("MaxTriggers is", impl.MaxTriggers)
	}
}

func TestPromise10AreTriggers(t *testing.T) {
	for _, list := range [][]impl.Trigger{
		nil, {}, sixTriggers(), fullTriggers(), fullCycles(), {trigger(1, 0, 0)}, {trigger(1, 0, 10000)}, {trigger(9, 8, 0)}, {trigger(1, 9, 10000)}, {trigger(9, 0, 1)},
		triggers("2<0+5 2<1+5"), triggers("1<9+5 2<0+5"), triggers("1<2+5 2<1+5"), triggers("8<9+10000 9<8+10000"), triggers("1<0+5 1<2+5 1<9+5 9<0+5 9<8+5"),
		triggersInARow(1), triggersInARow(impl.MaxTriggers - 1), triggersInARow(impl.MaxTriggers), chosenTriggers(allPairs(1, 2, 3, 4), 1<<10-1),
	} {
		if !impl.AreTriggers(list) {
			t.Errorf("%v are no Triggers", list)
		}
	}
	for _, list := range wrongTriggers() {
		if impl.AreTriggers(list) {
			t.Errorf("%s are Triggers", brief(list))
		}
	}
	for count := range 16 {
		if impl.AreTriggers(triggersInARow(count)) != (count <= 10) {
			t.Error("AreTriggers of", count)
		}
	}
}

func TestPromise10NumbersOfATrigger(t *testing.T) {
	check := func(x impl.Trigger) {
		t.Helper()
		if impl.AreTriggers([]impl.Trigger{x}) != areTriggersByPairs([]impl.Trigger{x}) {
			t.Errorf("AreTriggers([%v]) = %v", x, impl.AreTriggers([]impl.Trigger{x}))
		}
	}
	for event := -2; event <= 12; event++ {
		for after := -2; after <= 12; after++ {
			for _, days := range []int{-1, 0, 1, 9999, 10000, 10001, 20000} {
				check(trigger(event, after, days))
			}
			for _, n := range extremes {
				check(trigger(event, after, n))
				check(trigger(event, n, 10))
				check(trigger(n, after, 10))
			}
		}
	}
	for days := -3; days <= 10010; days++ {
		check(trigger(2, 1, days))
	}
}

func TestPromise10OrderOfTriggers(t *testing.T) {
	// Each choice of up to three of these, in each order.
	few := triggers("1<0+5 1<2+5 1<9+5 2<0+5 2<1+0 2<1+5 5<4+5 9<0+5 9<8+5 0<1+5 2<2+5 10<1+5")
	check := func(list ...impl.Trigger) {
		t.Helper()
		if impl.AreTriggers(list) != areTriggersByPairs(list) {
			t.Errorf("AreTriggers(%v) = %v", list, impl.AreTriggers(list))
		}
	}
	for _, a := range few {
		check(a)
		for _, b := range few {
			check(a, b)
			for _, c := range few {
				check(a, b, c)
			}
		}
	}
	for _, list := range append(someTriggers(), wrongTriggers()...) {
		check(list[:min(len(list), 20)]...)
	}
}

func TestPromise10SeriesGaps(t *testing.T) {
	schedule := plan("2.3+500k 3.0+3650d 3.1+400t 7.0+5d 7.9+5d 40.2+0t 99.0+0k")
	checkGaps(t, schedule, nil)
	checkGaps(t, schedule, []int{})
	checkGaps(t, schedule, []int{3})
	checkGaps(t, schedule, []int{4}, 4)
	checkGaps(t, schedule, []int{1}, 1)
	checkGaps(t, schedule, []int{99})
	checkGaps(t, schedule, []int{98}, 98)
	checkGaps(t, schedule, []int{1, 2, 3, 4, 7, 8, 39, 40, 41, 98, 99}, 1, 4, 8, 39, 41, 98)
	checkGaps(t, schedule, []int{2, 3, 7, 40, 99})
	checkGaps(t, schedule, []int{1, 4, 98}, 1, 4, 98)
	checkGaps(t, schedule, seriesFrom(1, 20), slices.Concat([]int{1, 4, 5, 6}, seriesFrom(8, 13))...)
	checkGaps(t, schedule, seriesFrom(41, 20), seriesFrom(41, 20)...)
	checkGaps(t, schedule, seriesFrom(80, 20), seriesFrom(80, 19)...)
	checkGaps(t, plan("1.0+0k 2.0+0k 3.0+0k 4.0+0k 5.0+0k 6.0+0k 7.0+0k 8.0+0k"), seriesFrom(1, 8))
	checkGaps(t, plan("1.0+0k 2.0+0k 3.0+0k 4.0+0k 5.0+0k 6.0+0k 7.0+0k 8.0+0k"), seriesFrom(1, 9), 9)
	for _, empty := range [][]impl.Rule{nil, {}} {
		checkGaps(t, empty, nil)
		checkGaps(t, empty, []int{3}, 3)
		checkGaps(t, empty, []int{1, 50, 99}, 1, 50, 99)
		checkGaps(t, empty, seriesFrom(5, 20), seriesFrom(5, 20)...)
	}
	for series := 1; series <= 99; series++ {
		r := rule(series, 1, 10, 2)
		checkGaps(t, []impl.Rule{r}, []int{series})
		checkGaps(t, nil, []int{series}, series)
	}
}

func TestPromise10SeriesGapsOfAllSchedules(t *testing.T) {
	for _, schedule := range someSchedules() {
		for _, series := range [][]int{{1}, {1, 2, 3, 99}, {2, 40}, {2, 3, 5, 7, 50, 98, 99}, seriesFrom(80, 20)} {
			var want []int
			for _, number := range series {
				if !slices.ContainsFunc(schedule, func(r impl.Rule) bool { return r.Series == number }) {
					want = append(want, number)
				}
			}
			checkGaps(t, schedule, series, want...)
		}
	}
}

func TestPromise10Contradictions(t *testing.T) {
	check := func(text string, want ...int) {
		t.Helper()
		checkContradictions(t, plan(text), want...)
		checkSchedule(t, plan(text))
	}
	check("")
	check("3.0+10k")
	check("3.0+10d")
	check("3.0+10k 3.1+10d", 3)
	check("3.0+10d 3.1+10k", 3)
	check("3.1+0k 3.9+0d", 3)
	check("99.0+20000d 99.9+20000k", 99)
	check("3.0+10k 3.1+11d")
	check("3.0+11k 3.1+10d")
	check("3.0+10k 3.1+10t")
	check("3.0+10d 3.1+10t")
	check("3.0+10k 3.1+10k")
	check("3.0+10d 3.1+10d")
	check("3.0+10t 3.1+10t")
	check("3.0+10k 3.1+10t 3.2+10d", 3)
	check("3.0+10t 3.1+10d 3.2+10k", 3)
	check("3.0+10k 4.0+10d")
	check("3.0+10d 4.0+10k 4.1+10t")
	check("3.0+10k 3.1+10d 4.0+10k", 3)
	check("3.0+10k 4.0+10d 4.1+10k", 4)
	check("3.0+10k 3.1+20k 3.2+20d", 3)
	check("3.0+10k 3.1+20d 3.2+20t")
	check("3.0+10k 3.1+20d 3.2+10t")
	check("3.0+10k 3.1+20d 3.2+10d", 3)
	check("3.0+10k 3.1+10k 3.2+10d", 3)
	check("3.0+10k 3.1+10d 3.2+10d", 3)
	check("3.0+10k 3.1+10d 3.2+5k 3.3+5d", 3)
	check("3.0+1k 3.1+1d 3.2+1k 3.3+1d 3.4+1k 3.5+1d 3.6+1k 3.7+1d", 3)
	check("1.0+5k 1.1+5d 2.0+5k 2.1+5d 50.0+5d 50.1+5k 99.8+5d 99.9+5k", 1, 2, 50, 99)
	check("1.0+5k 1.1+6d 2.0+5k 2.1+5d 50.0+5d 50.1+5t 99.0+5d 99.1+5k", 2, 99)
	check("1.0+1k 1.1+1d 1.2+2k 1.3+2d 2.0+1k 2.1+1d 2.2+2k 2.3+2d", 1, 2)
	check("2.3+500k 3.0+3650d 3.1+400t 3.5+900d 7.0+5d 7.9+5d 40.2+0t")
	check("1.0+0k 1.9+20000d 5.2+10t 5.3+10t 50.0+1k 99.0+20000d 99.9+20000k", 99)
}

func TestPromise10NeverDecides(t *testing.T) {
	check := func(text string, want ...[2]int) {
		t.Helper()
		checkNever(t, plan(text), want...)
		checkSchedule(t, plan(text))
	}
	check("")
	check("3.0+5d")
	check("3.0+5d 3.1+10d", [2]int{3, 0})
	check("3.0+9d 3.9+10d", [2]int{3, 0})
	check("3.0+0k 3.1+1d", [2]int{3, 0})
	check("3.0+19999k 3.1+20000d", [2]int{3, 0})
	check("3.0+10d 3.1+10d")
	check("3.0+11d 3.1+10d")
	check("3.0+0d 3.1+0d")
	// A Rule of another Series has more Days.
	check("2.1+50d 3.0+5d 4.0+50d")
	check("2.1+50d 3.0+5d 3.1+5k 4.1+50d")
	check("3.0+5d 4.0+50d 4.1+5d")
	check("3.0+5d 4.1+50d 4.2+60d")
	// Only one for the Event 0 is told.
	check("3.1+5d 3.2+10d")
	check("3.1+5d 3.2+10d 4.0+5d 4.1+4d")
	check("3.0+5d 3.1+6d 3.2+7d 3.3+8d", [2]int{3, 0})
	// One of several has more Days.
	check("3.0+5d 3.1+1d 3.2+2d 3.3+6d", [2]int{3, 0})
	check("3.0+5d 3.1+6d 3.2+2d 3.3+5d", [2]int{3, 0})
	check("3.0+5d 3.1+5d 3.2+4d 3.3+3d")
	// Several Series.
	check("1.0+5d 1.1+6d 2.0+5d 2.1+6d", [2]int{1, 0}, [2]int{2, 0})
	check("1.0+5d 1.1+5d 2.0+5d 2.1+6d", [2]int{2, 0})
	check("1.0+5d 1.1+6d 2.0+6d 2.1+6d 99.0+0k 99.1+5t 99.2+1d", [2]int{1, 0}, [2]int{99, 0})
	check("1.0+5d 1.1+6d 2.0+5d 2.1+6d 50.0+5d 50.1+6d 99.0+5d 99.1+6d", [2]int{1, 0}, [2]int{2, 0}, [2]int{50, 0}, [2]int{99, 0})
	// The Act does not matter.
	for _, acts := range []string{"kk", "kt", "kd", "tk", "tt", "td", "dk", "dt", "dd"} {
		check("3.0+5"+acts[:1]+" 3.1+6"+acts[1:], [2]int{3, 0})
		check("3.0+6" + acts[:1] + " 3.1+6" + acts[1:])
	}
}

func TestPromise10EachTwoRulesOfAllSchedules(t *testing.T) {
	for _, schedule := range append(someSchedules(), somePlans()...) {
		checkSchedule(t, schedule)
	}
	// Each choice of Acts and Days for three Rules of a Series, between those of others.
	for mix := range 3 * 3 * 3 * 3 * 3 * 3 {
		digit := func(place int) int {
			n := mix
			for range place {
				n /= 3
			}
			return n % 3
		}
		list := []impl.Rule{
			rule(2, 0, 1, impl.ActDestroy), rule(3, 0, digit(0), 1+digit(1)), rule(3, 4, digit(2), 1+digit(3)), rule(3, 9, digit(4), 1+digit(5)), rule(4, 0, 1, impl.ActKeep), rule(4, 1, 2, impl.ActKeep),
		}
		checkSchedule(t, list)
		checkSchedule(t, list[1:4])
		checkSchedule(t, list[2:])
	}
}

// TestPromise10ARuleThatNeverDecides settles Records, so that it looks at what the document gives as the reason.
func TestPromise10ARuleThatNeverDecides(t *testing.T) {
	for _, schedule := range append(somePlans(), plan("3.0+5d 3.1+10d"), plan("3.0+5k 3.1+5d 3.2+6d"), plan("3.0+0k 3.9+1d")) {
		never, ok := impl.NeverDecides(schedule)
		if !ok {
			t.Errorf("NeverDecides(%v) failed", schedule)
		}
		for _, r := range recordsToSettle() {
			decides, settled := impl.DecidingRule(r, schedule)
			if settled && slices.Contains(never, [2]int{decides.Series, decides.Event}) {
				t.Errorf("of %v, %v decides for %v", schedule, decides, r)
			}
		}
	}
}

func TestPromise10WithoutTriggers(t *testing.T) {
	for _, empty := range [][]impl.Trigger{nil, {}, sixTriggers()[:0]} {
		if !impl.AreTriggers(empty) {
			t.Error("none are no Triggers")
		}
		checkNoCycle(t, empty)
		checkExpected(t, empty, 0, 0)
		checkNotExpected(t, empty, 1, 2, 3, 4, 5, 6, 7, 8, 9)
		for event := range 10 {
			checkTriggersDropped(t, empty, event)
		}
		checkExpectedDue(t, empty, plan("3.0+5d"), 3, 5)
		checkExpectedDue(t, empty, plan("3.0+0d"), 3, 0)
		checkNoExpectedDue(t, empty, plan("3.0+5d 3.1+5d"), 3)
		checkUnexpectedEvents(t, empty, nil)
		checkUnexpectedEvents(t, empty, plan("3.0+5d"))
		checkUnexpectedEvents(t, empty, plan("3.0+5d 3.4+5d 4.2+5d"), 2, 4)
	}
}

func TestPromise10OneTrigger(t *testing.T) {
	for event := 1; event <= 9; event++ {
		for after := range 10 {
			if event == after {
				continue
			}
			for _, days := range []int{0, 1, 5000, 9999, 10000} {
				list := []impl.Trigger{trigger(event, after, days)}
				checkNoCycle(t, list)
				for other := range 10 {
					switch {
					case other == 0:
						checkExpected(t, list, 0, 0)
					case other == event && after == 0:
						checkExpected(t, list, event, days)
					default:
						checkNotExpected(t, list, other)
					}
					if other == event || other == after {
						checkTriggersDropped(t, list, other)
					} else {
						checkTriggersDropped(t, list, other, list...)
					}
				}
			}
		}
	}
}

func TestPromise10TwoKindsThatFollowEachOther(t *testing.T) {
	for a := 1; a <= 9; a++ {
		for b := a + 1; b <= 9; b++ {
			for _, days := range []int{0, 1, 10000} {
				checkCycle(t, ring(days, a, b), a, b)
				checkCycle(t, sorted(ring(days, a, b), chain(days, a, 0), chain(days, b, 0)), a, b)
				checkNoCycle(t, chain(days, a, b))
				checkNoCycle(t, chain(days, b, a))
			}
		}
	}
}

func TestPromise10CyclesOfAllKinds(t *testing.T) {
	for _, days := range []int{0, 7, 10000} {
		checkCycle(t, ring(days, 1, 2, 3, 4, 5, 6, 7, 8, 9), 1, 2, 3, 4, 5, 6, 7, 8, 9)
		checkCycle(t, ring(days, 9, 8, 7, 6, 5, 4, 3, 2, 1), 1, 9, 8, 7, 6, 5, 4, 3, 2)
		checkCycle(t, ring(days, 4, 9, 1, 7, 2, 5, 8, 3, 6), 1, 7, 2, 5, 8, 3, 6, 4, 9)
		checkCycle(t, ring(days, 3, 1, 2), 1, 2, 3)
		checkCycle(t, ring(days, 3, 2, 1), 1, 3, 2)
		checkCycle(t, ring(days, 9, 5, 7), 5, 7, 9)
	}
	all := []int{1, 2, 3, 4, 5, 6, 7, 8, 9}
	for start := range 9 {
		turned := slices.Concat(all[start:], all[:start])
		checkCycle(t, ring(1, turned...), all...)
		checkNoCycle(t, chain(1, turned...))
		checkNoCycle(t, sorted(chain(1, turned...), chain(1, turned[8], 0)))
		for count := 2; count <= 9; count++ {
			// The ring of the first ones, whichever of them is the smallest one.
			some := turned[:count]
			place := slices.Index(some, slices.Min(some))
			checkCycle(t, ring(1, some...), slices.Concat(some[place:], some[:place])...)
		}
	}
	// One more Trigger makes a shorter cycle beside the one of all kinds, which is smaller or not.
	nine := ring(1, all...)
	checkCycle(t, sorted(nine, chain(1, 3, 1)), 1, 2, 3)
	checkCycle(t, sorted(nine, chain(1, 2, 1)), 1, 2)
	checkCycle(t, sorted(nine, chain(1, 1, 9)), 1, 2, 3, 4, 5, 6, 7, 8, 9)
	checkCycle(t, sorted(nine, chain(1, 1, 3)), 1, 2, 3, 4, 5, 6, 7, 8, 9)
	checkCycle(t, sorted(nine, chain(1, 5, 7)), 1, 2, 3, 4, 5, 6, 7, 8, 9)
	checkCycle(t, sorted(nine, chain(1, 5, 3)), 1, 2, 3, 4, 5, 6, 7, 8, 9)
	checkCycle(t, sorted(nine, chain(1, 5, 0)), 1, 2, 3, 4, 5, 6, 7, 8, 9)
	checkCycle(t, sorted(ring(1, 9, 8, 7, 6, 5, 4, 3, 2, 1), chain(1, 9, 1)), 1, 9)
	checkCycle(t, sorted(ring(1, 9, 8, 7, 6, 5, 4, 3, 2, 1), chain(1, 1, 2)), 1, 2)
	checkCycle(t, sorted(ring(1, 9, 8, 7, 6, 5, 4, 3, 2, 1), chain(1, 1, 8)), 1, 8, 7, 6, 5, 4, 3, 2)
}

func TestPromise10CyclesThatAreReachedFromOutside(t *testing.T) {
	checkCycle(t, triggers("1<2+5 2<3+5 3<2+5"), 2, 3)
	checkCycle(t, triggers("1<3+5 2<3+5 3<2+5"), 2, 3)
	checkCycle(t, triggers("1<5+5 2<7+5 5<2+5 7<9+5 9<2+5"), 2, 7, 9)
	checkCycle(t, triggers("1<9+5 8<9+5 9<8+5"), 8, 9)
	checkCycle(t, triggers("1<2+5 2<3+5 3<4+5 4<5+5 5<6+5 6<7+5 7<8+5 8<9+5 9<8+5"), 8, 9)
	// One leaves the cycle, and leads nowhere.
	checkCycle(t, triggers("1<2+5 1<3+5 2<4+5 3<1+5"), 1, 3)
	checkCycle(t, triggers("1<2+5 1<3+5 2<0+5 3<1+5"), 1, 3)
	checkCycle(t, triggers("1<2+5 1<5+5 2<3+5 3<4+5 5<1+5"), 1, 5)
	checkCycle(t, triggers("1<2+5 1<5+5 2<3+5 3<4+5 4<0+1 5<4+5 5<6+1 6<1+5"), 1, 5, 6)
	// One leads to another cycle, and not back.
	checkCycle(t, triggers("1<2+5 1<4+5 2<3+5 3<2+5 4<1+5"), 1, 4)
	checkCycle(t, triggers("1<2+5 2<1+5 3<4+5 4<3+5"), 1, 2)
	checkCycle(t, triggers("3<4+5 4<3+5 8<9+5 9<8+5"), 3, 4)
	checkCycle(t, triggers("1<8+5 3<4+5 4<3+5 8<9+5 9<8+5"), 3, 4)
	// The way around comes to a smaller kind than the first one of it.
	checkCycle(t, triggers("2<1+5 2<5+5 3<2+5 5<1+5 5<3+5"), 2, 5, 3)
	checkCycle(t, triggers("4<1+5 4<6+5 6<2+5 6<4+5"), 4, 6)
}

func TestPromise10CyclesThatShareKinds(t *testing.T) {
	// The longer one comes first.
	checkCycle(t, triggers("1<2+5 1<3+5 2<3+5 3<1+5"), 1, 2, 3)
	checkCycle(t, triggers("1<2+5 1<9+5 2<8+5 8<9+5 9<1+5"), 1, 2, 8, 9)
	checkCycle(t, triggers("2<3+5 2<4+5 3<5+5 4<2+5 5<2+5"), 2, 3, 5)
	checkCycle(t, triggers("1<5+5 5<6+5 5<9+5 6<7+5 7<1+5 9<1+5"), 1, 5, 6, 7)
	// The shorter one comes first, and is a beginning of none.
	checkCycle(t, triggers("1<2+5 1<3+5 2<1+5 3<4+5 4<1+5"), 1, 2)
	checkCycle(t, triggers("1<3+5 1<4+5 2<1+5 3<1+5 4<2+5"), 1, 3)
	checkCycle(t, triggers("1<5+5 1<9+5 5<9+5 6<5+5 9<1+5 9<6+5"), 1, 5, 9)
	// The shorter one is a beginning of the longer one.
	checkCycle(t, triggers("1<2+5 2<1+5 2<3+5 3<1+5"), 1, 2)
	checkCycle(t, triggers("1<9+5 2<1+5 9<1+5 9<2+5"), 1, 9)
	checkCycle(t, triggers("1<2+5 2<3+5 3<1+5 3<4+5 4<1+5"), 1, 2, 3)
	// They share a kind that is not the first one.
	checkCycle(t, triggers("1<5+5 2<5+5 5<1+5 5<2+5"), 1, 5)
	checkCycle(t, triggers("2<4+5 3<4+5 4<2+5 4<3+5"), 2, 4)
	checkCycle(t, triggers("1<4+5 2<4+5 3<4+5 4<2+5 4<3+5"), 2, 4)
	// All of four kinds follow each other, as far as may be.
	checkCycle(t, chosenTriggers(allPairs(1, 2, 3, 4), 1<<10-1), 1, 2)
	checkCycle(t, allPairs(7, 8, 9), 7, 8)
	checkCycle(t, fullCycles(), 1, 2, 3)
}

func TestPromise10TheMakingIsInNoCycle(t *testing.T) {
	checkNoCycle(t, triggers("1<0+5 2<0+5 3<0+5 4<0+5 5<0+5 6<0+5 7<0+5 8<0+5 9<0+5"))
	checkNoCycle(t, triggers("1<0+5 1<2+5 2<0+5"))
	checkNoCycle(t, sixTriggers())
	checkNoCycle(t, fullTriggers())
	checkNoCycle(t, triggers("1<2+5 1<3+5 2<4+5 3<4+5 4<0+5"))
	checkCycle(t, triggers("1<0+5 1<2+5 2<0+5 2<1+5"), 1, 2)
	checkCycle(t, triggers("1<0+5 8<0+5 8<9+5 9<0+5 9<8+5"), 8, 9)
	for kind := 1; kind <= 9; kind++ {
		if cycle, ok := impl.FirstCycle([]impl.Trigger{trigger(kind, 0, 0)}); ok || len(cycle) != 0 {
			t.Errorf("%d follows the making in %v", kind, cycle)
		}
	}
}

func TestPromise10AllTriggersOfFewKinds(t *testing.T) {
	for _, kinds := range [][]int{{0, 1, 2, 3}, {0, 2, 5, 9}, {0, 7, 8, 9}, {1, 2, 3}, {3, 6, 9}} {
		all := allPairs(kinds...)
		for set := range 1 << len(all) {
			checkTriggers(t, chosenTriggers(all, set))
		}
	}
	for _, kinds := range [][]int{{1, 2, 3, 4}, {1, 4, 6, 9}} {
		all := allPairs(kinds...)
		for set := range 1 << len(all) {
			if list := chosenTriggers(all, set); len(list) <= impl.MaxTriggers {
				checkTriggers(t, list)
			}
		}
	}
}

func TestPromise10AllTriggersWithoutACycle(t *testing.T) {
	// No kind follows one behind it in the order, so that none of these has a cycle.
	for _, order := range [][]int{{0, 1, 2, 3, 4}, {0, 4, 3, 2, 1}, {0, 5, 1, 9, 3}, {0, 2, 9, 8, 1}} {
		var all []impl.Trigger
		for i, event := range order {
			for j, after := range order[:i] {
				all = append(all, trigger(event, after, (5*i+7*j+3)%13*(1+j%2*3)))
			}
		}
		all = sorted(all)
		for set := range 1 << len(all) {
			list := chosenTriggers(all, set)
			checkNoCycle(t, list)
			checkTriggers(t, list)
		}
	}
}

func TestPromise10AllSomeTriggers(t *testing.T) {
	cyclic := 0
	for _, list := range someTriggers() {
		checkTriggers(t, list)
		if smallestCycle(list) != nil {
			cyclic++
		}
	}
	if cyclic < 30 || len(someTriggers())-cyclic < 100 {
		t.Error("only", cyclic, "of", len(someTriggers()), "lists have a cycle")
	}
}

func TestPromise10ExpectedDay(t *testing.T) {
	list := sixTriggers()
	checkExpected(t, list, 0, 0)
	checkExpected(t, list, 1, 30)
	checkExpected(t, list, 2, 40)
	checkExpected(t, list, 4, 45)
	checkNotExpected(t, list, 3, 5, 6, 7, 8, 9)
	full := fullTriggers()
	for event, day := range []int{0, 0, 10000, 10000, 20000, 29999} {
		checkExpected(t, full, event, day)
	}
	checkNotExpected(t, full, 6, 7, 8, 9)
	// One that follows the making may be expected on its day.
	checkExpected(t, triggers("1<0+0"), 1, 0)
	checkExpected(t, triggers("9<0+10000"), 9, 10000)
	checkNotExpected(t, triggers("1<0+0"), 2)
	checkNotExpected(t, triggers("1<2+5"), 1, 2)
}

func TestPromise10ExpectedDayOfAChain(t *testing.T) {
	for _, order := range [][]int{{9, 8, 7, 6, 5, 4, 3, 2, 1, 0}, {1, 2, 3, 4, 5, 6, 7, 8, 9, 0}, {5, 9, 1, 7, 3, 8, 2, 6, 4, 0}} {
		for _, days := range []int{0, 1, 10000} {
			whole := chain(days, order...)
			for place, event := range order {
				checkExpected(t, whole, event, (9-place)*days)
				checkNotExpected(t, chain(days, order[:9]...), order[:9]...)
			}
			// Without one step, all that comes behind it is not expected.
			for gap := range 9 {
				list := slices.DeleteFunc(slices.Clone(whole), func(x impl.Trigger) bool { return x.Event == order[gap] })
				for place, event := range order {
					if place <= gap {
						checkNotExpected(t, list, event)
					} else {
						checkExpected(t, list, event, (9-place)*days)
					}
				}
			}
		}
	}
	checkExpected(t, chain(10000, 9, 8, 7, 6, 5, 4, 3, 2, 1, 0), 9, 90000)
}

func TestPromise10AnEventThatFollowsTwoOthers(t *testing.T) {
	// The one with fewer Days has the greater sum, ahead of the other one and behind it.
	checkExpected(t, triggers("1<0+10 2<0+100 3<1+5 3<2+1"), 3, 101)
	checkExpected(t, triggers("1<0+100 2<0+10 3<1+1 3<2+5"), 3, 101)
	checkExpected(t, triggers("1<0+100 3<0+50 3<1+0"), 3, 100)
	checkExpected(t, triggers("1<0+30 2<1+10 3<0+5 3<2+5"), 3, 45)
	// The one with more Days has it.
	checkExpected(t, triggers("1<0+10 2<0+12 3<1+5 3<2+1"), 3, 15)
	checkExpected(t, triggers("1<0+10 2<0+12 3<1+1 3<2+5"), 3, 17)
	checkExpected(t, triggers("1<0+10 3<0+50 3<1+5"), 3, 50)
	// They have the same sum.
	checkExpected(t, triggers("1<0+10 2<0+12 3<1+5 3<2+3"), 3, 15)
	checkExpected(t, triggers("1<0+0 2<0+0 3<1+0 3<2+0"), 3, 0)
	// Only one of the two is expected.
	for _, text := range []string{"1<0+10 3<1+5 3<2+5", "2<0+10 3<1+5 3<2+5", "3<0+5 3<1+5", "3<0+5 3<9+5", "3<1+5 3<2+5", "1<0+10 2<4+5 3<1+5 3<2+5", "1<4+10 2<0+5 3<1+5 3<2+5", "2<0+5 2<5+5 3<0+5 3<2+5"} {
		checkNotExpected(t, triggers(text), 3)
		// Neither is one that follows it, together with one that is expected, or the other way around.
		checkNotExpected(t, sorted(triggers(text), triggers("6<0+5 7<3+5 8<0+900 8<7+5")), 3, 7, 8)
		checkExpected(t, sorted(triggers(text), triggers("6<0+5 7<3+5 8<0+900 8<7+5")), 6, 5)
	}
	// Of three, each one may have the greatest sum.
	for place, text := range []string{"1<0+100 2<0+10 3<0+20 4<1+1 4<2+2 4<3+3", "1<0+10 2<0+100 3<0+20 4<1+2 4<2+1 4<3+3", "1<0+20 2<0+10 3<0+100 4<1+2 4<2+3 4<3+1"} {
		checkExpected(t, triggers(text), 4, 101)
		checkNotExpected(t, withoutTriggersOf(triggers(text), 0), 4)
		for other := range 3 {
			list := slices.DeleteFunc(triggers(text), func(x impl.Trigger) bool { return x.Event == other+1 })
			checkNotExpected(t, list, 4)
			if other != place {
				list = slices.DeleteFunc(list, func(x impl.Trigger) bool { return x.After == other+1 })
				checkExpected(t, list, 4, 101)
			}
		}
	}
	// Both ways begin with the same event, and one is longer.
	checkExpected(t, triggers("1<0+1 2<1+10 3<1+2 4<2+1 4<3+8"), 4, 12)
	checkExpected(t, triggers("1<0+1 2<1+10 3<2+2 4<1+12 4<3+1"), 4, 14)
	checkExpected(t, triggers("1<0+1 2<1+10 3<2+2 4<1+14 4<3+1"), 4, 15)
}

func TestPromise10ExpectedDaysWithACycle(t *testing.T) {
	// The cycle is of other events than the one that is asked for.
	for _, text := range []string{"1<0+5 2<3+5 3<2+5", "1<0+5 8<9+5 9<8+5", "2<3+5 3<2+5 9<0+5", "1<2+0 2<1+0", "1<0+5 2<0+5 2<3+5 3<0+5 3<2+5"} {
		list := triggers(text)
		checkNotExpected(t, list, 0, 1, 2, 3, 4, 5, 6, 7, 8, 9)
		checkNoUnexpectedEvents(t, list, nil)
		checkNoUnexpectedEvents(t, list, plan("3.0+5d"))
		checkNoUnexpectedEvents(t, list, plan("3.1+5d 3.2+5d"))
		for _, schedule := range []string{"", "3.0+5d", "3.1+5d", "3.0+5d 3.9+5d"} {
			checkNoExpectedDue(t, list, plan(schedule), 3)
			checkNoExpectedDue(t, list, plan(schedule), 4)
		}
	}
}

// TestPromise10NoEventIsExpectedBeforeTheOneItFollows looks at each Trigger with the functions of the program alone.
func TestPromise10NoEventIsExpectedBeforeTheOneItFollows(t *testing.T) {
	seen := 0
	for mix := range 2000 {
		list := mixedTriggers(mix)
		if cyclic, ok := impl.HasCycle(list); !ok || cyclic {
			continue
		}
		reached := map[int]bool{}
		for _, x := range list {
			day, expected := impl.ExpectedDay(list, x.Event)
			before, fine := impl.ExpectedDay(list, x.After)
			if !expected {
				continue
			}
			if !fine || day < before || day < before+x.Days {
				t.Errorf("of %v, %d is expected on %d, but %d on %d (%v)", list, x.Event, day, x.After, before, fine)
			}
			reached[x.Event] = reached[x.Event] || day == before+x.Days
			seen++
		}
		for event, found := range reached {
			if !found {
				t.Errorf("of %v, %d is expected later than all that it follows", list, event)
			}
		}
	}
	if seen < 1000 {
		t.Error("only", seen, "Triggers of events that are expected")
	}
}

func TestPromise10ExpectedDue(t *testing.T) {
	list := sixTriggers()
	checkExpectedDue(t, list, plan("3.0+5d 3.1+10d"), 3, 40)
	checkExpectedDue(t, list, plan("3.0+41d 3.1+10d"), 3, 41)
	checkExpectedDue(t, list, plan("3.0+40d 3.1+10d"), 3, 40)
	checkExpectedDue(t, list, plan("3.1+10d"), 3, 40)
	checkExpectedDue(t, list, plan("3.0+0d"), 3, 0)
	checkExpectedDue(t, list, plan("3.4+0k"), 3, 45)
	// The greatest sum is neither of the greatest Days nor of the latest event, and stands in each place.
	checkExpectedDue(t, list, plan("3.0+50d 3.1+25d 3.2+19d 3.4+1k"), 3, 59)
	checkExpectedDue(t, list, plan("3.0+60d 3.1+25d 3.2+19d 3.4+1k"), 3, 60)
	checkExpectedDue(t, list, plan("3.0+50d 3.1+35d 3.2+19d 3.4+1k"), 3, 65)
	checkExpectedDue(t, list, plan("3.0+50d 3.1+25d 3.2+19d 3.4+21k"), 3, 66)
	// Rules for other Series have greater sums, or Events that are not expected.
	beside := plan("2.0+9000d 3.0+5d 3.1+10d 4.0+8000d 4.9+5d 99.6+5d")
	checkExpectedDue(t, list, beside, 2, 9000)
	checkExpectedDue(t, list, beside, 3, 40)
	checkNoExpectedDue(t, list, beside, 4)
	checkNoExpectedDue(t, list, beside, 99)
	for _, series := range []int{1, 5, 50, 98} {
		checkNoExpectedDue(t, list, beside, series)
	}
	// An Event that is not expected is ahead of the others, between them and behind them.
	checkNoExpectedDue(t, list, plan("3.3+5d 3.4+10d"), 3)
	checkNoExpectedDue(t, list, plan("3.0+5d 3.3+5d 3.4+10d"), 3)
	checkNoExpectedDue(t, list, plan("3.0+5d 3.1+5d 3.7+10d"), 3)
	checkNoExpectedDue(t, list, plan("3.6+10d"), 3)
	// There is no Rule.
	for _, schedule := range [][]impl.Rule{nil, {}, plan("2.0+5d 4.0+5d")} {
		checkNoExpectedDue(t, list, schedule, 3)
		checkNoExpectedDue(t, nil, schedule, 3)
	}
	// The greatest sum of all.
	checkExpectedDue(t, chain(10000, 9, 8, 7, 6, 5, 4, 3, 2, 1, 0), plan("99.0+20000k 99.9+20000d"), 99, 110000)
	checkExpectedDue(t, nil, plan("1.0+20000k"), 1, 20000)
}

func TestPromise10UnexpectedEvents(t *testing.T) {
	list := sixTriggers()
	checkUnexpectedEvents(t, list, nil)
	checkUnexpectedEvents(t, list, plan("3.0+5d 3.1+10d 3.2+5d 3.4+5d"))
	checkUnexpectedEvents(t, list, plan("3.0+5d 3.1+10d 3.3+10k"), 3)
	checkUnexpectedEvents(t, list, plan("3.7+5d"), 7)
	checkUnexpectedEvents(t, list, plan("3.6+5d 3.7+5d"), 6, 7)
	// An Event of several Rules is told once, whether they stand side by side or not.
	checkUnexpectedEvents(t, list, plan("1.9+5d 2.9+5d 3.9+5d"), 9)
	checkUnexpectedEvents(t, list, plan("1.3+5d 1.9+5d 2.3+5d 2.9+5d 3.0+5d 3.3+5d 99.5+5d 99.9+5d"), 3, 5, 9)
	// They come in another order than their Series.
	checkUnexpectedEvents(t, list, plan("1.9+5d 2.8+5d 3.7+5d 4.6+5d 5.5+5d 6.4+5d 7.3+5d 8.2+5d"), 3, 5, 6, 7, 8, 9)
	checkUnexpectedEvents(t, list, plan("1.8+5d 2.0+5d 2.9+5d 3.5+5d 4.0+5d 4.8+5d 5.3+5d"), 3, 5, 8, 9)
	// The making is expected always.
	for _, one := range [][]impl.Trigger{nil, list, fullTriggers(), triggers("1<2+5")} {
		checkUnexpectedEvents(t, one, plan("1.0+5d 2.0+5d 99.0+0k"))
	}
	checkUnexpectedEvents(t, nil, plan("1.1+5d 1.2+5d 1.3+5d 1.4+5d 1.5+5d 1.6+5d 1.7+5d 1.9+5d"), 1, 2, 3, 4, 5, 6, 7, 9)
}

func TestPromise10TriggersAndSchedules(t *testing.T) {
	schedules := append(somePlans(), sevenRules(), fullSchedule(), plan("1.1+1d 1.2+2k 1.3+3t 2.0+9d 2.4+4d 3.5+5d 3.9+6k 99.7+8d"))
	for i, list := range someTriggers() {
		for j := range 6 {
			checkBoth(t, list, schedules[(5*i+j)%len(schedules)])
		}
	}
	for _, schedule := range someSchedules() {
		checkBoth(t, fullTriggers(), schedule)
		checkBoth(t, triggers("4<0+50 9<4+7"), schedule)
		checkBoth(t, triggers("4<9+50 9<0+7"), schedule)
		checkBoth(t, nil, schedule)
	}
}

func TestPromise10DropTriggers(t *testing.T) {
	list := sixTriggers()
	checkTriggersDropped(t, list, 0, triggers("2<1+10 4<2+5 7<4+0 7<6+9")...)
	checkTriggersDropped(t, list, 1, triggers("4<0+5 4<2+5 7<4+0 7<6+9")...)
	checkTriggersDropped(t, list, 2, triggers("1<0+30 4<0+5 7<4+0 7<6+9")...)
	checkTriggersDropped(t, list, 4, triggers("1<0+30 2<1+10 7<6+9")...)
	// An event that only others follow.
	checkTriggersDropped(t, list, 6, triggers("1<0+30 2<1+10 4<0+5 4<2+5 7<4+0")...)
	// One that no other follows.
	checkTriggersDropped(t, list, 7, triggers("1<0+30 2<1+10 4<0+5 4<2+5")...)
	// Some that do not occur.
	for _, event := range []int{3, 5, 8, 9} {
		checkTriggersDropped(t, list, event, list...)
	}
	checkTriggersDropped(t, fullTriggers(), 9, fullTriggers()[:8]...)
	checkTriggersDropped(t, fullTriggers(), 0, triggers("3<1+10000 3<2+0 4<3+10000 5<4+9999 8<7+0 9<8+10000")...)
	checkTriggersDropped(t, fullCycles(), 1, triggers("2<3+5 3<2+0 4<0+7 8<9+0 9<8+0")...)
	checkTriggersDropped(t, triggers("1<0+5 2<0+5 9<0+5"), 0)
	checkTriggersDropped(t, triggers("1<9+5 2<9+5 9<0+5"), 9)
	// Without an event of it, a cycle is gone.
	checkCycle(t, triggers("1<2+5 2<3+5 3<1+5 4<0+5"), 1, 2, 3)
	for event := 1; event <= 3; event++ {
		left, _ := impl.DropTriggers(triggers("1<2+5 2<3+5 3<1+5 4<0+5"), event)
		checkNoCycle(t, left)
		checkExpected(t, left, 4, 5)
	}
}

func TestPromise10DroppedTriggersAreTriggers(t *testing.T) {
	for _, list := range someTriggers() {
		for event := range 10 {
			left, ok := impl.DropTriggers(list, event)
			if !ok || !impl.AreTriggers(left) {
				t.Errorf("DropTriggers(%v, %d) = %v, %v", list, event, left, ok)
			}
			checkTriggersDropped(t, left, event, left...)
			if cycle, found := impl.FirstCycle(left); found && slices.Contains(cycle, event) {
				t.Errorf("without %d, %v have the cycle %v", event, left, cycle)
			}
		}
	}
}

func TestPromise10WrongTriggersAreRefused(t *testing.T) {
	for _, list := range wrongTriggers() {
		checkNoTriggers(t, list)
	}
	// The wrong one would be dropped, or is none of the event that is asked for.
	checkNoTriggersDropped(t, triggers("1<0+5 5<5+5"), 5)
	checkNoTriggersDropped(t, triggers("1<0+5 5<4+10001"), 4)
	checkNoTriggersDropped(t, triggers("1<0+5 5<4+-1"), 5)
	checkNoTriggersDropped(t, triggers("5<4+5 1<0+5"), 1)
	checkNoTriggersDropped(t, triggersInARow(11), 2)
	checkNotExpected(t, triggers("1<0+5 5<5+5"), 0, 1, 5)
	checkNotExpected(t, triggers("1<0+5 9<8+10001"), 0, 1, 9)
	checkNoExpectedDue(t, triggers("1<0+5 9<8+10001"), plan("3.1+5d"), 3)
	checkNoUnexpectedEvents(t, triggers("1<0+5 9<8+10001"), plan("3.1+5d"))
	// A wrong Trigger beside a cycle.
	checkNoTriggers(t, triggers("1<2+5 2<1+5 3<3+5"))
	checkNoTriggers(t, triggers("1<2+5 2<1+5 9<0+-1"))
}

func TestPromise10WrongSchedulesAreNotChecked(t *testing.T) {
	for _, schedule := range wrongSchedules() {
		checkNoneToCheck(t, schedule)
	}
	checkNoneToCheck(t, make([]impl.Rule, 1<<10))
	for _, x := range wrongRules() {
		checkNoneToCheck(t, []impl.Rule{x})
		checkNoneToCheck(t, []impl.Rule{rule(1, 0, 10, 2), x})
		checkNoneToCheck(t, []impl.Rule{x, rule(99, 9, 10, 2)})
		checkNoneToCheck(t, []impl.Rule{rule(1, 0, 10, 2), x, rule(99, 9, 10, 2)})
	}
}

func TestPromise10WrongListsOfSeries(t *testing.T) {
	for _, series := range wrongSeriesLists() {
		for _, schedule := range [][]impl.Rule{nil, {}, sevenRules(), fullSchedule(), plan("3.0+5d"), plan("1.0+5d 3.0+5d 5.0+5d")} {
			checkNoGaps(t, schedule, series)
		}
	}
	for a := -1; a <= 101; a++ {
		for b := -1; b <= 101; b++ {
			if a < 1 || b > 99 || a >= b {
				checkNoGaps(t, nil, []int{a, b})
				checkNoGaps(t, plan("3.0+5d"), []int{a, b})
			} else {
				checkGaps(t, nil, []int{a, b}, a, b)
			}
		}
	}
}

func TestPromise10NumbersThatAreNoEvents(t *testing.T) {
	for _, list := range [][]impl.Trigger{nil, {}, sixTriggers(), fullTriggers(), fullCycles(), {trigger(1, 0, 0)}, triggers("9<0+5")} {
		for _, event := range append([]int{-2, -1, 10, 11, 99}, extremes...) {
			checkNotExpected(t, list, event)
			checkNoTriggersDropped(t, list, event)
		}
	}
}

func TestPromise10NumbersThatAreNoSeries(t *testing.T) {
	for _, list := range [][]impl.Trigger{nil, {}, sixTriggers(), fullTriggers(), fullCycles()} {
		for _, schedule := range [][]impl.Rule{nil, {}, plan("3.0+5d"), plan("1.0+5d 99.0+5d"), fullSchedule()} {
			for _, series := range append([]int{-2, -1, 0, 100, 101}, extremes...) {
				checkNoExpectedDue(t, list, schedule, series)
			}
		}
	}
}

// useTriggers calls each function of the chapter.
func useTriggers(list []impl.Trigger, schedule []impl.Rule, series []int, numbers []int) {
	impl.AreTriggers(list)
	impl.SeriesGaps(schedule, series)
	impl.Contradictions(schedule)
	impl.NeverDecides(schedule)
	impl.HasCycle(list)
	impl.FirstCycle(list)
	impl.UnexpectedEvents(list, schedule)
	for _, n := range numbers {
		impl.ExpectedDay(list, n)
		impl.ExpectedDue(list, schedule, n)
		impl.DropTriggers(list, n)
	}
}

func TestPromise29CheckerReturnsForAllArguments(t *testing.T) {
	numbers := append([]int{0, 1, 3, 9, 10, 99, 100}, extremes...)
	lists := append(wrongTriggers(), someTriggers()...)
	lists = append(lists, []impl.Trigger{trigger(math.MinInt, math.MaxInt, math.MinInt), trigger(math.MaxInt, math.MinInt, math.MaxInt)})
	seriesLists := append(wrongSeriesLists(), nil, []int{}, []int{1}, seriesFrom(80, 20), []int{math.MinInt, math.MaxInt})
	for _, list := range lists {
		useTriggers(list, plan("3.0+440d 3.1+5k"), []int{1, 3}, numbers)
		useTriggers(list, make([]impl.Rule, 1<<10), nil, numbers)
	}
	for _, list := range [][]impl.Trigger{nil, sixTriggers(), fullTriggers(), fullCycles(), {{}}} {
		for _, schedule := range append(wrongSchedules(), wrongRules(), sevenRules(), fullSchedule(), nil, make([]impl.Rule, 1<<16)) {
			for _, series := range seriesLists {
				useTriggers(list, schedule, series, numbers)
			}
		}
	}
}

// roomyTriggers has a list of as many, with others behind its length.
func roomyTriggers(length int) []impl.Trigger {
	return append(fullTriggers(), trigger(9, 1, 5), trigger(-7, -7, -7))[:length]
}

// roomyCycles has a list of as many, with others behind its length that have one more cycle.
func roomyCycles(length int) []impl.Trigger {
	return append(fullCycles(), trigger(9, 8, 5), trigger(-7, -7, -7))[:length]
}

func TestPromise29CheckerModifiesNothing(t *testing.T) {
	numbers := []int{-1, 0, 1, 2, 3, 4, 5, 6, 7, 8, 9, 10, 99, 100}
	lists := append(wrongTriggers()[:60], someTriggers()[:60]...)
	for length := range impl.MaxTriggers + 2 {
		lists = append(lists, roomyTriggers(length), roomyCycles(length), append(make([]impl.Trigger, 0, 20), roomyCycles(length)...))
	}
	for i, list := range lists {
		for length := range impl.MaxRules + 1 {
			schedule := append(fullSchedule(), rule(99, 9, 5, 1), rule(-7, -7, -7, -7))[:length]
			series := append(seriesFrom(1+i%79, 20), 99, -7)[:(5*i+length)%23]
			allTriggers, allRules, allSeries := list[:cap(list)], schedule[:cap(schedule)], series[:cap(series)]
			keptTriggers, keptRules, keptSeries := slices.Clone(allTriggers), slices.Clone(allRules), slices.Clone(allSeries)
			useTriggers(list, schedule, series, numbers)
			if !slices.Equal(allTriggers, keptTriggers) || !slices.Equal(allRules, keptRules) || !slices.Equal(allSeries, keptSeries) {
				t.Fatalf("the arguments changed to %s, %v, %v", brief(allTriggers), allRules, allSeries)
			}
		}
	}
}

func TestPromise29TriggersBehindTheLengthAreNotUsed(t *testing.T) {
	for length := range impl.MaxTriggers + 1 {
		checkTriggers(t, roomyTriggers(length))
		checkTriggers(t, roomyCycles(length))
		for _, schedule := range [][]impl.Rule{sevenRules(), fullSchedule()} {
			rules := append(schedule, rule(99, 1, 5, 1))[:length%(len(schedule)+1)]
			checkSchedule(t, rules)
			checkBoth(t, roomyTriggers(length), rules)
			checkBoth(t, roomyCycles(length), rules)
		}
		checkGaps(t, plan("3.0+5d 5.0+5d")[:length%2], []int{3, 4, 5, 0, -7}[:length%4], []int{3, 4, 5}[length%2:max(length%4, length%2)]...)
	}
	checkNoTriggers(t, roomyTriggers(impl.MaxTriggers+1))
	checkNoTriggers(t, roomyCycles(impl.MaxTriggers+2))
	// A cycle that only one behind the length would close.
	list := triggers("1<2+5 2<3+5 3<1+5")
	checkNoCycle(t, list[:2])
	checkCycle(t, list, 1, 2, 3)
}

// scribbleTriggers overwrites a list of Triggers as far as its memory reaches.
func scribbleTriggers(list []impl.Trigger) {
	all := list[:cap(list)]
	for i := range all {
		all[i] = trigger(-7, -7, -7)
	}
}

func TestPromise29DroppedTriggersShareNoMemory(t *testing.T) {
	for length := range impl.MaxTriggers + 1 {
		for event := range 10 {
			list := roomyTriggers(length)
			first, ok := impl.DropTriggers(list, event)
			second, fine := impl.DropTriggers(list, event)
			want := withoutTriggersOf(list, event)
			scribbleTriggers(first)
			if !ok || !fine || !slices.Equal(list[:12], roomyTriggers(12)) || !slices.Equal(second, want) {
				t.Errorf("a result of %d Triggers without %d shares memory: %v, %v", length, event, list[:12], second)
			}
			scribbleTriggers(list)
			if !slices.Equal(second, want) {
				t.Errorf("an argument of %d Triggers without %d shares memory: %v", length, event, second)
			}
		}
	}
}

// checkCheckerUnshared looks that neither an argument nor a second result changes with the memory of the first one.
func checkCheckerUnshared(t *testing.T, name string, act func([]impl.Trigger, []impl.Rule, []int) ([]int, bool)) {
	t.Helper()
	for _, cyclic := range []bool{false, true} {
		list, schedule, series := roomyTriggers(10), append(plan("3.0+5k 3.6+5d 4.7+5d"), rule(5, 9, 5, 1))[:3], append([]int{1, 2, 9}, 10, 11)[:3]
		if cyclic {
			list = roomyCycles(10)
		}
		keptTriggers, keptRules, keptSeries := slices.Clone(list[:12]), slices.Clone(schedule[:4]), slices.Clone(series[:5])
		first, ok := act(list, schedule, series)
		second, fine := act(list, schedule, series)
		want := slices.Clone(second)
		scribbleNumbers(first)
		if ok != fine || ok == (len(want) == 0) || !slices.Equal(second, want) {
			t.Errorf("two results of %s share memory: %v, %v, %v", name, second, ok, fine)
		}
		if !slices.Equal(list[:12], keptTriggers) || !slices.Equal(schedule[:4], keptRules) || !slices.Equal(series[:5], keptSeries) {
			t.Errorf("a result of %s shares memory: %v, %v, %v", name, list[:12], schedule[:4], series[:5])
		}
		scribbleTriggers(list)
		scribbleRules(schedule)
		scribbleNumbers(series)
		if !slices.Equal(second, want) {
			t.Errorf("an argument of %s shares memory: %v", name, second)
		}
	}
}

func TestPromise29NumbersOfTheCheckerShareNoMemory(t *testing.T) {
	checkCheckerUnshared(t, "SeriesGaps", func(_ []impl.Trigger, schedule []impl.Rule, series []int) ([]int, bool) {
		return impl.SeriesGaps(schedule, series)
	})
	checkCheckerUnshared(t, "SeriesGaps of no Rules", func(_ []impl.Trigger, schedule []impl.Rule, series []int) ([]int, bool) {
		return impl.SeriesGaps(schedule[:0], series)
	})
	checkCheckerUnshared(t, "Contradictions", func(_ []impl.Trigger, schedule []impl.Rule, _ []int) ([]int, bool) {
		return impl.Contradictions(schedule)
	})
	checkCheckerUnshared(t, "FirstCycle", func(list []impl.Trigger, _ []impl.Rule, _ []int) ([]int, bool) { return impl.FirstCycle(list) })
	checkCheckerUnshared(t, "UnexpectedEvents", func(list []impl.Trigger, schedule []impl.Rule, _ []int) ([]int, bool) {
		return impl.UnexpectedEvents(list, schedule)
	})
}

func TestPromise29RulesThatNeverDecideShareNoMemory(t *testing.T) {
	schedule := plan("3.0+5k 3.6+6d 4.0+5d 4.1+9d")
	first, ok := impl.NeverDecides(schedule)
	second, fine := impl.NeverDecides(schedule)
	all := first[:cap(first)]
	for i := range all {
		all[i] = [2]int{-7, -7}
	}
	if !ok || !fine || !slices.Equal(second, [][2]int{{3, 0}, {4, 0}}) || !slices.Equal(schedule, plan("3.0+5k 3.6+6d 4.0+5d 4.1+9d")) {
		t.Errorf("a result of NeverDecides shares memory: %v, %v", second, schedule)
	}
	scribbleRules(schedule)
	if !slices.Equal(second, [][2]int{{3, 0}, {4, 0}}) {
		t.Errorf("an argument of NeverDecides shares memory: %v", second)
	}
}
