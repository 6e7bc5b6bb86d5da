package tests

import (
	"fmt"
	"math"
	"regexp"
	"slices"
	"strings"
	"testing"

	"loop.example/g01035/impl"
)

// ruleShape describes the text of one Rule, up to the sizes of the numbers.
var ruleShape = regexp.MustCompile(`^([1-9][0-9]*)\.(0|[1-9][0-9]*)\+(0|[1-9][0-9]*)([ktd])$`)

func rule(series, event, days, act int) impl.Rule {
	return impl.Rule{Series: series, Event: event, Days: days, Act: act}
}

// sevenRules has Series with one Rule and with several, gaps between the Series and between the Events, and Acts and Days in no order.
func sevenRules() []impl.Rule {
	return []impl.Rule{
		rule(2, 3, 500, impl.ActKeep), rule(3, 0, 3650, impl.ActDestroy), rule(3, 1, 400, impl.ActTransfer), rule(3, 5, 900, impl.ActDestroy),
		rule(7, 0, 5, impl.ActDestroy), rule(7, 9, 5, impl.ActDestroy), rule(40, 2, 0, impl.ActTransfer),
	}
}

// fullSchedule has as many Rules as may be, some of which meet limits.
func fullSchedule() []impl.Rule {
	return []impl.Rule{
		rule(1, 0, 0, impl.ActKeep), rule(1, 9, impl.MaxPeriod, impl.ActDestroy), rule(5, 2, 10, impl.ActTransfer), rule(5, 3, 10, impl.ActTransfer),
		rule(5, 4, 10, impl.ActTransfer), rule(50, 0, 1, impl.ActKeep), rule(99, 0, impl.MaxPeriod, impl.ActDestroy), rule(99, 9, impl.MaxPeriod, impl.ActKeep),
	}
}

// schedulesOfKeys has a schedule for each set of some Series and Events that fits into one.
func schedulesOfKeys() [][]impl.Rule {
	var lists [][]impl.Rule
	for set := range 1 << 9 {
		var list []impl.Rule
		for i := range 9 {
			if set>>i&1 == 1 {
				series := []int{1, 2, 99}[i/3]
				event := []int{0, 4, 9}[i%3]
				list = append(list, rule(series, event, (7*i+set)%4*100, 1+(i*set+i)%3))
			}
		}
		if len(list) <= impl.MaxRules {
			lists = append(lists, list)
		}
	}
	return lists
}

func someSchedules() [][]impl.Rule {
	return append(schedulesOfKeys(), nil, []impl.Rule{}, sevenRules(), fullSchedule(),
		[]impl.Rule{rule(1, 0, 0, 1)}, []impl.Rule{rule(99, 9, impl.MaxPeriod, 3)}, []impl.Rule{rule(3, 0, 3650, 3), rule(3, 1, 400, 2)})
}

// wrongRules are invalid, most of them for one reason.
func wrongRules() []impl.Rule {
	wrong := []impl.Rule{
		{}, rule(0, 1, 10, 2), rule(100, 1, 10, 2), rule(3, -1, 10, 2), rule(3, 10, 10, 2), rule(3, 1, -1, 2),
		rule(3, 1, impl.MaxPeriod+1, 2), rule(3, 1, 10, 0), rule(3, 1, 10, 4), rule(3, 1, 10, -1), rule(0, 0, 0, 1), rule(1, 0, 0, 0),
	}
	for _, n := range extremes {
		wrong = append(wrong, rule(n, 1, 10, 2), rule(3, n, 10, 2), rule(3, 1, n, 2), rule(3, 1, 10, n), rule(n, n, n, n))
	}
	return wrong
}

// wrongSchedules are lists that are no schedules although each Rule in them is valid.
func wrongSchedules() [][]impl.Rule {
	return [][]impl.Rule{
		{rule(3, 1, 10, 2), rule(3, 1, 10, 2)},
		{rule(3, 1, 10, 2), rule(3, 1, 11, 3)},
		{rule(3, 0, 10, 2), rule(3, 1, 10, 2), rule(3, 1, 11, 2)},
		{rule(3, 2, 10, 2), rule(3, 1, 10, 2)},
		{rule(3, 9, 10, 1), rule(3, 0, 20, 3)},
		{rule(4, 1, 10, 2), rule(3, 2, 10, 2)},
		{rule(4, 1, 10, 2), rule(3, 1, 10, 2)},
		{rule(4, 1, 10, 2), rule(3, 0, 10, 2)},
		{rule(1, 0, 10, 2), rule(3, 0, 10, 2), rule(2, 5, 10, 2)},
		{rule(3, 0, 10, 2), rule(4, 0, 10, 2), rule(3, 1, 10, 2)},
		{rule(1, 1, 10, 2), rule(3, 0, 10, 2), rule(3, 0, 10, 2), rule(99, 0, 10, 2)},
		append(fullSchedule()[:7], rule(99, 9, 5, 1), rule(99, 9, 6, 1)),
		rulesInARow(impl.MaxRules + 1),
		rulesInARow(impl.MaxRules + 2),
	}
}

// rulesInARow makes as many Rules in ascending order.
func rulesInARow(count int) []impl.Rule {
	var list []impl.Rule
	for i := range count {
		list = append(list, rule(1+i/5, i%5, 10*i, 1+i%3))
	}
	return list
}

func validRule(r impl.Rule) bool {
	return r.Series > 0 && r.Series < 100 && r.Event > -1 && r.Event < 10 && r.Days > -1 && r.Days < 20001 && r.Act > 0 && r.Act < 4
}

// isScheduleByPairs compares each Rule with each one behind it, wherever they stand.
func isScheduleByPairs(list []impl.Rule) bool {
	for i, r := range list {
		if !validRule(r) {
			return false
		}
		for _, later := range list[i+1:] {
			if 10*r.Series+r.Event >= 10*later.Series+later.Event {
				return false
			}
		}
	}
	return len(list) <= 8
}

// withRule puts a Rule to those of a schedule, and sorts anew.
func withRule(list []impl.Rule, r impl.Rule) []impl.Rule {
	want := append(withoutRule(list, r.Series, r.Event), r)
	slices.SortFunc(want, func(a, b impl.Rule) int { return 10*(a.Series-b.Series) + a.Event - b.Event })
	return want
}

func withoutRule(list []impl.Rule, series, event int) []impl.Rule {
	var want []impl.Rule
	for _, r := range list {
		if r.Series != series || r.Event != event {
			want = append(want, r)
		}
	}
	return want
}

// textOfRules writes Rules as the document says, without looking whether they are a schedule.
func textOfRules(list []impl.Rule) string {
	var texts []string
	for _, r := range list {
		letter := map[int]string{1: "k", 2: "t", 3: "d"}[r.Act]
		texts = append(texts, fmt.Sprintf("%d.%d+%d%s", r.Series, r.Event, r.Days, letter))
	}
	return strings.Join(texts, " ")
}

// scheduleOfText reads a text by the shape of its Rules, without the functions of the program.
func scheduleOfText(s string) ([]impl.Rule, bool) {
	if s == "" {
		return nil, true
	}
	var list []impl.Rule
	for part := range strings.SplitSeq(s, " ") {
		numbers := ruleShape.FindStringSubmatch(part)
		if numbers == nil {
			return nil, false
		}
		act := map[string]int{"k": 1, "t": 2, "d": 3}[numbers[4]]
		list = append(list, rule(number(numbers[1]), number(numbers[2]), number(numbers[3]), act))
	}
	if !isScheduleByPairs(list) {
		return nil, false
	}
	return list, true
}

func checkRules(t *testing.T, list []impl.Rule, series int, want ...impl.Rule) {
	t.Helper()
	if rules, ok := impl.RulesFor(list, series); !ok || !slices.Equal(rules, want) {
		t.Errorf("RulesFor(%v, %d) = %v, %v", list, series, rules, ok)
	}
}

func checkPut(t *testing.T, list []impl.Rule, r impl.Rule, want []impl.Rule) {
	t.Helper()
	if changed, ok := impl.PutRule(list, r); !ok || !slices.Equal(changed, want) {
		t.Errorf("PutRule(%v, %v) = %v, %v", list, r, changed, ok)
	}
}

func checkNotPut(t *testing.T, list []impl.Rule, r impl.Rule) {
	t.Helper()
	if changed, ok := impl.PutRule(list, r); ok || len(changed) != 0 {
		t.Errorf("PutRule(%s, %v) = %v, %v", brief(list), r, changed, ok)
	}
}

func checkRuleDropped(t *testing.T, list []impl.Rule, series, event int, want []impl.Rule) {
	t.Helper()
	if shorter, ok := impl.DropRule(list, series, event); !ok || !slices.Equal(shorter, want) {
		t.Errorf("DropRule(%v, %d, %d) = %v, %v", list, series, event, shorter, ok)
	}
}

func checkRuleNotDropped(t *testing.T, list []impl.Rule, series, event int) {
	t.Helper()
	if shorter, ok := impl.DropRule(list, series, event); ok || len(shorter) != 0 {
		t.Errorf("DropRule(%s, %d, %d) = %v, %v", brief(list), series, event, shorter, ok)
	}
}

// checkStrength looks for the strongest Act and the longest period of a Series.
func checkStrength(t *testing.T, list []impl.Rule, series, act, days int) {
	t.Helper()
	if strongest, ok := impl.StrongestAct(list, series); !ok || strongest != act {
		t.Errorf("StrongestAct(%v, %d) = %d, %v", list, series, strongest, ok)
	}
	if longest, ok := impl.LongestPeriod(list, series); !ok || longest != days {
		t.Errorf("LongestPeriod(%v, %d) = %d, %v", list, series, longest, ok)
	}
}

func checkNoStrength(t *testing.T, list []impl.Rule, series int) {
	t.Helper()
	if act, ok := impl.StrongestAct(list, series); ok || act != 0 {
		t.Errorf("StrongestAct(%s, %d) = %d, %v", brief(list), series, act, ok)
	}
	if days, ok := impl.LongestPeriod(list, series); ok || days != 0 {
		t.Errorf("LongestPeriod(%s, %d) = %d, %v", brief(list), series, days, ok)
	}
}

// checkNoSeries hands a number that is no Series to each function that takes one.
func checkNoSeries(t *testing.T, list []impl.Rule, series int) {
	t.Helper()
	if rules, ok := impl.RulesFor(list, series); ok || len(rules) != 0 {
		t.Errorf("RulesFor(%s, %d) = %v, %v", brief(list), series, rules, ok)
	}
	checkNoStrength(t, list, series)
	for event := -1; event <= 10; event++ {
		checkRuleNotDropped(t, list, series, event)
		checkNotPut(t, list, rule(series, event, 10, 2))
	}
}

func checkSeriesIn(t *testing.T, list []impl.Rule, want ...int) {
	t.Helper()
	if series, ok := impl.SeriesIn(list); !ok || !slices.Equal(series, want) {
		t.Errorf("SeriesIn(%v) = %v, %v", list, series, ok)
	}
}

// checkScheduleText looks that a schedule has a text and is read back from it.
func checkScheduleText(t *testing.T, list []impl.Rule, want string) {
	t.Helper()
	if text, ok := impl.ScheduleText(list); !ok || text != want {
		t.Errorf("ScheduleText(%v) = %q, %v", list, text, ok)
	}
	if back, ok := impl.ParseSchedule(want); !ok || !slices.Equal(back, list) {
		t.Errorf("ParseSchedule(%q) = %v, %v", want, back, ok)
	}
}

// checkScheduleParse compares ParseSchedule with the shape of the texts.
func checkScheduleParse(t *testing.T, s string) {
	t.Helper()
	want, valid := scheduleOfText(s)
	if list, ok := impl.ParseSchedule(s); ok != valid || !slices.Equal(list, want) {
		t.Errorf("ParseSchedule(%.80q) = %v, %v", s, list, ok)
	}
}

func checkScheduleNotParsed(t *testing.T, s string) {
	t.Helper()
	if list, ok := impl.ParseSchedule(s); ok || len(list) != 0 {
		t.Errorf("ParseSchedule(%.80q) = %v, %v", s, list, ok)
	}
}

// checkNoScheduleOf hands a list that is no schedule to each function.
func checkNoScheduleOf(t *testing.T, list []impl.Rule) {
	t.Helper()
	if impl.IsSchedule(list) {
		t.Errorf("%s is a schedule", brief(list))
	}
	for _, series := range []int{-1, 0, 1, 2, 3, 4, 50, 99, 100} {
		checkNoSeries(t, list, series)
	}
	for _, r := range list[:min(len(list), 20)] {
		checkNoSeries(t, list, r.Series)
		checkNotPut(t, list, r)
		checkRuleNotDropped(t, list, r.Series, r.Event)
	}
	if series, ok := impl.SeriesIn(list); ok || len(series) != 0 {
		t.Errorf("SeriesIn(%s) = %v, %v", brief(list), series, ok)
	}
	if text, ok := impl.ScheduleText(list); ok || text != "" {
		t.Errorf("ScheduleText(%s) = %q, %v", brief(list), text, ok)
	}
	checkScheduleNotParsed(t, textOfRules(list))
}

func TestPromise4Acts(t *testing.T) {
	if impl.MaxRules != 8 || impl.MaxPeriod != 20000 || impl.ActKeep != 1 || impl.ActTransfer != 2 || impl.ActDestroy != 3 {
		t.Error("the constants of the chapter are changed")
	}
}

func TestPromise4IsRule(t *testing.T) {
	for _, series := range []int{-1, 0, 1, 2, 50, 98, 99, 100} {
		for event := -2; event <= 11; event++ {
			for _, days := range []int{-1, 0, 1, 400, impl.MaxPeriod - 1, impl.MaxPeriod, impl.MaxPeriod + 1} {
				for act := -1; act <= 5; act++ {
					r := rule(series, event, days, act)
					if impl.IsRule(r) != validRule(r) || impl.IsSchedule([]impl.Rule{r}) != validRule(r) {
						t.Errorf("IsRule(%v)", r)
					}
				}
			}
		}
	}
	for _, r := range wrongRules() {
		if impl.IsRule(r) {
			t.Errorf("IsRule(%v)", r)
		}
	}
}

func TestPromise4IsSchedule(t *testing.T) {
	for _, list := range someSchedules() {
		if !isScheduleByPairs(list) {
			t.Fatal("the test has a wrong schedule", list)
		}
		if !impl.IsSchedule(list) {
			t.Errorf("%v is no schedule", list)
		}
	}
	for count := range 30 {
		if impl.IsSchedule(rulesInARow(count)) != (count <= 8) {
			t.Error("IsSchedule of", count, "Rules")
		}
	}
	if impl.IsSchedule(make([]impl.Rule, 1<<20)) {
		t.Error("very many are a schedule")
	}
}

func TestPromise4IsScheduleOfAllShortLists(t *testing.T) {
	var all []impl.Rule
	for _, series := range []int{0, 1, 2, 99} {
		for _, event := range []int{-1, 0, 1, 9, 10} {
			all = append(all, rule(series, event, 10, 2))
		}
	}
	all = append(all, rule(1, 0, 20001, 2), rule(1, 1, 11, 3), rule(2, 0, 10, 4), rule(99, 9, 20000, 1))
	look := func(list ...impl.Rule) {
		if impl.IsSchedule(list) != isScheduleByPairs(list) {
			t.Errorf("IsSchedule(%v)", list)
		}
	}
	for _, a := range all {
		look(a)
		for _, b := range all {
			look(a, b)
			for _, c := range all {
				look(a, b, c)
			}
		}
	}
}

func TestPromise4ListsThatAreNoSchedules(t *testing.T) {
	for _, list := range wrongSchedules() {
		for _, r := range list {
			if !impl.IsRule(r) {
				t.Errorf("%v is no Rule", r)
			}
		}
		checkNoScheduleOf(t, list)
	}
	for _, r := range wrongRules() {
		checkNoScheduleOf(t, []impl.Rule{r})
		checkNoScheduleOf(t, []impl.Rule{rule(1, 0, 10, 2), r})
		checkNoScheduleOf(t, []impl.Rule{r, rule(99, 9, 10, 2)})
		checkNoScheduleOf(t, []impl.Rule{rule(1, 0, 10, 2), r, rule(99, 9, 10, 2)})
	}
	checkNoScheduleOf(t, make([]impl.Rule, 1000))
}

// TestPromise4NoListBecomesASchedule has lists that are no schedules, and would be some after the change.
func TestPromise4NoListBecomesASchedule(t *testing.T) {
	checkRuleNotDropped(t, []impl.Rule{rule(3, 1, 10, 2), rule(3, 1, 20, 2)}, 3, 1)
	checkRuleNotDropped(t, []impl.Rule{rule(3, 1, 10, 2), rule(3, 0, 20, 2)}, 3, 0)
	checkRuleNotDropped(t, []impl.Rule{rule(3, 1, 10, 2), rule(2, 5, 20, 2)}, 2, 5)
	checkRuleNotDropped(t, []impl.Rule{rule(100, 1, 10, 2)}, 100, 1)
	checkRuleNotDropped(t, []impl.Rule{{}}, 0, 0)
	checkRuleNotDropped(t, []impl.Rule{rule(3, 1, 10, 4)}, 3, 1)
	checkRuleNotDropped(t, rulesInARow(9), 2, 3)
	checkNotPut(t, []impl.Rule{rule(3, 1, 10, 4)}, rule(3, 1, 10, 3))
	checkNotPut(t, []impl.Rule{rule(3, 1, impl.MaxPeriod+1, 2)}, rule(3, 1, impl.MaxPeriod, 2))
	checkNotPut(t, rulesInARow(9), rule(1, 0, 10, 2))
}

func TestPromise4TheEmptySchedule(t *testing.T) {
	for _, empty := range [][]impl.Rule{nil, {}, sevenRules()[:0]} {
		if !impl.IsSchedule(empty) {
			t.Error("no Rules are no schedule")
		}
		checkScheduleText(t, empty, "")
		checkSeriesIn(t, empty)
		checkPut(t, empty, rule(3, 0, 3650, 3), []impl.Rule{rule(3, 0, 3650, 3)})
		for _, series := range []int{1, 3, 99} {
			checkRules(t, empty, series)
			checkNoStrength(t, empty, series)
			checkRuleNotDropped(t, empty, series, 0)
		}
		for _, series := range append([]int{0, 100}, extremes...) {
			checkNoSeries(t, empty, series)
		}
	}
}

func TestPromise4RulesFor(t *testing.T) {
	list := sevenRules()
	checkRules(t, list, 2, list[0])
	checkRules(t, list, 3, list[1], list[2], list[3])
	checkRules(t, list, 7, list[4], list[5])
	checkRules(t, list, 40, list[6])
	for _, series := range []int{1, 4, 6, 8, 39, 41, 98, 99} {
		checkRules(t, list, series)
	}
	full := fullSchedule()
	checkRules(t, full, 1, full[0], full[1])
	checkRules(t, full, 99, full[6], full[7])
	checkRules(t, rulesInARow(8), 2, rule(2, 0, 50, 3), rule(2, 1, 60, 1), rule(2, 2, 70, 2))
	for _, series := range append([]int{0, 100}, extremes...) {
		checkNoSeries(t, list, series)
		checkNoSeries(t, full, series)
	}
}

func TestPromise4PutRuleInItsPlace(t *testing.T) {
	list := sevenRules()
	between := func(place int, r impl.Rule) {
		t.Helper()
		checkPut(t, list, r, slices.Insert(slices.Clone(list), place, r))
	}
	between(0, rule(1, 9, 10, 2))
	between(0, rule(2, 0, 10, 2))
	between(1, rule(2, 4, 10, 2))
	between(1, rule(2, 9, 10, 2))
	between(3, rule(3, 2, 10, 2))
	between(4, rule(3, 9, 10, 2))
	between(4, rule(4, 5, 10, 2))
	between(5, rule(7, 1, 10, 2))
	between(6, rule(40, 1, 10, 2))
	between(7, rule(40, 3, 10, 2))
	between(7, rule(41, 0, 10, 2))
	between(7, rule(99, 9, 10, 2))
}

func TestPromise4PutRuleForTheSameEvent(t *testing.T) {
	for _, list := range [][]impl.Rule{sevenRules(), fullSchedule(), {rule(3, 1, 10, 2)}} {
		for i, old := range list {
			for _, days := range []int{0, 7, old.Days, impl.MaxPeriod} {
				for act := 1; act <= 3; act++ {
					r := rule(old.Series, old.Event, days, act)
					want := slices.Clone(list)
					want[i] = r
					checkPut(t, list, r, want)
				}
			}
			checkPut(t, list, old, list)
			for _, wrong := range []impl.Rule{rule(old.Series, old.Event, -1, 2), rule(old.Series, old.Event, 20001, 2), rule(old.Series, old.Event, 5, 0), rule(old.Series, old.Event, 5, 4)} {
				checkNotPut(t, list, wrong)
			}
		}
	}
}

func TestPromise4PutRuleIntoAFullSchedule(t *testing.T) {
	full := fullSchedule()
	checkPut(t, slices.Delete(fullSchedule(), 0, 1), full[0], full)
	checkPut(t, slices.Delete(fullSchedule(), 4, 5), full[4], full)
	checkPut(t, full[:7], full[7], full)
	for series := 1; series <= 99; series++ {
		for event := 0; event <= 9; event++ {
			if r := rule(series, event, 10, 2); !slices.ContainsFunc(full, func(old impl.Rule) bool { return old.Series == series && old.Event == event }) {
				checkNotPut(t, full, r)
			} else {
				checkPut(t, full, r, withRule(full, r))
			}
		}
	}
}

func TestPromise4PutRuleRefuses(t *testing.T) {
	for _, r := range wrongRules() {
		checkNotPut(t, nil, r)
		checkNotPut(t, []impl.Rule{rule(3, 1, 10, 2)}, r)
		checkNotPut(t, sevenRules(), r)
		checkNotPut(t, fullSchedule(), r)
	}
}

func TestPromise4DropRule(t *testing.T) {
	for _, list := range [][]impl.Rule{sevenRules(), fullSchedule(), {rule(3, 1, 10, 2)}, {rule(1, 0, 0, 1)}, {rule(99, 9, 20000, 3)}} {
		for series := -1; series <= 101; series++ {
			for event := -1; event <= 11; event++ {
				want := withoutRule(list, series, event)
				if len(want) == len(list) {
					checkRuleNotDropped(t, list, series, event)
				} else {
					checkRuleDropped(t, list, series, event, want)
				}
			}
		}
		for _, n := range extremes {
			checkRuleNotDropped(t, list, n, 1)
			checkRuleNotDropped(t, list, list[0].Series, n)
			checkRuleNotDropped(t, list, n, n)
		}
	}
}

func TestPromise4StrongestActAndLongestPeriod(t *testing.T) {
	list := sevenRules()
	checkStrength(t, list, 2, impl.ActKeep, 500)
	checkStrength(t, list, 3, impl.ActTransfer, 3650)
	checkStrength(t, list, 7, impl.ActDestroy, 5)
	checkStrength(t, list, 40, impl.ActTransfer, 0)
	checkStrength(t, fullSchedule(), 1, impl.ActKeep, impl.MaxPeriod)
	checkStrength(t, fullSchedule(), 5, impl.ActTransfer, 10)
	checkStrength(t, fullSchedule(), 50, impl.ActKeep, 1)
	checkStrength(t, fullSchedule(), 99, impl.ActKeep, impl.MaxPeriod)
	checkStrength(t, []impl.Rule{rule(3, 0, 0, 3), rule(3, 1, 0, 3)}, 3, impl.ActDestroy, 0)
	for _, series := range append([]int{0, 1, 4, 6, 8, 39, 41, 99, 100}, extremes...) {
		checkNoStrength(t, list, series)
	}
	orders := [][3]int{{1, 2, 3}, {1, 3, 2}, {2, 1, 3}, {2, 3, 1}, {3, 1, 2}, {3, 2, 1}}
	for _, a := range orders {
		for _, d := range orders {
			three := []impl.Rule{rule(4, 9, 9000, 1), rule(5, 0, d[0], a[0]), rule(5, 3, d[1], a[1]), rule(5, 9, d[2], a[2]), rule(6, 0, 9000, 1)}
			checkStrength(t, three, 5, 1, 3)
			checkStrength(t, three[:3], 5, min(a[0], a[1]), max(d[0], d[1]))
		}
	}
}

func TestPromise4SeriesIn(t *testing.T) {
	checkSeriesIn(t, sevenRules(), 2, 3, 7, 40)
	checkSeriesIn(t, sevenRules()[1:4], 3)
	checkSeriesIn(t, fullSchedule(), 1, 5, 50, 99)
	checkSeriesIn(t, rulesInARow(8), 1, 2)
	checkSeriesIn(t, rulesInARow(1), 1)
	var each []impl.Rule
	for i := range 8 {
		each = append(each, rule(92+i, 9-i, 0, 3))
	}
	checkSeriesIn(t, each, 92, 93, 94, 95, 96, 97, 98, 99)
}

func TestPromise4ScheduleText(t *testing.T) {
	for want, list := range map[string][]impl.Rule{
		"3.0+3650d 3.1+400t": {rule(3, 0, 3650, impl.ActDestroy), rule(3, 1, 400, impl.ActTransfer)},
		"1.0+0k":             {rule(1, 0, 0, impl.ActKeep)},
		"99.9+20000d":        {rule(99, 9, impl.MaxPeriod, impl.ActDestroy)},
		"2.3+500k 3.0+3650d 3.1+400t 3.5+900d 7.0+5d 7.9+5d 40.2+0t":                sevenRules(),
		"1.0+0k 1.9+20000d 5.2+10t 5.3+10t 5.4+10t 50.0+1k 99.0+20000d 99.9+20000k": fullSchedule(),
		"90.9+20000t 91.9+20000t 92.9+20000t 93.9+20000t 94.9+20000t 95.9+20000t":   widest(90, 6),
		"98.9+20000t 99.9+20000t": widest(98, 2),
		"10.9+20000t 11.9+20000t 12.9+20000t 13.9+20000t 14.9+20000t 15.9+20000t 16.9+20000t 17.9+20000t": widest(10, 8),
	} {
		checkScheduleText(t, list, want)
	}
}

// widest makes as many Rules with the longest texts.
func widest(series, count int) []impl.Rule {
	var list []impl.Rule
	for i := range count {
		list = append(list, rule(series+i, 9, 20000, 2))
	}
	return list
}

func TestPromise4ScheduleIsReadBackFromItsText(t *testing.T) {
	for _, list := range someSchedules() {
		checkScheduleText(t, list, textOfRules(list))
	}
	for series := 1; series <= 99; series++ {
		for event := 0; event <= 9; event++ {
			for _, days := range []int{0, 1, 9, 10, 365, 3650, 19999, 20000} {
				list := []impl.Rule{rule(series, event, days, 1+(series+event)%3)}
				checkScheduleText(t, list, textOfRules(list))
			}
		}
	}
	for days := range impl.MaxPeriod + 1 {
		list := []impl.Rule{rule(3, 1, days, 1+days%3), rule(4, 0, impl.MaxPeriod-days, 3)}
		checkScheduleText(t, list, textOfRules(list))
	}
}

func TestPromise4SchedulesOfAllKeys(t *testing.T) {
	for _, list := range schedulesOfKeys() {
		bySeries := map[int][]impl.Rule{}
		for _, r := range list {
			bySeries[r.Series] = append(bySeries[r.Series], r)
		}
		var series []int
		for _, s := range []int{1, 2, 3, 99} {
			rules := bySeries[s]
			checkRules(t, list, s, rules...)
			if len(rules) == 0 {
				checkNoStrength(t, list, s)
				continue
			}
			series = append(series, s)
			act := slices.MinFunc(rules, func(a, b impl.Rule) int { return a.Act - b.Act }).Act
			days := slices.MaxFunc(rules, func(a, b impl.Rule) int { return a.Days - b.Days }).Days
			checkStrength(t, list, s, act, days)
		}
		checkSeriesIn(t, list, series...)
		for _, s := range []int{1, 2, 3, 99} {
			for _, event := range []int{0, 3, 4, 9} {
				checkPutAndDrop(t, list, s, event)
			}
		}
	}
}

// checkPutAndDrop puts a Rule for a Series and an Event, and drops it again.
func checkPutAndDrop(t *testing.T, list []impl.Rule, series, event int) {
	t.Helper()
	r := rule(series, event, 77, 2)
	want, without := withRule(list, r), withoutRule(list, series, event)
	if len(want) > 8 {
		checkNotPut(t, list, r)
	} else {
		checkPut(t, list, r, want)
		checkRuleDropped(t, want, series, event, without)
	}
	if len(without) < len(list) {
		checkRuleDropped(t, list, series, event, without)
	} else {
		checkRuleNotDropped(t, list, series, event)
	}
}

func TestPromise4ParseScheduleRefuses(t *testing.T) {
	for _, s := range []string{
		" ", "  ", ".", "+", "d", ".+", ".+d", "3", "3.", "3.0", "3.0+", "3.0+5", "3.+5d", ".0+5d", "3.0+d", "3+5d", "3.05d", "30+5d", "0+5d", "3.0d",
		"03.0+5d", "3.00+5d", "3.01+5d", "3.0+05d", "3.0+00d", "003.1+5d", "3.0+5d 04.0+5d", "3.0+5d 4.01+5d", "3.0+5d 4.0+05d",
		"+3.0+5d", "3.+0+5d", "3.0++5d", "-3.0+5d", "3.-1+5d", "3.-0+5d", "3.0+-5d", "3.0+-0d", "3.0-5d",
		"3.0+5d  3.1+5d", "3.0+5d   3.1+5d", " 3.0+5d", "3.0+5d ", " 3.0+5d 3.1+5d", "3.0+5d 3.1+5d ", "3.0+5d\t3.1+5d", "3.0+5d\n", "3.0+5d,3.1+5d", "3.0+5d3.1+5d",
		"3 .0+5d", "3. 0+5d", "3.0 +5d", "3.0+ 5d", "3.0+5 d", "3.0+5x", "3.0+5D", "3.0+5K", "3.0+5T", "3.0+5dd", "3.0+5kd", "3.0+5d5", "d3.0+5", "3.0+d5", "3d.0+5", "3.0d+5",
		"3.0.0+5d", "3..0+5d", "3.0+5+5d", "3,0+5d", "3.0+5.d", "3.0+5+d", "3.0+5.0d", "3+0.5d", "3.0.5d", "3+0+5d",
		"3.0+5d 3.0+5d", "3.0+5d 3.0+6d", "3.0+5d 3.0+5k", "3.1+5d 3.0+5d", "4.0+5d 3.0+5d", "4.0+5d 3.1+5d", "3.0+5d 4.0+5d 3.1+5d", "10.0+5d 9.0+5d",
		"0.0+5d", "100.0+5d", "3.10+5d", "3.0+20001d", "3.0+5d 100.0+5d", "3.0+999999d", "3.0+1000000d", "1000000.0+5d",
		"18446744073709551619.0+5d", "3.18446744073709551616+5d", "3.0+18446744073709551621d", "0x3.0+5d", "3.0+1e3d", "3.0+1_0d",
		"3.0+5d\x00", "\x003.0+5d", "3.0+5\x00", "3.0+5\xff", "\xff", "３.0+5d", "3.0+5ｄ", "3.0+5\x01",
		"1.0+1d 1.1+1d 1.2+1d 1.3+1d 1.4+1d 1.5+1d 1.6+1d 1.7+1d 1.8+1d", "1.0+1d 1.1+1d 1.2+1d 1.3+1d 1.4+1d 1.5+1d 1.6+1d 1.7+1d 1.7+1d",
		"1.0+1d 1.1+1d 1.2+1d 1.3+1d 1.4+1d 1.5+1d 1.6+1d 1.7+1d ", "1.0+1d" + strings.Repeat(" 1.1+1d", 100),
	} {
		checkScheduleNotParsed(t, s)
	}
}

func TestPromise4ParseScheduleOfLongTexts(t *testing.T) {
	one := "3.0+5d"
	for _, length := range []int{impl.MaxString - 1, impl.MaxString, impl.MaxString + 1, 1 << 20} {
		rest := length - len(one)
		checkScheduleNotParsed(t, one+strings.Repeat(" ", rest))
		checkScheduleNotParsed(t, strings.Repeat(" ", rest)+one)
		checkScheduleNotParsed(t, strings.Repeat("0", rest)+one)
		checkScheduleNotParsed(t, "3.0+"+strings.Repeat("0", rest)+"5d")
		checkScheduleNotParsed(t, "3.0+"+strings.Repeat("5", rest+1)+"d")
		checkScheduleNotParsed(t, "3.0+5"+strings.Repeat("d", rest+1))
		checkScheduleNotParsed(t, strings.Repeat(" ", length))
		checkScheduleNotParsed(t, strings.Repeat("d", length))
	}
}

func TestPromise4ParseScheduleOfShortTexts(t *testing.T) {
	for _, s := range textsOver("1.+0dk ", 7) {
		checkScheduleParse(t, s)
	}
	for _, s := range textsOver("1.+0-d x", 5) {
		checkScheduleParse(t, "1."+s)
		checkScheduleParse(t, "9.9+"+s)
		checkScheduleParse(t, "9.9+9t "+s)
		checkScheduleParse(t, s+"9.9+9t")
		checkScheduleParse(t, "1.0+1d 1"+s+" 9.9+9t")
	}
}

func TestPromise4ParseScheduleOfChangedTexts(t *testing.T) {
	for _, text := range []string{"3.0+3650d 3.1+400t", "1.0+0k", "99.9+20000d", textOfRules(sevenRules()), textOfRules(fullSchedule())} {
		for i := range len(text) {
			checkScheduleParse(t, text[:i])
			checkScheduleParse(t, text[i:])
			checkScheduleParse(t, text[:i]+text[i+1:])
			for c := range 256 {
				sign := string([]byte{byte(c)})
				checkScheduleParse(t, text[:i]+sign+text[i+1:])
				checkScheduleParse(t, text[:i]+sign+text[i:])
				checkScheduleParse(t, text+sign)
			}
		}
		checkScheduleParse(t, text+" ")
		checkScheduleParse(t, text+" 99.9+1k")
	}
}

// useSchedule calls each function that takes a schedule.
func useSchedule(list []impl.Rule, numbers []int) {
	for _, n := range numbers {
		impl.IsRule(rule(n, n, n, n))
		impl.RulesFor(list, n)
		impl.StrongestAct(list, n)
		impl.LongestPeriod(list, n)
		for _, event := range numbers {
			impl.PutRule(list, rule(n, event, 10, 2))
			impl.PutRule(list, rule(3, 1, n, event))
			impl.DropRule(list, n, event)
		}
	}
	impl.IsSchedule(list)
	impl.SeriesIn(list)
	impl.ScheduleText(list)
}

func TestPromise29SchedulesReturnForAllArguments(t *testing.T) {
	numbers := append([]int{0, 1, 2, 3, 4, 9, 10, 99, 100, 20000}, extremes...)
	lists := append(wrongSchedules(), nil, sevenRules(), fullSchedule(), make([]impl.Rule, 1<<16))
	for _, r := range wrongRules() {
		lists = append(lists, []impl.Rule{r}, []impl.Rule{rule(1, 0, 10, 2), r, r, rule(99, 9, 10, 2)})
	}
	for _, list := range lists {
		useSchedule(list, numbers)
	}
	useSchedule(sevenRules(), []int{math.MinInt, math.MaxInt})
	for _, s := range []string{"\xff\xfe", ".\x00+", strings.Repeat(".", 1<<20), strings.Repeat("+", 1<<20), strings.Repeat(" ", 1<<20), strings.Repeat("9", 1<<20)} {
		checkScheduleNotParsed(t, s)
	}
}

func TestPromise29SchedulesAreNotModified(t *testing.T) {
	numbers := []int{-1, 0, 1, 2, 3, 4, 5, 7, 9, 10, 40, 50, 99, 100}
	lists := append(wrongSchedules(), fullSchedule(), []impl.Rule{}, []impl.Rule{{}}, []impl.Rule{rule(3, 1, 10, 2), {}})
	for length := range len(sevenRules()) + 1 {
		lists = append(lists, sevenRules()[:length], append(make([]impl.Rule, 0, 20), sevenRules()[:length]...))
	}
	for _, list := range lists {
		length, all := len(list), list[:cap(list)]
		kept := slices.Clone(all)
		useSchedule(list, numbers)
		if !slices.Equal(all, kept) {
			t.Errorf("the list of %d Rules changed to %v", length, all)
		}
	}
}

func TestPromise29RulesBehindTheLengthAreNotUsed(t *testing.T) {
	for length := range len(sevenRules()) {
		all := sevenRules()
		list := all[:length]
		for _, r := range all[length:] {
			checkRuleNotDropped(t, list, r.Series, r.Event)
			checkPut(t, list, r, withRule(list, r))
		}
		for i := length; i < len(all); i++ {
			all[i] = rule(-1, -1, -1, -1)
		}
		if !impl.IsSchedule(list) || impl.IsSchedule(all) {
			t.Error("the length of a schedule is not kept to")
		}
		checkScheduleText(t, list, textOfRules(list))
		checkSeriesIn(t, list, []int{2, 3, 7, 40}[:[]int{0, 1, 2, 2, 2, 3, 3}[length]]...)
		checkRules(t, list, 3, list[min(1, length):min(4, length)]...)
	}
}

// checkScheduleUnshared looks that neither a schedule nor a second result changes with the memory of the first one.
func checkScheduleUnshared(t *testing.T, length int, act func([]impl.Rule) ([]impl.Rule, bool)) {
	t.Helper()
	all := sevenRules()
	list := all[:length]
	first, ok := act(list)
	second, fine := act(list)
	want := slices.Clone(second)
	scribbleRules(first)
	if !ok || !fine || !slices.Equal(all, sevenRules()) || !slices.Equal(second, want) {
		t.Errorf("a result of %d Rules shares memory: %v, %v", length, all, second)
	}
	scribbleRules(all)
	if !slices.Equal(second, want) {
		t.Errorf("an argument of %d Rules shares memory: %v", length, second)
	}
}

// scribbleRules overwrites a list of Rules as far as its memory reaches.
func scribbleRules(list []impl.Rule) {
	all := list[:cap(list)]
	for i := range all {
		all[i] = rule(-7, -7, -7, -7)
	}
}

func TestPromise29SchedulesShareNoMemory(t *testing.T) {
	for length := range len(sevenRules()) + 1 {
		for _, r := range append(sevenRules(), rule(1, 0, 10, 2), rule(3, 2, 10, 2), rule(99, 9, 10, 2)) {
			checkScheduleUnshared(t, length, func(list []impl.Rule) ([]impl.Rule, bool) { return impl.PutRule(list, r) })
			checkScheduleUnshared(t, length, func(list []impl.Rule) ([]impl.Rule, bool) { return impl.RulesFor(list, r.Series) })
		}
		for _, r := range sevenRules()[:length] {
			checkScheduleUnshared(t, length, func(list []impl.Rule) ([]impl.Rule, bool) { return impl.DropRule(list, r.Series, r.Event) })
		}
		checkScheduleUnshared(t, length, func([]impl.Rule) ([]impl.Rule, bool) { return impl.ParseSchedule("3.0+3650d 3.1+400t") })
	}
}

func TestPromise29SuccessiveSchedulesShareNoMemory(t *testing.T) {
	base, _ := impl.PutRule(sevenRules()[:5], rule(8, 0, 10, 2))
	left, _ := impl.PutRule(base, rule(9, 0, 20, 1))
	right, _ := impl.PutRule(base, rule(10, 0, 30, 3))
	checkRules(t, left, 9, rule(9, 0, 20, 1))
	checkRules(t, right, 10, rule(10, 0, 30, 3))
	shorter, _ := impl.DropRule(left, 9, 0)
	other, _ := impl.PutRule(shorter, rule(99, 9, 40, 3))
	checkRules(t, left, 9, rule(9, 0, 20, 1))
	checkSeriesIn(t, other, 2, 3, 7, 8, 99)
	checkSeriesIn(t, base, 2, 3, 7, 8)
	changed, _ := impl.PutRule(base, rule(8, 0, 5, 3))
	checkRules(t, base, 8, rule(8, 0, 10, 2))
	checkRules(t, changed, 8, rule(8, 0, 5, 3))
}

func TestPromise29SeriesOfAScheduleShareNoMemory(t *testing.T) {
	list := sevenRules()
	first, _ := impl.SeriesIn(list)
	second, _ := impl.SeriesIn(list)
	all := first[:cap(first)]
	for i := range all {
		all[i] = -7
	}
	if !slices.Equal(second, []int{2, 3, 7, 40}) || !slices.Equal(list, sevenRules()) {
		t.Errorf("two results share memory: %v, %v", first, second)
	}
}
