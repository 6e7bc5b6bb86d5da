package tests

import (
	"fmt"
	"math"
	"regexp"
	"slices"
	"strconv"
	"strings"
	"testing"

	"loop.example/g01035/impl"
)

// recordShape describes the texts that RecordText may write, up to the sizes of the numbers.
var recordShape = regexp.MustCompile(`^([1-9][0-9]*)s([1-9][0-9]*)@(0|[1-9][0-9]*)((?: [1-9]@(?:0|[1-9][0-9]*))*)$`)

// extremes are numbers that are valid nowhere.
var extremes = []int{math.MinInt, math.MinInt32, -20000, -1, 20001, math.MaxInt32, math.MaxInt}

// brief shows the beginning of what may be very long, as a precision would not cut a list off.
func brief(x any) string {
	return fmt.Sprintf("%.300s", fmt.Sprint(x))
}

func record(id, series, made int, events ...impl.Event) impl.Record {
	return impl.Record{Id: id, Series: series, Made: made, Events: events}
}

// kindsOn makes Events of several Kinds on the same day.
func kindsOn(day int, kinds ...int) []impl.Event {
	var events []impl.Event
	for _, kind := range kinds {
		events = append(events, impl.Event{Kind: kind, Day: day})
	}
	return events
}

func sameRecord(a, b impl.Record) bool {
	return a.Id == b.Id && a.Series == b.Series && a.Made == b.Made && slices.Equal(a.Events, b.Events)
}

// textOfRecord writes a Record as the document says, without looking whether it is valid.
func textOfRecord(r impl.Record) string {
	text := fmt.Sprintf("%ds%d@%d", r.Id, r.Series, r.Made)
	for _, e := range r.Events {
		text += fmt.Sprintf(" %d@%d", e.Kind, e.Day)
	}
	return text
}

// number reads a number of which only the digits are known to be some; a long one is too great anyway.
func number(digits string) int {
	n, err := strconv.Atoi(digits)
	if err != nil {
		return math.MaxInt
	}
	return n
}

// recordOfText reads a text by its shape, without the functions of the program.
func recordOfText(s string) (impl.Record, bool) {
	parts := recordShape.FindStringSubmatch(s)
	if parts == nil {
		return impl.Record{}, false
	}
	r := record(number(parts[1]), number(parts[2]), number(parts[3]))
	ok := r.Id <= 999 && r.Series <= 99 && r.Made <= 20000
	kind := 0
	for _, part := range strings.Fields(parts[4]) {
		e := impl.Event{Kind: number(part[:1]), Day: number(part[2:])}
		ok = ok && e.Kind > kind && e.Day >= r.Made && e.Day <= 20000
		kind = e.Kind
		r.Events = append(r.Events, e)
	}
	if !ok || len(r.Events) > 6 {
		return impl.Record{}, false
	}
	return r, true
}

// edgeRecords are valid ones, each of which meets some limit or is ordinary.
func edgeRecords() []impl.Record {
	return []impl.Record{
		record(12, 3, 100, impl.Event{Kind: 1, Day: 140}, impl.Event{Kind: 4, Day: 200}),
		record(12, 3, 100, impl.Event{Kind: 1, Day: 240}, impl.Event{Kind: 4, Day: 200}),
		record(1, 1, 0),
		record(999, 99, impl.MaxDay),
		record(999, 99, impl.MaxDay, kindsOn(impl.MaxDay, 1, 2, 3, 4, 5, 6)...),
		record(999, 99, impl.MaxDay, kindsOn(impl.MaxDay, 4, 5, 6, 7, 8, 9)...),
		record(1, 1, 0, kindsOn(0, 1)...),
		record(1, 1, 0, kindsOn(impl.MaxDay, 9)...),
		record(500, 50, 100, kindsOn(100, 1, 9)...),
		record(7, 8, 9, impl.Event{Kind: 2, Day: 12}, impl.Event{Kind: 5, Day: 9}, impl.Event{Kind: 6, Day: 11}),
	}
}

// wrongEvents are invalid by themselves.
func wrongEvents() []impl.Event {
	wrong := []impl.Event{{}, {Kind: 0, Day: 100}, {Kind: 10, Day: 100}, {Kind: 1, Day: -1}, {Kind: 1, Day: impl.MaxDay + 1}, {Kind: 0, Day: -1}}
	for _, n := range extremes {
		wrong = append(wrong, impl.Event{Kind: n, Day: 100}, impl.Event{Kind: 5, Day: n}, impl.Event{Kind: n, Day: n})
	}
	return wrong
}

// wrongRecords are invalid, each for one reason.
func wrongRecords() []impl.Record {
	wrong := []impl.Record{
		{}, record(0, 3, 100), record(1000, 3, 100), record(12, 0, 100), record(12, 100, 100), record(12, 3, -1), record(12, 3, impl.MaxDay+1),
		record(12, 3, 100, kindsOn(99, 1)...), record(12, 3, impl.MaxDay, kindsOn(impl.MaxDay-1, 1)...), record(12, 3, 1, kindsOn(0, 1)...),
		record(12, 3, 100, impl.Event{Kind: 1, Day: 140}, impl.Event{Kind: 4, Day: 99}),
		record(12, 3, 100, kindsOn(140, 1, 1)...), record(12, 3, 100, kindsOn(140, 2, 1)...),
		record(12, 3, 100, kindsOn(140, 1, 3, 3)...), record(12, 3, 100, kindsOn(140, 1, 3, 2)...),
		record(12, 3, 100, kindsOn(140, 1, 2, 3, 4, 5, 6, 7)...),
		record(12, 3, 100, kindsOn(140, 1, 2, 3, 4, 5, 6, 7, 8, 9)...),
		record(12, 3, 100, make([]impl.Event, 1000)...),
	}
	for _, n := range extremes {
		wrong = append(wrong, record(n, 3, 100), record(12, n, 100), record(12, 3, n), record(n, n, n))
	}
	for _, e := range wrongEvents() {
		wrong = append(wrong, record(12, 3, 0, e))
		wrong = append(wrong, record(12, 3, 0, impl.Event{Kind: 9, Day: 100}, e), record(12, 3, 0, e, impl.Event{Kind: 9, Day: 100}))
	}
	return wrong
}

// recordsOfAllKinds has a Record for each set of Kinds that fits into one.
func recordsOfAllKinds() []impl.Record {
	var list []impl.Record
	for set := range 1 << 9 {
		r := record(1+set, 1+set%99, 100)
		for kind := 1; kind <= 9; kind++ {
			if set>>(kind-1)&1 == 1 {
				r.Events = append(r.Events, impl.Event{Kind: kind, Day: 100 + (37*kind+set)%50})
			}
		}
		if len(r.Events) <= impl.MaxEvents {
			list = append(list, r)
		}
	}
	return list
}

func checkAdd(t *testing.T, r impl.Record, e impl.Event, want impl.Record) {
	t.Helper()
	if got, ok := impl.AddEvent(r, e); !ok || !sameRecord(got, want) {
		t.Errorf("AddEvent(%v, %v) = %v, %v", r, e, got, ok)
	}
}

func checkNoAdd(t *testing.T, r impl.Record, e impl.Event) {
	t.Helper()
	if got, ok := impl.AddEvent(r, e); ok || !sameRecord(got, impl.Record{}) {
		t.Errorf("AddEvent(%s, %v) = %s, %v", brief(r), e, brief(got), ok)
	}
}

func checkDrop(t *testing.T, r impl.Record, kind int, want impl.Record) {
	t.Helper()
	if got, ok := impl.DropEvent(r, kind); !ok || !sameRecord(got, want) {
		t.Errorf("DropEvent(%v, %d) = %v, %v", r, kind, got, ok)
	}
}

func checkNoDrop(t *testing.T, r impl.Record, kind int) {
	t.Helper()
	if got, ok := impl.DropEvent(r, kind); ok || !sameRecord(got, impl.Record{}) {
		t.Errorf("DropEvent(%s, %d) = %s, %v", brief(r), kind, brief(got), ok)
	}
}

func checkDay(t *testing.T, r impl.Record, kind, want int) {
	t.Helper()
	if day, ok := impl.DayOf(r, kind); !ok || day != want {
		t.Errorf("DayOf(%v, %d) = %d, %v", r, kind, day, ok)
	}
}

func checkNoDay(t *testing.T, r impl.Record, kind int) {
	t.Helper()
	if day, ok := impl.DayOf(r, kind); ok || day != 0 {
		t.Errorf("DayOf(%s, %d) = %d, %v", brief(r), kind, day, ok)
	}
}

func checkLastDay(t *testing.T, r impl.Record, want int) {
	t.Helper()
	if day, ok := impl.LastDay(r); !ok || day != want {
		t.Errorf("LastDay(%v) = %d, %v", r, day, ok)
	}
}

func checkInSeries(t *testing.T, list []impl.Record, series int, want ...int) {
	t.Helper()
	if ids, ok := impl.InSeries(list, series); !ok || !slices.Equal(ids, want) {
		t.Errorf("InSeries(%v, %d) = %v, %v", list, series, ids, ok)
	}
}

func checkNotInSeries(t *testing.T, list []impl.Record, series int) {
	t.Helper()
	if ids, ok := impl.InSeries(list, series); ok || len(ids) != 0 {
		t.Errorf("InSeries(%s, %d) = %v, %v", brief(list), series, ids, ok)
	}
}

func checkNotParsed(t *testing.T, s string) {
	t.Helper()
	if r, ok := impl.ParseRecord(s); ok || !sameRecord(r, impl.Record{}) {
		t.Errorf("ParseRecord(%.80q) = %v, %v", s, r, ok)
	}
}

// checkParse compares ParseRecord with the shape of the texts.
func checkParse(t *testing.T, s string) {
	t.Helper()
	want, valid := recordOfText(s)
	if r, ok := impl.ParseRecord(s); ok != valid || !sameRecord(r, want) {
		t.Errorf("ParseRecord(%.80q) = %v, %v", s, r, ok)
	}
}

// checkNothingOf hands an invalid Record to each function that takes one.
func checkNothingOf(t *testing.T, r impl.Record) {
	t.Helper()
	if impl.IsRecord(r) || impl.AreRecords([]impl.Record{r}) {
		t.Errorf("%s is a Record", brief(r))
	}
	for kind := -1; kind <= 10; kind++ {
		checkNoDay(t, r, kind)
		checkNoDrop(t, r, kind)
		checkNoAdd(t, r, impl.Event{Kind: kind, Day: 150})
	}
	if day, ok := impl.LastDay(r); ok || day != 0 {
		t.Errorf("LastDay(%s) = %d, %v", brief(r), day, ok)
	}
	if text, ok := impl.RecordText(r); ok || text != "" {
		t.Errorf("RecordText(%s) = %.80q, %v", brief(r), text, ok)
	}
	if len(r.Events) < 10 {
		checkNotParsed(t, textOfRecord(r))
	}
	checkNotInSeries(t, []impl.Record{r}, 3)
}

func TestPromise2IsEvent(t *testing.T) {
	for kind := -2; kind <= 12; kind++ {
		for _, day := range []int{-1, 0, 1, 100, impl.MaxDay - 1, impl.MaxDay, impl.MaxDay + 1} {
			want := kind >= 1 && kind <= 9 && day >= 0 && day <= 20000
			if e := (impl.Event{Kind: kind, Day: day}); impl.IsEvent(e) != want {
				t.Errorf("IsEvent(%v)", e)
			}
		}
	}
	for _, e := range wrongEvents() {
		if impl.IsEvent(e) {
			t.Errorf("IsEvent(%v)", e)
		}
	}
}

func TestPromise2IsRecord(t *testing.T) {
	for _, r := range append(edgeRecords(), recordsOfAllKinds()...) {
		if !impl.IsRecord(r) {
			t.Errorf("%v is no Record", r)
		}
	}
	empty := record(12, 3, 100)
	empty.Events = []impl.Event{}
	if !impl.IsRecord(empty) {
		t.Error("an empty list of Events is not taken as none")
	}
}

func TestPromise2InvalidRecordsAreRefused(t *testing.T) {
	for _, r := range wrongRecords() {
		checkNothingOf(t, r)
	}
}

func TestPromise2AreRecords(t *testing.T) {
	a, b, c := record(1, 5, 100), record(2, 3, 100, kindsOn(120, 1, 2)...), record(999, 5, 0)
	for _, list := range [][]impl.Record{nil, {}, {a}, {a, b}, {a, c}, {a, b, c}, {b, c}} {
		if !impl.AreRecords(list) {
			t.Errorf("%v are no Records", list)
		}
	}
	for _, list := range [][]impl.Record{{b, a}, {a, a}, {a, b, b}, {a, c, b}, {c, b, a}} {
		if impl.AreRecords(list) {
			t.Errorf("%v are Records", list)
		}
		checkNotInSeries(t, list, 5)
	}
	for _, wrong := range wrongRecords() {
		lists := [][]impl.Record{{wrong, c}, {a, wrong}, {a, wrong, c}, {a, b, wrong}}
		for _, list := range lists {
			if impl.AreRecords(list) {
				t.Errorf("%s are Records", brief(list))
			}
			checkNotInSeries(t, list, 5)
		}
	}
}

// recordsFrom makes as many Records with successive Ids, every second one of the Series 3.
func recordsFrom(id, count int) []impl.Record {
	var list []impl.Record
	for i := range count {
		list = append(list, record(id+i, 3+i%2, 100+i))
	}
	return list
}

func TestPromise2MostRecords(t *testing.T) {
	list := recordsFrom(990, impl.MaxHeld)
	if !impl.AreRecords(list) {
		t.Error("as many Records as may be are refused")
	}
	checkInSeries(t, list, 3, 990, 992, 994, 996, 998)
	for _, count := range []int{impl.MaxHeld + 1, impl.MaxHeld + 2, 500} {
		more := recordsFrom(1, count)
		if impl.AreRecords(more) {
			t.Error(count, "are Records")
		}
		checkNotInSeries(t, more, 3)
	}
	if impl.AreRecords(make([]impl.Record, 1<<20)) {
		t.Error("very many are Records")
	}
}

func TestPromise2DayOf(t *testing.T) {
	r := record(12, 3, 100, impl.Event{Kind: 1, Day: 140}, impl.Event{Kind: 4, Day: 200})
	checkDay(t, r, 0, 100)
	checkDay(t, r, 1, 140)
	checkDay(t, r, 4, 200)
	for _, kind := range append([]int{-4, -1, 2, 3, 5, 6, 7, 8, 9, 10}, extremes...) {
		checkNoDay(t, r, kind)
		checkNoDay(t, record(12, 3, 100), kind)
	}
	for _, r := range append(edgeRecords(), recordsOfAllKinds()...) {
		checkDay(t, r, 0, r.Made)
		days := map[int]int{}
		for _, e := range r.Events {
			days[e.Kind] = e.Day
		}
		for kind := 1; kind <= 10; kind++ {
			if day, there := days[kind]; there {
				checkDay(t, r, kind, day)
			} else {
				checkNoDay(t, r, kind)
			}
		}
	}
}

func TestPromise2AddEventInItsPlace(t *testing.T) {
	at := func(kind, day int) impl.Event { return impl.Event{Kind: kind, Day: day} }
	r := record(12, 3, 100, at(2, 140), at(4, 200))
	checkAdd(t, r, at(1, 300), record(12, 3, 100, at(1, 300), at(2, 140), at(4, 200)))
	checkAdd(t, r, at(3, 150), record(12, 3, 100, at(2, 140), at(3, 150), at(4, 200)))
	checkAdd(t, r, at(9, 120), record(12, 3, 100, at(2, 140), at(4, 200), at(9, 120)))
	checkAdd(t, record(12, 3, 100), at(5, 150), record(12, 3, 100, at(5, 150)))
	checkNoAdd(t, r, at(2, 140))
	checkNoAdd(t, r, at(4, 150))
}

func TestPromise2AddEventOnTheDayMade(t *testing.T) {
	for _, made := range []int{0, 1, 100, impl.MaxDay - 1, impl.MaxDay} {
		for _, kinds := range [][]int{nil, {1}, {3, 6}, {9}, {1, 2, 3, 4, 9}} {
			r := record(12, 3, made, kindsOn(made, kinds...)...)
			for _, day := range []int{made, impl.MaxDay} {
				e := impl.Event{Kind: 5, Day: day}
				want := record(12, 3, made, append(slices.Clone(r.Events), e)...)
				slices.SortFunc(want.Events, func(a, b impl.Event) int { return a.Kind - b.Kind })
				checkAdd(t, r, e, want)
				checkLastDay(t, want, day)
			}
			checkNoAdd(t, r, impl.Event{Kind: 5, Day: made - 1})
			checkNoAdd(t, r, impl.Event{Kind: 5, Day: impl.MaxDay + 1})
			checkNothingOf(t, record(12, 3, made, kindsOn(made-1, 5)...))
		}
	}
}

func TestPromise2AddEventRefuses(t *testing.T) {
	five := record(12, 3, 100, kindsOn(140, 1, 2, 3, 4, 5)...)
	checkAdd(t, five, impl.Event{Kind: 6, Day: 140}, record(12, 3, 100, kindsOn(140, 1, 2, 3, 4, 5, 6)...))
	for _, kinds := range [][]int{{1, 2, 3, 4, 5, 6}, {4, 5, 6, 7, 8, 9}, {1, 2, 4, 6, 8, 9}} {
		full := record(12, 3, 100, kindsOn(140, kinds...)...)
		for kind := range 11 {
			checkNoAdd(t, full, impl.Event{Kind: kind, Day: 140})
		}
	}
	for _, e := range wrongEvents() {
		checkNoAdd(t, record(12, 3, 0), e)
		checkNoAdd(t, record(12, 3, 0, kindsOn(100, 1, 3)...), e)
		checkNoAdd(t, five, e)
	}
}

func TestPromise2DropEvent(t *testing.T) {
	r := record(12, 3, 100, impl.Event{Kind: 1, Day: 140}, impl.Event{Kind: 4, Day: 200}, impl.Event{Kind: 9, Day: 170})
	checkDrop(t, r, 1, record(12, 3, 100, r.Events[1:]...))
	checkDrop(t, r, 4, record(12, 3, 100, r.Events[0], r.Events[2]))
	checkDrop(t, r, 9, record(12, 3, 100, r.Events[:2]...))
	checkDrop(t, record(12, 3, 100, kindsOn(100, 7)...), 7, record(12, 3, 100))
	checkDrop(t, record(12, 3, 100, kindsOn(140, 1, 2, 3, 4, 5, 6)...), 6, record(12, 3, 100, kindsOn(140, 1, 2, 3, 4, 5)...))
	for _, kind := range append([]int{-1, 0, 2, 3, 5, 8, 10}, extremes...) {
		checkNoDrop(t, r, kind)
		checkNoDrop(t, record(12, 3, 100), kind)
	}
}

func TestPromise2AddedAndDroppedLeavesNoTrace(t *testing.T) {
	for _, r := range append(edgeRecords(), recordsOfAllKinds()...) {
		for kind := 1; kind <= 9; kind++ {
			there := slices.ContainsFunc(r.Events, func(e impl.Event) bool { return e.Kind == kind })
			for _, day := range []int{r.Made, (r.Made + impl.MaxDay) / 2, impl.MaxDay} {
				e := impl.Event{Kind: kind, Day: day}
				if there || len(r.Events) == impl.MaxEvents {
					checkNoAdd(t, r, e)
					continue
				}
				longer, ok := impl.AddEvent(r, e)
				if !ok || !impl.IsRecord(longer) || len(longer.Events) != len(r.Events)+1 || !slices.Contains(longer.Events, e) {
					t.Fatalf("AddEvent(%v, %v) = %v, %v", r, e, longer, ok)
				}
				checkDrop(t, longer, kind, r)
			}
		}
	}
}

func TestPromise2DroppedAndAddedLeavesNoTrace(t *testing.T) {
	for _, r := range append(edgeRecords(), recordsOfAllKinds()...) {
		for _, e := range r.Events {
			shorter, ok := impl.DropEvent(r, e.Kind)
			if !ok || !impl.IsRecord(shorter) || len(shorter.Events) != len(r.Events)-1 || slices.Contains(shorter.Events, e) {
				t.Fatalf("DropEvent(%v, %d) = %v, %v", r, e.Kind, shorter, ok)
			}
			checkAdd(t, shorter, e, r)
		}
	}
}

func TestPromise2LastDay(t *testing.T) {
	checkLastDay(t, record(12, 3, 100), 100)
	checkLastDay(t, record(12, 3, 0), 0)
	checkLastDay(t, record(12, 3, impl.MaxDay), impl.MaxDay)
	checkLastDay(t, record(12, 3, 100, kindsOn(100, 1, 2)...), 100)
	at := func(kind, day int) impl.Event { return impl.Event{Kind: kind, Day: day} }
	checkLastDay(t, record(12, 3, 100, at(1, 140), at(4, 200)), 200)
	checkLastDay(t, record(12, 3, 100, at(1, 200), at(4, 140)), 200)
	checkLastDay(t, record(12, 3, 100, at(1, 140), at(2, 300), at(4, 200)), 300)
	checkLastDay(t, record(12, 3, 0, at(1, 0), at(9, impl.MaxDay)), impl.MaxDay)
}

func TestPromise2InSeries(t *testing.T) {
	list := []impl.Record{record(1, 5, 300), record(2, 3, 100, kindsOn(120, 1)...), record(7, 5, 0), record(8, 99, 0), record(999, 1, 50)}
	checkInSeries(t, list, 5, 1, 7)
	checkInSeries(t, list, 3, 2)
	checkInSeries(t, list, 99, 8)
	checkInSeries(t, list, 1, 999)
	checkInSeries(t, list[:1], 5, 1)
	for _, series := range []int{1, 2, 3, 50, 98, 99} {
		checkInSeries(t, nil, series)
		checkInSeries(t, []impl.Record{}, series)
		checkInSeries(t, list[2:3], series)
	}
	for _, series := range append([]int{0, 100}, extremes...) {
		checkNotInSeries(t, list, series)
		checkNotInSeries(t, nil, series)
	}
}

func TestPromise2RecordText(t *testing.T) {
	for want, r := range map[string]impl.Record{
		"12s3@100 1@140 4@200": record(12, 3, 100, impl.Event{Kind: 1, Day: 140}, impl.Event{Kind: 4, Day: 200}),
		"12s3@100 1@200 4@140": record(12, 3, 100, impl.Event{Kind: 1, Day: 200}, impl.Event{Kind: 4, Day: 140}),
		"1s1@0":                record(1, 1, 0),
		"1s1@0 9@0":            record(1, 1, 0, kindsOn(0, 9)...),
		"999s99@20000 1@20000 2@20000 3@20000 4@20000 5@20000 6@20000": record(999, 99, 20000, kindsOn(20000, 1, 2, 3, 4, 5, 6)...),
	} {
		if text, ok := impl.RecordText(r); !ok || text != want {
			t.Errorf("RecordText(%v) = %q, %v", r, text, ok)
		}
		if back, ok := impl.ParseRecord(want); !ok || !sameRecord(back, r) {
			t.Errorf("ParseRecord(%q) = %v, %v", want, back, ok)
		}
	}
}

func TestPromise2RecordTextRoundTrip(t *testing.T) {
	for _, r := range append(edgeRecords(), recordsOfAllKinds()...) {
		if r.Id > 999 {
			t.Fatal("the test has an invalid Record", r)
		}
		text, ok := impl.RecordText(r)
		if !ok || text != textOfRecord(r) {
			t.Fatalf("RecordText(%v) = %q, %v", r, text, ok)
		}
		if back, fine := impl.ParseRecord(text); !fine || !sameRecord(back, r) {
			t.Fatalf("ParseRecord(%q) = %v, %v", text, back, fine)
		}
	}
}

func TestPromise2ParseRecordRefuses(t *testing.T) {
	for _, s := range []string{
		"", " ", "s", "@", "s@", "12", "12s", "12s3", "12s3@", "12@100", "s3@100", "12s@100", "3@100", "12s3 100", "1@140", " 1@140",
		"012s3@100", "12s03@100", "12s3@0100", "12s3@00", "12s3@100 01@140", "12s3@100 1@0140", "00s3@100", "12s00@100",
		"+12s3@100", "12s+3@100", "12s3@+100", "12s3@100 +1@140", "12s3@100 1@+140",
		"-12s3@100", "12s-3@100", "12s3@-100", "12s3@-0", "12s3@100 -1@140", "12s3@100 1@-140", "12s3@0 1@-0",
		"12s3@100  1@140", "12s3@100 1@140  4@200", "12s3@100 ", "12s3@100 1@140 ", " 12s3@100", " 12s3@100 1@140", "12s3@100\t1@140", "12s3@100\n",
		"12 s3@100", "12s 3@100", "12s3 @100", "12s3@ 100", "12s3@100 1 @140", "12s3@100 1@ 140", "12s3@100,1@140", "12s3@1001@140",
		"12s3@100 1", "12s3@100 1@", "12s3@100 @140", "12s3@100 @", "12s3@100 140", "12s3@100 1@140 4", "12s3@100 1@140 @200", "12s3@100 1@140@",
		"12s3@100@1", "12ss3@100", "12s3@@100", "12s3s@100", "12s3@100 1@@140", "12s3@100 1s140", "12S3@100", "12s3@100 1@140@150", "12@3s100",
		"12s3@100 2@140 1@150", "12s3@100 1@140 1@150", "12s3@100 1@140 1@140", "12s3@100 1@140 4@200 3@200",
		"12s3@100 1@99", "12s3@100 1@140 4@99", "12s3@20000 1@19999", "12s3@1 1@0",
		"0s3@1", "1000s3@1", "12s0@1", "12s100@1", "12s3@20001", "12s3@100 0@140", "12s3@100 10@140", "12s3@100 1@20001",
		"12s3@100 1@140 2@140 3@140 4@140 5@140 6@140 7@140", "12s3@100 1@140 2@140 3@140 4@140 5@140 6@140 6@140",
		"12s3@100 1@140 2@140 3@140 4@140 5@140 6@140 ", "18446744073709551628s3@100", "12s3@18446744073709551716", "0x1s3@1", "12s3@1e2",
		"12s3@100\x00", "12s3@100 1@140\x00", "\xff", "１2s3@100", strings.Repeat(" ", impl.MaxString), strings.Repeat("1", impl.MaxString+1),
		"12s3@100" + strings.Repeat(" 1@140", 1000), "12s3@100" + strings.Repeat(" ", impl.MaxString),
	} {
		checkNotParsed(t, s)
	}
}

func TestPromise2ParseRecordOfShortTexts(t *testing.T) {
	for _, s := range textsOver("s@1 0-", 7) {
		checkParse(t, s)
	}
	for _, s := range textsOver("@1 0", 6) {
		checkParse(t, "9s9@"+s)
		checkParse(t, "9s9@1 "+s)
		checkParse(t, "9s9@10 1@11 "+s)
	}
}

func TestPromise2ParseRecordOfChangedTexts(t *testing.T) {
	for _, text := range []string{"12s3@100 1@140 4@200", "1s1@0", "999s99@20000 1@20000 2@20000 3@20000 4@20000 5@20000 6@20000", "7s8@9 9@9"} {
		for i := range len(text) {
			checkParse(t, text[:i])
			checkParse(t, text[:i]+text[i+1:])
			for c := range 256 {
				sign := string([]byte{byte(c)})
				checkParse(t, text[:i]+sign+text[i+1:])
				checkParse(t, text[:i]+sign+text[i:])
			}
		}
		checkParse(t, text+" ")
		checkParse(t, text+" 7@20000")
	}
}

func TestPromise29RecordsReturnForAllArguments(t *testing.T) {
	numbers := append([]int{0, 1, 9, 10, 99, 100, 999, 1000, impl.MaxDay}, extremes...)
	records := append(edgeRecords(), wrongRecords()...)
	for _, r := range records {
		for _, n := range numbers {
			impl.IsEvent(impl.Event{Kind: n, Day: n})
			impl.DayOf(r, n)
			impl.DropEvent(r, n)
			impl.AddEvent(r, impl.Event{Kind: n, Day: 100})
			impl.AddEvent(r, impl.Event{Kind: 8, Day: n})
			impl.InSeries([]impl.Record{r}, n)
		}
		impl.IsRecord(r)
		impl.LastDay(r)
		impl.RecordText(r)
	}
	impl.AreRecords(records)
	impl.InSeries(records, 3)
	for _, s := range []string{"", "\xff\xfe", "s\x00@", strings.Repeat("s", 1<<20), strings.Repeat(" ", 1<<20), strings.Repeat("9", 1<<20)} {
		checkNotParsed(t, s)
	}
}

// roomy is a Record of which the Events have room behind their length, filled with more Events.
func roomy(length int) (impl.Record, []impl.Event) {
	all := []impl.Event{{Kind: 2, Day: 140}, {Kind: 4, Day: 120}, {Kind: 5, Day: 200}, {Kind: 7, Day: 150}, {Kind: 8, Day: 150}, {Kind: 9, Day: 100}}
	return record(12, 3, 100, all[:length]...), all
}

// useRecord calls each function that takes a Record, with arguments that succeed and some that fail.
func useRecord(r impl.Record) {
	list := []impl.Record{r}
	for n := -1; n <= 10; n++ {
		impl.DayOf(r, n)
		impl.DropEvent(r, n)
		impl.AddEvent(r, impl.Event{Kind: n, Day: 150})
		impl.AddEvent(r, impl.Event{Kind: n, Day: 99})
		impl.InSeries(list, n)
	}
	impl.IsRecord(r)
	impl.AreRecords(list)
	impl.LastDay(r)
	impl.RecordText(r)
}

func TestPromise29RecordsAreNotModified(t *testing.T) {
	for length := range 7 {
		r, all := roomy(length)
		kept := slices.Clone(all)
		useRecord(r)
		if !slices.Equal(all, kept) || !sameRecord(r, record(12, 3, 100, kept[:length]...)) {
			t.Errorf("with %d Events: changed to %v, %v", length, r, all)
		}
	}
	for _, r := range wrongRecords() {
		kept := record(r.Id, r.Series, r.Made, slices.Clone(r.Events)...)
		useRecord(r)
		if !sameRecord(r, kept) {
			t.Errorf("changed to %s", brief(r))
		}
	}
}

func TestPromise29RecordsBehindTheLengthAreNotUsed(t *testing.T) {
	for length := range 6 {
		r, all := roomy(length)
		for i := length; i < len(all); i++ {
			checkNoDay(t, r, all[i].Kind)
			checkNoDrop(t, r, all[i].Kind)
			all[i] = impl.Event{Kind: -1, Day: -1}
		}
		if text, ok := impl.RecordText(r); !ok || text != textOfRecord(r) || !impl.IsRecord(r) {
			t.Errorf("RecordText(%v) = %q, %v", r, text, ok)
		}
	}
	list := []impl.Record{record(1, 3, 100), record(2, 3, 100), record(3, 3, 100), {}}
	checkInSeries(t, list[:2], 3, 1, 2)
	checkInSeries(t, list[:0], 3)
	if !impl.AreRecords(list[:3]) || impl.AreRecords(list) {
		t.Error("the length of a list is not kept to")
	}
}

func TestPromise29ListsOfRecordsAreNotModified(t *testing.T) {
	for length := range 4 {
		first, events := roomy(3)
		list := []impl.Record{first, record(13, 4, 100), record(14, 3, 100), record(0, 0, 0)}
		keptEvents, want := slices.Clone(events), []int{12, 14}
		keptTexts := []string{textOfRecord(list[0]), textOfRecord(list[1]), textOfRecord(list[2]), textOfRecord(list[3])}
		impl.AreRecords(list)
		impl.AreRecords(list[:length])
		checkNotInSeries(t, list, 3)
		checkInSeries(t, list[:length], 3, want[:(length+1)/2]...)
		for i, r := range list {
			if textOfRecord(r) != keptTexts[i] || !slices.Equal(events, keptEvents) {
				t.Errorf("Record %d of %d changed to %v", i, length, r)
			}
		}
	}
}

// scribble overwrites a list of Events as far as its memory reaches.
func scribble(events []impl.Event) {
	all := events[:cap(events)]
	for i := range all {
		all[i] = impl.Event{Kind: -7, Day: -7}
	}
}

// checkUnshared looks that neither a Record nor a second result changes with the memory of the first one.
func checkUnshared(t *testing.T, length int, act func(impl.Record) (impl.Record, bool)) {
	t.Helper()
	r, all := roomy(length)
	kept := slices.Clone(all)
	first, ok := act(r)
	second, fine := act(r)
	want := textOfRecord(second)
	scribble(first.Events)
	if !ok || !fine || !slices.Equal(all, kept) || textOfRecord(second) != want {
		t.Errorf("a result of %d Events shares memory: %v, %v", length, all, second)
	}
	scribble(all)
	if textOfRecord(second) != want {
		t.Errorf("an argument of %d Events shares memory: %v", length, second)
	}
}

func TestPromise29RecordsShareNoMemory(t *testing.T) {
	for length := range 6 {
		for _, kind := range []int{1, 3, 6, 9} {
			_, all := roomy(length)
			if !slices.ContainsFunc(all[:length], func(e impl.Event) bool { return e.Kind == kind }) {
				checkUnshared(t, length, func(r impl.Record) (impl.Record, bool) {
					return impl.AddEvent(r, impl.Event{Kind: kind, Day: 150})
				})
			}
		}
		_, all := roomy(length + 1)
		for _, e := range all[:length+1] {
			checkUnshared(t, length+1, func(r impl.Record) (impl.Record, bool) { return impl.DropEvent(r, e.Kind) })
		}
	}
	checkUnshared(t, 0, func(impl.Record) (impl.Record, bool) { return impl.ParseRecord("12s3@100 1@140 4@200") })
}

func TestPromise29SuccessiveResultsShareNoMemory(t *testing.T) {
	r, _ := roomy(2)
	base, _ := impl.AddEvent(r, impl.Event{Kind: 1, Day: 150})
	left, _ := impl.AddEvent(base, impl.Event{Kind: 8, Day: 160})
	right, _ := impl.AddEvent(base, impl.Event{Kind: 9, Day: 170})
	checkDay(t, left, 8, 160)
	checkNoDay(t, left, 9)
	checkDay(t, right, 9, 170)
	checkDrop(t, left, 8, base)
	checkDrop(t, right, 9, base)
	shorter, _ := impl.DropEvent(base, 4)
	checkAdd(t, shorter, impl.Event{Kind: 3, Day: 100}, record(12, 3, 100, base.Events[0], base.Events[1], impl.Event{Kind: 3, Day: 100}))
	checkDay(t, base, 4, 120)
}

func TestPromise29IdsOfASeriesShareNoMemory(t *testing.T) {
	list := recordsFrom(1, 6)
	first, _ := impl.InSeries(list, 3)
	second, _ := impl.InSeries(list, 3)
	all := first[:cap(first)]
	for i := range all {
		all[i] = -7
	}
	if !slices.Equal(second, []int{1, 3, 5}) || list[0].Id != 1 {
		t.Errorf("two results share memory: %v, %v", first, second)
	}
}
