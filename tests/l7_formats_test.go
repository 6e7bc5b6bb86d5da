package tests

import (
	"fmt"
	"math"
	"slices"
	"strings"
	"testing"

	"loop.example/g01035/impl"
)

func format(id int, name string, until int, reads ...int) impl.Format {
	return impl.Format{Id: id, Name: name, Until: until, Reads: reads}
}

func copied(record, format, size, seen int) impl.Copy {
	return impl.Copy{Record: record, Format: format, Size: size, Seen: seen}
}

// sixFormats has Formats that end on several days, two that Read each other, one that nobody Reads and one that Reads several.
func sixFormats() []impl.Format {
	return []impl.Format{
		format(2, "tape", 100), format(3, "disk", 300, 2, 7), format(7, "card", 200, 3), format(8, "film", 50), format(20, "text", 900, 2, 7, 8), format(31, "sound", 900, 20),
	}
}

func sixCopies() []impl.Copy {
	return []impl.Copy{
		copied(1, 2, 500, 90), copied(1, 8, 20, 40), copied(4, 3, 7, 95), copied(4, 31, 1000, 10), copied(5, 8, 3, 50), copied(900, 2, 60, 0),
	}
}

// fullFormats has as many Formats as may be, some of which meet limits.
func fullFormats() []impl.Format {
	return []impl.Format{
		format(1, "a", 0), format(2, "zzzzzzzzzz", impl.MaxDay, 1, 3, 4, 5, 10, 20, 30, 49, 50), format(3, "b", impl.MaxDay-1, 1), format(4, "c", 1, 2), format(5, "d", 400, 4),
		format(10, "e", 500, 1, 5), format(20, "f", 600, 10, 50), format(30, "g", 700, 1, 20), format(49, "h", 400, 30, 50), format(50, "i", impl.MaxDay, 49),
	}
}

// fullCopies has as many Copies in fullFormats as may be, some of which meet limits.
func fullCopies() []impl.Copy {
	list := []impl.Copy{copied(1, 1, 1, 0), copied(1, 50, 1000000, impl.MaxDay)}
	for i := range 11 {
		list = append(list, copied(10+i/3, []int{1, 4, 5}[i%3], 1000*i+1, 30*i))
	}
	return append(list, copied(998, 1, 1000000, 1), copied(999, 1, 1000000, 1))
}

// formatsInARow makes as many Formats, of which each but the first one Reads the one before it.
func formatsInARow(count int) []impl.Format {
	var list []impl.Format
	for i := range count {
		f := format(3*i+1, string(rune('a'+i)), 1000-i)
		if i > 0 {
			f.Reads = []int{3*i - 2}
		}
		list = append(list, f)
	}
	return list
}

// formatsOfChoice makes Formats 1, 2, 3 and so on: a digit of reads tells for each pair of them whether one Reads the other.
func formatsOfChoice(count, reads int, untils ...int) []impl.Format {
	var list []impl.Format
	for i := range count {
		f := format(i+1, string(rune('a'+i)), untils[i%len(untils)])
		for other := range count {
			if other == i {
				continue
			}
			if reads&1 == 1 {
				f.Reads = append(f.Reads, other+1)
			}
			reads >>= 1
		}
		list = append(list, f)
	}
	return list
}

// mixedFormats makes Formats out of a number, few or many of which Read few or many others.
func mixedFormats(mix int) []impl.Format {
	next := func(n int) int {
		mix = (mix*8121 + 28411) % 134456
		return mix / 7 % n
	}
	count, rare := 1+next(10), 1+next(6)
	var ids []int
	for i := range count {
		ids = append(ids, 5*i+1+next(5))
	}
	var list []impl.Format
	for i, id := range ids {
		f := format(id, string(rune('z'-i)), 10*next(8))
		for _, other := range ids {
			if other != id && next(rare) == 0 {
				f.Reads = append(f.Reads, other)
			}
		}
		list = append(list, f)
	}
	return list
}

func someFormats() [][]impl.Format {
	lists := [][]impl.Format{nil, {}, sixFormats(), fullFormats()}
	for count := 1; count <= impl.MaxFormats; count++ {
		lists = append(lists, formatsInARow(count), formatsInARow(count)[:count/2])
	}
	for mix := range 200 {
		lists = append(lists, mixedFormats(mix))
	}
	for reads := range 64 {
		lists = append(lists, formatsOfChoice(3, reads, 20, 30, 20))
	}
	return lists
}

// wrongFormatLists are lists that are none of Formats, most of them for one reason.
func wrongFormatLists() [][]impl.Format {
	lists := [][]impl.Format{
		{format(4, "law", 10, 9), format(9, "tax", 10, 4), format(9, "c", 10)},
		{format(9, "law", 10), format(4, "tax", 10)}, {format(4, "law", 10), format(4, "tax", 10)}, {format(4, "law", 10), format(4, "law", 10)},
		{format(4, "law", 10), format(9, "law", 20)}, {format(4, "law", 10), format(9, "tax", 20), format(10, "law", 30)},
		{format(1, "a", 10), format(9, "b", 10), format(8, "c", 10)},
		append(fullFormats()[:9], format(50, "a", 400)), append(fullFormats()[:9], format(49, "i", 400)),
		append([]impl.Format{format(1, "other", 0)}, fullFormats()[:9]...),
		formatsInARow(impl.MaxFormats + 1), formatsInARow(impl.MaxFormats + 2),
	}
	for _, f := range []impl.Format{
		{}, format(0, "law", 10), format(51, "law", 10), format(-1, "law", 10), format(4, "", 10), format(4, "lawlawlawla", 10), format(4, "Law", 10), format(4, "l w", 10), format(4, "laß", 10),
		format(4, "law", -1), format(4, "law", impl.MaxDay+1),
	} {
		lists = append(lists, []impl.Format{f})
	}
	for _, n := range extremes {
		lists = append(lists, []impl.Format{format(n, "law", 10)}, []impl.Format{format(4, "law", n)}, []impl.Format{format(4, "law", 10, n)})
	}
	return append(lists, wrongReads()...)
}

// wrongReads are lists in which only what one Format Reads is wrong.
func wrongReads() [][]impl.Format {
	var lists [][]impl.Format
	for _, reads := range [][]int{
		{9, 4}, {4, 9, 4}, {4, 4}, {9, 9}, {4, 9, 9}, {7}, {4, 7, 9}, {7, 9}, {4, 7}, {0}, {0, 4}, {-4}, {-4, 4}, {1}, {8}, {50}, {51}, {4, 9, 12}, {4, 9, 50}, {4, 9, math.MaxInt}, {math.MinInt, 4},
		{1, 2, 3, 4, 5, 6, 7, 8, 9, 10, 11}, {4, 4, 4, 4, 4, 4, 4, 4, 4, 4, 4}, make([]int, 1<<16),
	} {
		lists = append(lists, []impl.Format{format(4, "a", 10), format(7, "b", 10, reads...), format(9, "c", 10)})
	}
	lists = append(lists, []impl.Format{format(4, "a", 10, 4)}, []impl.Format{format(4, "a", 10, 5)}, []impl.Format{format(1, "a", 10, 0)})
	most := fullFormats()
	most[1].Reads = []int{1, 3, 4, 5, 10, 20, 30, 49, 50, 51}
	all := fullFormats()
	all[1].Reads = []int{1, 2, 3, 4, 5, 10, 20, 30, 49, 50}
	longer := fullFormats()
	longer[1].Reads = append(longer[1].Reads, 51, 52)
	return append(lists, most, all, longer)
}

// wrongCopies are lists that are none of Copies in sixFormats, most of them for one reason.
func wrongCopies() [][]impl.Copy {
	var many []impl.Copy
	for i := range 17 {
		many = append(many, copied(i+1, 2, 5, 10))
	}
	lists := [][]impl.Copy{
		{{}}, {copied(0, 2, 5, 10)}, {copied(1000, 2, 5, 10)}, {copied(1, 0, 5, 10)}, {copied(1, 1, 5, 10)}, {copied(1, 4, 5, 10)}, {copied(1, 32, 5, 10)}, {copied(1, 50, 5, 10)},
		{copied(1, 2, 0, 10)}, {copied(1, 2, -1, 10)}, {copied(1, 2, 1000001, 10)}, {copied(1, 2, 5, -1)}, {copied(1, 2, 5, impl.MaxDay+1)},
		{copied(2, 2, 5, 10), copied(1, 2, 5, 10)}, {copied(2, 2, 5, 10), copied(1, 3, 5, 10)}, {copied(1, 3, 5, 10), copied(1, 2, 5, 10)}, {copied(1, 2, 5, 10), copied(1, 2, 5, 10)},
		{copied(1, 2, 5, 10), copied(1, 2, 6, 11)}, {copied(1, 2, 5, 10), copied(1, 3, 5, 10), copied(1, 3, 5, 10)}, {copied(1, 31, 5, 10), copied(2, 2, 5, 10), copied(1, 31, 5, 10)},
		many[:16], many, make([]impl.Copy, 1<<16),
	}
	for _, n := range append([]int{0, 51}, extremes...) {
		lists = append(lists, []impl.Copy{copied(1, n, 5, 10)})
	}
	for _, n := range extremes {
		lists = append(lists, []impl.Copy{copied(n, 2, 5, 10)}, []impl.Copy{copied(1, 2, 5, n)}, []impl.Copy{copied(n, n, n, n)})
	}
	lists = append(lists, []impl.Copy{copied(1, 2, math.MinInt, 10)}, []impl.Copy{copied(1, 2, math.MaxInt, 10)})
	for _, wrong := range slices.Clone(lists[:13]) {
		lists = append(lists, []impl.Copy{copied(1, 2, 5, 10), wrong[0]}, append(slices.Clone(wrong), copied(999, 31, 5, 10)))
	}
	return lists
}

// areFormatsByPairs compares each Format with each one behind it, and looks for each Id that it Reads.
func areFormatsByPairs(list []impl.Format) bool {
	for i, f := range list {
		if f.Id < 1 || f.Id > 50 || !wordly(f.Name) || f.Until < 0 || f.Until > 20000 || len(f.Reads) > 10 {
			return false
		}
		for _, later := range list[i+1:] {
			if f.Id >= later.Id || f.Name == later.Name {
				return false
			}
		}
		for j, id := range f.Reads {
			if id == f.Id || j > 0 && f.Reads[j-1] >= id || !hasFormat(list, id) {
				return false
			}
		}
	}
	return len(list) <= 10
}

func hasFormat(list []impl.Format, id int) bool {
	for _, f := range list {
		if f.Id == id {
			return true
		}
	}
	return false
}

func areCopiesByPairs(list []impl.Format, copies []impl.Copy) bool {
	for i, c := range copies {
		if c.Record < 1 || c.Record > 999 || !hasFormat(list, c.Format) || c.Size < 1 || c.Size > 1000000 || c.Seen < 0 || c.Seen > 20000 {
			return false
		}
		for _, later := range copies[i+1:] {
			if c.Record*100+c.Format >= later.Record*100+later.Format {
				return false
			}
		}
	}
	return areFormatsByPairs(list) && len(copies) <= 15
}

// readsIt reports whether a program that can be used on a day Reads a Format.
func readsIt(f impl.Format, id, day int) bool {
	for _, other := range f.Reads {
		if other == id && f.Until >= day {
			return true
		}
	}
	return false
}

func readableOn(list []impl.Format, id, day int) bool {
	for _, f := range list {
		if f.Id == id && day <= f.Until || readsIt(f, id, day) {
			return true
		}
	}
	return false
}

// closure tells for each two Ids whether there is a path, found by going over each Format in turn.
func closure(list []impl.Format, day int) [51][51]bool {
	var ways [51][51]bool
	for _, f := range list {
		ways[f.Id][f.Id] = true
		for _, id := range f.Reads {
			ways[id][f.Id] = ways[id][f.Id] || f.Until >= day
		}
	}
	for _, over := range list {
		for _, from := range list {
			for _, to := range list {
				ways[from.Id][to.Id] = ways[from.Id][to.Id] || ways[from.Id][over.Id] && ways[over.Id][to.Id]
			}
		}
	}
	return ways
}

// walk returns the first path of as many Formats in lexicographical order, or nil.
func walk(list []impl.Format, from, to, day, length int) []int {
	if length == 1 {
		if from == to {
			return []int{to}
		}
		return nil
	}
	for _, f := range list {
		if !readsIt(f, from, day) {
			continue
		}
		if rest := walk(list, f.Id, to, day, length-1); rest != nil {
			return append([]int{from}, rest...)
		}
	}
	return nil
}

func checkReadable(t *testing.T, list []impl.Format, id, day int, want bool) {
	t.Helper()
	if readable, ok := impl.IsReadable(list, id, day); !ok || readable != want {
		t.Errorf("IsReadable(%v, %d, %d) = %v, %v", list, id, day, readable, ok)
	}
}

func checkLost(t *testing.T, list []impl.Format, copies []impl.Copy, day int, want ...int) {
	t.Helper()
	if lost, ok := impl.LostRecords(list, copies, day); !ok || !slices.Equal(lost, want) {
		t.Errorf("LostRecords(%v, %v, %d) = %v, %v", list, copies, day, lost, ok)
	}
}

func checkWays(t *testing.T, list []impl.Format, id, day int, want ...int) {
	t.Helper()
	if ways, ok := impl.WaysTo(list, id, day); !ok || !slices.Equal(ways, want) {
		t.Errorf("WaysTo(%v, %d, %d) = %v, %v", list, id, day, ways, ok)
	}
}

// checkShortest looks for a path from the first of its Formats to the last one.
func checkShortest(t *testing.T, list []impl.Format, day int, want ...int) {
	t.Helper()
	from, to := want[0], want[len(want)-1]
	if path, ok := impl.ShortestPath(list, from, to, day); !ok || !slices.Equal(path, want) {
		t.Errorf("ShortestPath(%v, %d, %d, %d) = %v, %v", list, from, to, day, path, ok)
	}
}

func checkNoPath(t *testing.T, list []impl.Format, from, to, day int) {
	t.Helper()
	if path, ok := impl.ShortestPath(list, from, to, day); ok || len(path) != 0 {
		t.Errorf("ShortestPath(%s, %d, %d, %d) = %v, %v", brief(list), from, to, day, path, ok)
	}
}

func checkLongest(t *testing.T, list []impl.Format, id, day, want int) {
	t.Helper()
	if longest, ok := impl.LongestLived(list, id, day); !ok || longest != want {
		t.Errorf("LongestLived(%v, %d, %d) = %d, %v", list, id, day, longest, ok)
	}
}

func checkUnseen(t *testing.T, list []impl.Format, copies []impl.Copy, day, days int, want ...int) {
	t.Helper()
	if unseen, ok := impl.Unseen(list, copies, day, days); !ok || !slices.Equal(unseen, want) {
		t.Errorf("Unseen(%v, %v, %d, %d) = %v, %v", list, copies, day, days, unseen, ok)
	}
}

func checkNoUnseen(t *testing.T, list []impl.Format, copies []impl.Copy, day, days int) {
	t.Helper()
	if unseen, ok := impl.Unseen(list, copies, day, days); ok || len(unseen) != 0 {
		t.Errorf("Unseen(%s, %s, %d, %d) = %v, %v", brief(list), brief(copies), day, days, unseen, ok)
	}
}

func checkSizes(t *testing.T, list []impl.Format, copies []impl.Copy, want ...int) {
	t.Helper()
	if sizes, ok := impl.SizeByFormat(list, copies); !ok || !slices.Equal(sizes, want) {
		t.Errorf("SizeByFormat(%v, %v) = %v, %v", list, copies, sizes, ok)
	}
}

func checkLast(t *testing.T, list []impl.Format, id, want int) {
	t.Helper()
	if last, ok := impl.LastReadable(list, id); !ok || last != want {
		t.Errorf("LastReadable(%v, %d) = %d, %v", list, id, last, ok)
	}
}

// checkNotOn hands a list, an Id or a day that is none to each function that takes all of them.
func checkNotOn(t *testing.T, list []impl.Format, id, day int) {
	t.Helper()
	if readable, ok := impl.IsReadable(list, id, day); ok || readable {
		t.Errorf("IsReadable(%s, %d, %d) = %v, %v", brief(list), id, day, readable, ok)
	}
	if ways, ok := impl.WaysTo(list, id, day); ok || len(ways) != 0 {
		t.Errorf("WaysTo(%s, %d, %d) = %v, %v", brief(list), id, day, ways, ok)
	}
	if longest, ok := impl.LongestLived(list, id, day); ok || longest != 0 {
		t.Errorf("LongestLived(%s, %d, %d) = %d, %v", brief(list), id, day, longest, ok)
	}
	checkNoPath(t, list, id, id, day)
	for _, f := range list[:min(len(list), 20)] {
		checkNoPath(t, list, id, f.Id, day)
		checkNoPath(t, list, f.Id, id, day)
	}
}

// checkNoFormatId hands an Id that is not in a list, or a list that is none of Formats, to each function that takes an Id.
func checkNoFormatId(t *testing.T, list []impl.Format, id int) {
	t.Helper()
	for _, day := range []int{-1, 0, 1, 10, 100, 400, impl.MaxDay, impl.MaxDay + 1} {
		checkNotOn(t, list, id, day)
	}
	if last, ok := impl.LastReadable(list, id); ok || last != 0 {
		t.Errorf("LastReadable(%s, %d) = %d, %v", brief(list), id, last, ok)
	}
}

// checkNoLostOn hands lists or a day that are none to LostRecords.
func checkNoLostOn(t *testing.T, list []impl.Format, copies []impl.Copy, day int) {
	t.Helper()
	if lost, ok := impl.LostRecords(list, copies, day); ok || len(lost) != 0 {
		t.Errorf("LostRecords(%s, %s, %d) = %v, %v", brief(list), brief(copies), day, lost, ok)
	}
}

// checkNoCopies hands lists that are not valid together to each function that takes Copies.
func checkNoCopies(t *testing.T, list []impl.Format, copies []impl.Copy) {
	t.Helper()
	if impl.AreCopies(list, copies) {
		t.Errorf("%s are Copies in %s", brief(copies), brief(list))
	}
	for _, day := range []int{-1, 0, 10, 100, impl.MaxDay, impl.MaxDay + 1} {
		checkNoLostOn(t, list, copies, day)
		for _, days := range []int{-1, 0, 10, impl.MaxDay, impl.MaxDay + 1} {
			checkNoUnseen(t, list, copies, day, days)
		}
	}
	if sizes, ok := impl.SizeByFormat(list, copies); ok || len(sizes) != 0 {
		t.Errorf("SizeByFormat(%s, %s) = %v, %v", brief(list), brief(copies), sizes, ok)
	}
}

// checkNoneOfFormats hands a list that is none of Formats to each function.
func checkNoneOfFormats(t *testing.T, list []impl.Format) {
	t.Helper()
	if impl.AreFormats(list) {
		t.Errorf("%s are Formats", brief(list))
	}
	for _, id := range []int{0, 1, 4, 9, 50, 51} {
		checkNoFormatId(t, list, id)
	}
	for _, f := range list[:min(len(list), 20)] {
		checkNoFormatId(t, list, f.Id)
		checkNoCopies(t, list, []impl.Copy{copied(1, f.Id, 5, 10)})
	}
	checkNoCopies(t, list, nil)
	checkNoCopies(t, list, sixCopies())
}

// checkFormatsOn compares what each function tells of Formats on a day with what is found without the program.
func checkFormatsOn(t *testing.T, list []impl.Format, day int) {
	t.Helper()
	reached := closure(list, day)
	for _, from := range list {
		var ways []int
		longest := impl.Format{Until: -1}
		for _, to := range list {
			if !reached[from.Id][to.Id] {
				checkNoPath(t, list, from.Id, to.Id, day)
				continue
			}
			ways = append(ways, to.Id)
			if to.Until > longest.Until {
				longest = to
			}
			length := 1
			for walk(list, from.Id, to.Id, day, length) == nil {
				length++
			}
			checkShortest(t, list, day, walk(list, from.Id, to.Id, day, length)...)
		}
		checkWays(t, list, from.Id, day, ways...)
		checkLongest(t, list, from.Id, day, longest.Id)
		checkReadable(t, list, from.Id, day, readableOn(list, from.Id, day))
	}
}

// checkCopiesOn compares what each function tells of Copies on a day with what is found without the program.
func checkCopiesOn(t *testing.T, list []impl.Format, copies []impl.Copy, day int) {
	t.Helper()
	var lost, sizes []int
	for record := 1; record <= 999; record++ {
		held, readable := 0, 0
		for _, c := range copies {
			if c.Record == record {
				held++
				if readableOn(list, c.Format, day) {
					readable++
				}
			}
		}
		if held > 0 && readable == 0 {
			lost = append(lost, record)
		}
	}
	checkLost(t, list, copies, day, lost...)
	for _, f := range list {
		sum := 0
		for _, c := range copies {
			if c.Format == f.Id {
				sum += c.Size
			}
		}
		sizes = append(sizes, sum)
	}
	checkSizes(t, list, copies, sizes...)
	for _, days := range []int{0, 1, 9, 10, 11, 50, 100, impl.MaxDay - 1, impl.MaxDay} {
		var unseen []int
		behind := false
		for i, c := range copies {
			behind = behind || c.Seen > day
			if c.Seen < day-days {
				unseen = append(unseen, i)
			}
		}
		if behind {
			checkNoUnseen(t, list, copies, day, days)
		} else {
			checkUnseen(t, list, copies, day, days, unseen...)
		}
	}
}

// daysOfFormats are the days at the limits, and those at each Until.
func daysOfFormats(list []impl.Format) []int {
	days := []int{0, impl.MaxDay}
	for _, f := range list {
		for day := f.Until - 1; day <= f.Until+1; day++ {
			if day >= 0 && day <= impl.MaxDay {
				days = append(days, day)
			}
		}
	}
	slices.Sort(days)
	return slices.Compact(days)
}

// copiesIn makes Copies of a few Records in Formats of a list.
func copiesIn(list []impl.Format, mix int) []impl.Copy {
	var copies []impl.Copy
	for record := 1; record <= 6; record++ {
		for i, f := range list {
			if (mix+7*record+3*i*i)%4 == 0 && len(copies) < 15 {
				copies = append(copies, copied(record*record, f.Id, 1+mix*record, (mix*i+record)%80))
			}
		}
	}
	return copies
}

func TestPromise7Constants(t *testing.T) {
	if impl.MaxFormats != 10 {
		t.Error("the constant of the chapter is changed")
	}
}

func TestPromise7AreFormats(t *testing.T) {
	for _, list := range someFormats() {
		if !areFormatsByPairs(list) {
			t.Fatal("the test has wrong Formats", list)
		}
		if !impl.AreFormats(list) {
			t.Errorf("%v are no Formats", list)
		}
	}
	for count := range 14 {
		if impl.AreFormats(formatsInARow(count)) != (count <= 10) {
			t.Error("AreFormats of", count, "Formats")
		}
	}
	for _, list := range wrongFormatLists() {
		if areFormatsByPairs(list) {
			t.Fatal("the test has right Formats", list)
		}
		checkNoneOfFormats(t, list)
	}
}

func TestPromise7NumbersOfAFormat(t *testing.T) {
	for _, id := range []int{-1, 0, 1, 2, 3, 4, 49, 50, 51, 52} {
		for _, until := range []int{-1, 0, 1, impl.MaxDay - 1, impl.MaxDay, impl.MaxDay + 1} {
			list := []impl.Format{format(id, "law", until)}
			if impl.AreFormats(list) != areFormatsByPairs(list) {
				t.Errorf("AreFormats(%v)", list)
			}
			for _, other := range []int{1, 3, 50} {
				for _, reads := range []int{-1, 0, 1, 3, 50, 51} {
					list := []impl.Format{format(id, "law", until, reads), format(other, "tax", 5)}
					back := []impl.Format{format(other, "tax", 5, reads), format(id, "law", until)}
					if impl.AreFormats(list) != areFormatsByPairs(list) || impl.AreFormats(back) != areFormatsByPairs(back) {
						t.Errorf("AreFormats(%v) or AreFormats(%v)", list, back)
					}
				}
			}
		}
	}
}

func TestPromise7NamesAreWords(t *testing.T) {
	look := func(name string, want bool) {
		t.Helper()
		for _, list := range [][]impl.Format{{format(1, name, 5)}, {format(1, "q", 5), format(2, name, 5, 1), format(3, "r", 5)}} {
			if impl.AreFormats(list) != want {
				t.Errorf("AreFormats(%s)", brief(list))
			}
		}
	}
	for length := range 30 {
		look(strings.Repeat("x", length), length >= 1 && length <= 10)
	}
	for c := range 256 {
		sign := string([]byte{byte(c)})
		look("la"+sign, c >= 'a' && c <= 'z')
		look(sign+"lawlawlaw", c >= 'a' && c <= 'z')
	}
	look(strings.Repeat("x", 1<<20), false)
	look("é", false)
	look("ａ", false)
	if !impl.AreFormats([]impl.Format{format(1, "law", 5), format(2, "la", 5), format(3, "laws", 5)}) {
		t.Error("different Names are taken for the same")
	}
}

// TestPromise7WhatAFormatReads has each choice of up to three Ids, in each order.
func TestPromise7WhatAFormatReads(t *testing.T) {
	ids := []int{0, 1, 2, 3, 4, 5, 51}
	look := func(reads ...int) {
		t.Helper()
		for place := range 4 {
			list := []impl.Format{format(1, "a", 5), format(2, "b", 5), format(3, "c", 5), format(5, "d", 5)}
			list[place].Reads = reads
			if impl.AreFormats(list) != areFormatsByPairs(list) {
				t.Errorf("AreFormats(%v)", list)
			}
		}
	}
	look()
	for _, a := range ids {
		look(a)
		for _, b := range ids {
			look(a, b)
			for _, c := range ids {
				look(a, b, c)
			}
		}
	}
	if !impl.AreFormats(fullFormats()) || len(fullFormats()[1].Reads) != 9 {
		t.Error("a Format does not Read all others")
	}
}

func TestPromise7AreCopies(t *testing.T) {
	if !impl.AreCopies(sixFormats(), sixCopies()) || !impl.AreCopies(fullFormats(), fullCopies()) || len(fullCopies()) != 15 {
		t.Error("Copies are refused")
	}
	for _, list := range someFormats() {
		for mix := range 4 {
			if copies := copiesIn(list, mix); !areCopiesByPairs(list, copies) || !impl.AreCopies(list, copies) {
				t.Errorf("%v are no Copies in %v", copies, list)
			}
		}
		if !impl.AreCopies(list, nil) || !impl.AreCopies(list, []impl.Copy{}) {
			t.Errorf("no Copies are none in %v", list)
		}
	}
	for _, copies := range wrongCopies() {
		if areCopiesByPairs(sixFormats(), copies) {
			t.Fatal("the test has right Copies", copies)
		}
		checkNoCopies(t, sixFormats(), copies)
		if len(copies) > 0 {
			checkNoCopies(t, nil, copies)
		}
	}
	checkNoCopies(t, nil, sixCopies())
	checkNoCopies(t, sixFormats()[:5], sixCopies())
	checkNoCopies(t, sixFormats()[1:], sixCopies())
	checkNoCopies(t, fullFormats(), append(fullCopies(), copied(999, 2, 5, 10)))
	var many []impl.Copy
	for i := range 17 {
		if impl.AreCopies(sixFormats(), many) != (i <= 15) {
			t.Error("AreCopies of", i, "Copies")
		}
		many = append(many, copied(i+1, 2, 5, 10))
	}
}

func TestPromise7NumbersOfACopy(t *testing.T) {
	for _, record := range []int{-1, 0, 1, 2, 998, 999, 1000} {
		for _, id := range []int{-1, 0, 1, 2, 3, 30, 31, 32, 50, 51} {
			for _, size := range []int{-1, 0, 1, 999999, 1000000, 1000001} {
				for _, seen := range []int{-1, 0, 1, impl.MaxDay, impl.MaxDay + 1} {
					copies := []impl.Copy{copied(record, id, size, seen)}
					if impl.AreCopies(sixFormats(), copies) != areCopiesByPairs(sixFormats(), copies) {
						t.Errorf("AreCopies(%v)", copies)
					}
				}
			}
		}
	}
	for choice := range 81 {
		copies := []impl.Copy{copied(5, 2, 5, 10), copied(4+choice%3, 2+choice/3%3, 5, 10), copied(4+choice/9%3, 2+choice/27, 5, 10)}
		list := []impl.Format{format(2, "a", 5), format(3, "b", 5), format(4, "c", 5)}
		if impl.AreCopies(list, copies) != areCopiesByPairs(list, copies) {
			t.Errorf("AreCopies(%v, %v)", list, copies)
		}
	}
}

func TestPromise7IsReadable(t *testing.T) {
	list := sixFormats()
	for id, last := range map[int]int{2: 900, 3: 300, 7: 900, 8: 900, 20: 900, 31: 900} {
		for day := range 1000 {
			checkReadable(t, list, id, day, day <= last)
		}
		checkReadable(t, list, id, impl.MaxDay, false)
	}
	full := fullFormats()
	for _, f := range full {
		checkReadable(t, full, f.Id, 0, true)
		checkReadable(t, full, f.Id, impl.MaxDay, true)
	}
	checkReadable(t, full[:1], 1, 0, true)
	checkReadable(t, full[:1], 1, 1, false)
	checkReadable(t, full[:1], 1, impl.MaxDay, false)
}

func TestPromise7FormatsThatHaveEndedButAreRead(t *testing.T) {
	lives := []impl.Format{format(1, "a", 10), format(2, "b", 30, 1)}
	ended := []impl.Format{format(1, "a", 10), format(2, "b", 20, 1)}
	both := []impl.Format{format(1, "a", 10), format(2, "b", 20, 1), format(3, "c", 30, 2)}
	direct := []impl.Format{format(1, "a", 10), format(2, "b", 20, 1), format(3, "c", 30, 1, 2)}
	backwards := []impl.Format{format(1, "a", 10, 2), format(2, "b", 30)}
	checkReadable(t, lives, 1, 25, true)
	checkReadable(t, lives, 1, 30, true)
	checkReadable(t, lives, 1, 31, false)
	checkReadable(t, ended, 1, 20, true)
	checkReadable(t, ended, 1, 21, false)
	checkReadable(t, both, 1, 25, false)
	checkReadable(t, both, 2, 25, true)
	checkReadable(t, both, 2, 31, false)
	checkReadable(t, direct, 1, 25, true)
	checkReadable(t, backwards, 1, 25, false)
	checkReadable(t, backwards, 1, 10, true)
	checkReadable(t, backwards, 2, 30, true)
	checkReadable(t, backwards, 2, 31, false)
	mutual := []impl.Format{format(1, "a", 10, 2), format(2, "b", 20, 1)}
	checkReadable(t, mutual, 1, 20, true)
	checkReadable(t, mutual, 1, 21, false)
	checkReadable(t, mutual, 2, 20, true)
	checkReadable(t, mutual, 2, 21, false)
}

func TestPromise7LastReadable(t *testing.T) {
	checkLast(t, []impl.Format{format(1, "a", 10), format(2, "b", 30)}, 1, 10)
	checkLast(t, []impl.Format{format(1, "a", 10), format(2, "b", 30, 1)}, 1, 30)
	checkLast(t, []impl.Format{format(1, "a", 10), format(2, "b", 5, 1)}, 1, 10)
	checkLast(t, []impl.Format{format(1, "a", 10), format(2, "b", 10, 1)}, 1, 10)
	checkLast(t, []impl.Format{format(1, "a", 10), format(2, "b", 30, 1), format(3, "c", 40, 1), format(4, "d", 20, 1)}, 1, 40)
	checkLast(t, []impl.Format{format(1, "a", 10), format(2, "b", 40, 1), format(3, "c", 30, 1)}, 1, 40)
	checkLast(t, []impl.Format{format(1, "a", 10), format(2, "b", 20, 1), format(3, "c", 30, 2)}, 1, 20)
	checkLast(t, []impl.Format{format(1, "a", 40), format(2, "b", 5, 1), format(3, "c", 7, 1)}, 1, 40)
	checkLast(t, []impl.Format{format(1, "a", 0)}, 1, 0)
	checkLast(t, []impl.Format{format(1, "a", 0, 50), format(50, "b", impl.MaxDay)}, 1, 0)
	checkLast(t, []impl.Format{format(1, "a", 0), format(50, "b", impl.MaxDay, 1)}, 1, impl.MaxDay)
	checkLast(t, []impl.Format{format(1, "a", impl.MaxDay, 50), format(50, "b", 0)}, 50, impl.MaxDay)
	for _, list := range someFormats() {
		for _, f := range list {
			day := impl.MaxDay
			for !readableOn(list, f.Id, day) {
				day--
			}
			checkLast(t, list, f.Id, day)
		}
	}
}

func TestPromise7LostRecords(t *testing.T) {
	list := sixFormats()
	copies := sixCopies()
	checkLost(t, list, copies, 0)
	checkLost(t, list, copies, 900)
	checkLost(t, list, copies, 901, 1, 4, 5, 900)
	checkLost(t, list, copies, impl.MaxDay, 1, 4, 5, 900)
	checkLost(t, list[:4], copies[:3], 200)
	checkLost(t, list[:4], copies[:3], 301, 1, 4)
	checkLost(t, list[:4], copies[4:], 50)
	checkLost(t, list[:4], copies[4:], 51, 5)
	checkLost(t, list[:4], copies[4:], 301, 5, 900)
	checkLost(t, list, nil, impl.MaxDay)
	checkLost(t, nil, nil, 0)
	last := []impl.Format{format(1, "a", impl.MaxDay-1), format(50, "b", 0)}
	checkLost(t, last, []impl.Copy{copied(1, 1, 1, 0), copied(999, 50, 1000000, 0)}, impl.MaxDay, 1, 999)
	checkLost(t, last, []impl.Copy{copied(1, 1, 1, 0), copied(999, 50, 1000000, 0)}, impl.MaxDay-1, 999)
	checkLost(t, last, []impl.Copy{copied(1, 1, 1, 0), copied(999, 50, 1000000, 0)}, 0)
}

// TestPromise7RecordsWithSeveralCopies has a Record for each set of three Formats that end one after the other.
func TestPromise7RecordsWithSeveralCopies(t *testing.T) {
	for order := range 27 {
		list := []impl.Format{format(1, "a", 10+order%3), format(2, "b", 10+order/3%3), format(3, "c", 10+order/9)}
		var copies []impl.Copy
		for set := 1; set < 8; set++ {
			for i := range 3 {
				if set>>i&1 == 1 {
					copies = append(copies, copied(100*set+1, i+1, 5, 10))
				}
			}
		}
		for day := 9; day <= 13; day++ {
			checkCopiesOn(t, list, copies, day)
		}
	}
	list := []impl.Format{format(1, "a", 10), format(2, "b", 20), format(3, "c", 30)}
	copies := []impl.Copy{copied(7, 1, 5, 0), copied(7, 2, 5, 0), copied(7, 3, 5, 0)}
	checkLost(t, list, copies, 10)
	checkLost(t, list, copies, 15)
	checkLost(t, list, copies, 25)
	checkLost(t, list, copies, 31, 7)
	checkLost(t, list, copies[:2], 25, 7)
}

func TestPromise7WaysTo(t *testing.T) {
	list := sixFormats()
	checkWays(t, list, 2, 0, 2, 3, 7, 20, 31)
	checkWays(t, list, 2, 200, 2, 3, 7, 20, 31)
	checkWays(t, list, 2, 201, 2, 3, 20, 31)
	checkWays(t, list, 2, 301, 2, 20, 31)
	checkWays(t, list, 2, 900, 2, 20, 31)
	checkWays(t, list, 2, 901, 2)
	checkWays(t, list, 3, 200, 3, 7, 20, 31)
	checkWays(t, list, 3, 201, 3)
	checkWays(t, list, 7, 201, 3, 7, 20, 31)
	checkWays(t, list, 8, 51, 8, 20, 31)
	checkWays(t, list, 20, 0, 20, 31)
	checkWays(t, list, 20, 901, 20)
	checkWays(t, list, 31, 0, 31)
	checkWays(t, list, 31, impl.MaxDay, 31)
	full := fullFormats()
	checkWays(t, full, 1, 0, 1, 2, 3, 4, 5, 10, 20, 30, 49, 50)
	checkWays(t, full, 1, impl.MaxDay, 1, 2)
	checkWays(t, full, 50, impl.MaxDay, 2, 50)
	checkWays(t, full, 49, 401, 2, 20, 30, 49, 50)
}

func TestPromise7ShortestPath(t *testing.T) {
	list := sixFormats()
	checkShortest(t, list, 0, 2, 3)
	checkShortest(t, list, 0, 2, 20)
	checkShortest(t, list, 0, 2, 3, 7)
	checkShortest(t, list, 0, 2, 20, 31)
	checkShortest(t, list, 900, 2, 20, 31)
	checkShortest(t, list, 0, 3, 7, 20, 31)
	checkShortest(t, list, 200, 3, 7, 20)
	checkNoPath(t, list, 3, 20, 201)
	checkNoPath(t, list, 2, 20, 901)
	checkNoPath(t, list, 3, 2, 0)
	checkNoPath(t, list, 31, 20, 0)
	checkNoPath(t, list, 2, 8, 0)
	checkShortest(t, fullFormats(), 0, 1, 2)
	checkShortest(t, fullFormats(), 1, 50, 2, 4, 5, 10)
	checkShortest(t, fullFormats(), 0, 50, 2, 4)
	checkNoPath(t, fullFormats(), 50, 4, 2)
	row := formatsInARow(impl.MaxFormats)
	checkShortest(t, row, 991, 1, 4, 7, 10, 13, 16, 19, 22, 25, 28)
	checkNoPath(t, row, 1, 28, 992)
	checkShortest(t, row, 992, 1, 4, 7, 10, 13, 16, 19, 22, 25)
	checkNoPath(t, row, 28, 1, 0)
}

func TestPromise7PathsToThemselves(t *testing.T) {
	for _, list := range someFormats() {
		for _, f := range list {
			for _, day := range daysOfFormats(list) {
				checkShortest(t, list, day, f.Id)
				if ways, ok := impl.WaysTo(list, f.Id, day); !ok || !slices.Contains(ways, f.Id) {
					t.Errorf("WaysTo(%v, %d, %d) = %v, %v", list, f.Id, day, ways, ok)
				}
			}
		}
	}
	alone := []impl.Format{format(4, "law", 10)}
	checkShortest(t, alone, 10, 4)
	checkShortest(t, alone, 11, 4)
	checkWays(t, alone, 4, 10, 4)
	checkWays(t, alone, 4, 11, 4)
	checkLongest(t, alone, 4, 10, 4)
	checkLongest(t, alone, 4, 11, 4)
	mutual := []impl.Format{format(1, "a", 10, 2), format(2, "b", 20, 1)}
	checkShortest(t, mutual, 10, 1)
	checkShortest(t, mutual, 15, 2)
}

func TestPromise7TheSmallestOfSeveralPaths(t *testing.T) {
	two := []impl.Format{format(1, "a", 9), format(2, "b", 9, 1), format(3, "c", 9, 1), format(4, "d", 9, 2, 3)}
	checkShortest(t, two, 9, 1, 2, 4)
	two[1].Until = 8
	checkShortest(t, two, 9, 1, 3, 4)
	checkShortest(t, two, 8, 1, 2, 4)
	late := []impl.Format{format(1, "a", 9, 4), format(2, "b", 9, 4), format(3, "c", 9, 1, 2), format(4, "d", 9)}
	checkShortest(t, late, 9, 4, 1, 3)
	crossed := []impl.Format{format(1, "a", 9), format(2, "b", 9, 1), format(3, "c", 9, 1), format(4, "d", 9, 3), format(5, "e", 9, 2), format(6, "f", 9, 4, 5)}
	checkShortest(t, crossed, 9, 1, 2, 5, 6)
	checkShortest(t, crossed[:5], 9, 1, 3, 4)
	smaller := []impl.Format{format(1, "a", 9, 5), format(2, "b", 9, 1), format(3, "c", 9, 2), format(4, "d", 9, 5), format(5, "e", 9), format(9, "f", 9, 3, 4)}
	checkShortest(t, smaller, 9, 5, 4, 9)
	smaller[3].Until = 8
	checkShortest(t, smaller, 9, 5, 1, 2, 3, 9)
	direct := []impl.Format{format(1, "a", 9), format(2, "b", 9, 1), format(3, "c", 9, 1, 2)}
	checkShortest(t, direct, 9, 1, 3)
	checkShortest(t, direct, 9, 1, 2)
}

func TestPromise7Cycles(t *testing.T) {
	ring := []impl.Format{format(1, "a", 9, 3), format(2, "b", 8, 1), format(3, "c", 7, 2)}
	checkShortest(t, ring, 7, 1, 2, 3)
	checkShortest(t, ring, 7, 2, 3, 1)
	checkShortest(t, ring, 7, 3, 1, 2)
	for id := 1; id <= 3; id++ {
		checkWays(t, ring, id, 7, 1, 2, 3)
		checkWays(t, ring, id, 10, id)
	}
	checkWays(t, ring, 1, 8, 1, 2)
	checkWays(t, ring, 2, 8, 2)
	checkWays(t, ring, 3, 8, 1, 2, 3)
	checkNoPath(t, ring, 2, 1, 8)
	mutual := []impl.Format{format(1, "a", 9, 2), format(2, "b", 9, 1), format(3, "c", 9)}
	checkWays(t, mutual, 1, 9, 1, 2)
	checkWays(t, mutual, 2, 9, 1, 2)
	checkWays(t, mutual, 3, 9, 3)
	checkShortest(t, mutual, 9, 1, 2)
	checkShortest(t, mutual, 9, 2, 1)
	checkNoPath(t, mutual, 1, 3, 9)
	checkNoPath(t, mutual, 3, 1, 0)
}

func TestPromise7PathsFromAndToFormatsThatHaveEnded(t *testing.T) {
	list := []impl.Format{format(1, "a", 5), format(2, "b", 20, 1), format(3, "c", 10, 2)}
	checkShortest(t, list, 10, 1, 2, 3)
	checkShortest(t, list, 20, 1, 2)
	checkWays(t, list, 1, 20, 1, 2)
	checkNoPath(t, list, 1, 3, 11)
	checkNoPath(t, list, 2, 3, 11)
	checkNoPath(t, list, 1, 2, 21)
	checkWays(t, list, 1, 21, 1)
	middle := []impl.Format{format(1, "a", 20), format(2, "b", 10, 1), format(3, "c", 20, 2)}
	checkShortest(t, middle, 10, 1, 2, 3)
	checkNoPath(t, middle, 1, 3, 11)
	checkShortest(t, middle, 11, 2, 3)
	checkWays(t, middle, 1, 11, 1)
	ends := []impl.Format{format(1, "a", 0), format(50, "b", impl.MaxDay, 1)}
	checkShortest(t, ends, impl.MaxDay, 1, 50)
	checkWays(t, ends, 1, impl.MaxDay, 1, 50)
	checkWays(t, ends, 50, impl.MaxDay, 50)
	checkNoPath(t, ends, 50, 1, 0)
	zero := []impl.Format{format(1, "a", 0, 50), format(50, "b", impl.MaxDay)}
	checkShortest(t, zero, 0, 50, 1)
	checkNoPath(t, zero, 50, 1, 1)
}

func TestPromise7LongestLived(t *testing.T) {
	list := sixFormats()
	checkLongest(t, list, 2, 0, 20)
	checkLongest(t, list, 2, 901, 2)
	checkLongest(t, list[:4], 2, 200, 3)
	checkLongest(t, list[:4], 7, 0, 3)
	checkLongest(t, list, 31, 0, 31)
	checkLongest(t, list, 3, 201, 3)
	checkLongest(t, list, 8, 900, 20)
	equal := []impl.Format{format(1, "a", 5), format(2, "b", 9, 1), format(3, "c", 9, 1), format(4, "d", 9, 2)}
	checkLongest(t, equal, 1, 5, 2)
	checkLongest(t, equal, 1, 9, 2)
	checkLongest(t, equal, 1, 10, 1)
	checkLongest(t, equal, 3, 0, 3)
	back := []impl.Format{format(1, "a", 9, 3), format(2, "b", 20), format(3, "c", 9)}
	checkLongest(t, back, 3, 9, 1)
	checkLongest(t, back, 3, 10, 3)
	checkLongest(t, back, 1, 9, 1)
	shorter := []impl.Format{format(1, "a", 9), format(2, "b", 7, 1), format(3, "c", 8, 2)}
	checkLongest(t, shorter, 1, 7, 1)
	checkLongest(t, shorter, 2, 8, 3)
	zeros := []impl.Format{format(1, "a", 0, 2), format(2, "b", 0)}
	checkLongest(t, zeros, 2, 0, 1)
	checkLongest(t, zeros, 2, 1, 2)
	checkLongest(t, zeros, 2, impl.MaxDay, 2)
	checkLongest(t, fullFormats(), 1, 0, 2)
	checkLongest(t, fullFormats(), 50, impl.MaxDay, 2)
	checkLongest(t, []impl.Format{format(1, "a", 3), format(50, "b", impl.MaxDay, 1)}, 1, impl.MaxDay, 50)
}

func TestPromise7Unseen(t *testing.T) {
	list := sixFormats()
	copies := sixCopies()
	checkUnseen(t, list, copies, 100, 10, 1, 3, 4, 5)
	checkUnseen(t, list, copies, 100, 9, 0, 1, 3, 4, 5)
	checkUnseen(t, list, copies, 100, 5, 0, 1, 3, 4, 5)
	checkUnseen(t, list, copies, 100, 4, 0, 1, 2, 3, 4, 5)
	checkUnseen(t, list, copies, 100, 0, 0, 1, 2, 3, 4, 5)
	checkUnseen(t, list, copies, 100, 99, 5)
	checkUnseen(t, list, copies, 100, 100)
	checkUnseen(t, list, copies, 95, 0, 0, 1, 3, 4, 5)
	checkNoUnseen(t, list, copies, 94, 0)
	checkNoUnseen(t, list, copies, 94, impl.MaxDay)
	checkNoUnseen(t, list, copies, 0, 0)
	checkUnseen(t, list, copies[5:], 0, 0)
	checkUnseen(t, list, copies[5:], 1, 0, 0)
	checkUnseen(t, list, copies[5:], impl.MaxDay, impl.MaxDay)
	checkUnseen(t, list, copies[5:], impl.MaxDay, impl.MaxDay-1, 0)
	one := []impl.Copy{copied(7, 2, 5, impl.MaxDay)}
	checkUnseen(t, list, one, impl.MaxDay, 0)
	checkUnseen(t, list, one, impl.MaxDay, impl.MaxDay)
	checkNoUnseen(t, list, one, impl.MaxDay-1, 0)
	checkNoUnseen(t, list, []impl.Copy{copied(7, 2, 5, 50), copied(8, 2, 5, 51)}, 50, 0)
	checkNoUnseen(t, list, []impl.Copy{copied(7, 2, 5, 51), copied(8, 2, 5, 0)}, 50, 0)
	checkUnseen(t, list, nil, 0, 0)
	checkUnseen(t, nil, nil, impl.MaxDay, impl.MaxDay)
	checkUnseen(t, fullFormats(), fullCopies(), impl.MaxDay, impl.MaxDay-1, 0, 2)
	checkNoUnseen(t, fullFormats(), fullCopies(), impl.MaxDay-1, 0)
}

// TestPromise7DaysUnseen has a Copy that was Seen on each of some days, looked at on each of them.
func TestPromise7DaysUnseen(t *testing.T) {
	list := []impl.Format{format(2, "a", 0)}
	for seen := range 8 {
		for day := range 8 {
			for days := range 8 {
				copies := []impl.Copy{copied(1, 2, 5, 0), copied(2, 2, 5, seen)}
				switch {
				case seen > day:
					checkNoUnseen(t, list, copies, day, days)
				case seen+days < day:
					checkUnseen(t, list, copies, day, days, 0, 1)
				case days < day:
					checkUnseen(t, list, copies, day, days, 0)
				default:
					checkUnseen(t, list, copies, day, days)
				}
			}
		}
	}
}

func TestPromise7SizeByFormat(t *testing.T) {
	checkSizes(t, sixFormats(), sixCopies(), 560, 7, 0, 23, 0, 1000)
	checkSizes(t, sixFormats(), sixCopies()[5:], 60, 0, 0, 0, 0, 0)
	checkSizes(t, sixFormats(), nil, 0, 0, 0, 0, 0, 0)
	checkSizes(t, sixFormats()[:1], []impl.Copy{copied(1, 2, 1, 0), copied(999, 2, 1000000, 0)}, 1000001)
	checkSizes(t, nil, nil)
	checkSizes(t, []impl.Format{}, []impl.Copy{})
	var most []impl.Copy
	for i := range 15 {
		most = append(most, copied(i+1, 50, 1000000, 0))
	}
	checkSizes(t, fullFormats(), most, 0, 0, 0, 0, 0, 0, 0, 0, 0, 15000000)
}

func TestPromise7ListsOfAllKinds(t *testing.T) {
	for mix, list := range someFormats() {
		for _, day := range daysOfFormats(list) {
			checkFormatsOn(t, list, day)
			checkCopiesOn(t, list, copiesIn(list, mix), day)
		}
		checkCopiesOn(t, list, copiesIn(list, mix), 79)
	}
	for _, day := range append(daysOfFormats(fullFormats()), 29, 30, 31, 300, 301) {
		checkCopiesOn(t, fullFormats(), fullCopies(), day)
	}
}

// TestPromise7AllSmallLists has each choice of what four Formats Read, and which of them have ended.
func TestPromise7AllSmallLists(t *testing.T) {
	for reads := range 1 << 12 {
		untils := []int{5 + reads&1, 5 + reads>>4&1, 5 + reads>>7&1, 5 + reads>>10&1}
		checkFormatsOn(t, formatsOfChoice(4, reads, 6), 6)
		checkFormatsOn(t, formatsOfChoice(4, reads, untils...), 6)
	}
	for reads := range 64 {
		for ended := range 27 {
			list := formatsOfChoice(3, reads, ended%3, ended/3%3, ended/9)
			for day := range 4 {
				checkFormatsOn(t, list, day)
			}
		}
	}
}

// TestPromise7ToEachWayThereIsAPath holds the first half of the promise for the results of the program alone.
func TestPromise7ToEachWayThereIsAPath(t *testing.T) {
	paths := 0
	for _, list := range someFormats() {
		for _, day := range daysOfFormats(list) {
			for _, from := range list {
				ways, ok := impl.WaysTo(list, from.Id, day)
				for _, to := range list {
					path, found := impl.ShortestPath(list, from.Id, to.Id, day)
					if !ok || found != slices.Contains(ways, to.Id) {
						t.Fatalf("from %d to %d in %v on %d: ways %v, path %v", from.Id, to.Id, list, day, ways, path)
					}
					if found && (path[0] != from.Id || path[len(path)-1] != to.Id || !isPathOn(list, path, day)) {
						t.Errorf("%v is no path from %d to %d in %v on %d", path, from.Id, to.Id, list, day)
					}
					paths += len(path)
				}
			}
		}
	}
	if paths < 10000 {
		t.Error("the paths have only", paths, "Formats")
	}
}

// isPathOn reports whether each Format behind the first one of a path can be used on a day, and Reads the one before it.
func isPathOn(list []impl.Format, path []int, day int) bool {
	for i, id := range path[1:] {
		place := slices.IndexFunc(list, func(f impl.Format) bool { return f.Id == id })
		if place < 0 || !readsIt(list[place], path[i], day) {
			return false
		}
	}
	return true
}

// TestPromise7LostRecordsStayLost holds the second half of the promise for the results of the program alone.
func TestPromise7LostRecordsStayLost(t *testing.T) {
	most := 0
	for mix, list := range someFormats() {
		copies := copiesIn(list, mix)
		var before []int
		for _, day := range daysOfFormats(list) {
			lost, ok := impl.LostRecords(list, copies, day)
			for _, record := range before {
				if !ok || !slices.Contains(lost, record) {
					t.Errorf("Record %d of %v in %v is found again on %d", record, copies, list, day)
				}
			}
			before = lost
		}
		most += len(before)
	}
	if most < 100 {
		t.Error("only", most, "Records are lost")
	}
}

func TestPromise7TheEmptyList(t *testing.T) {
	for _, empty := range [][]impl.Format{nil, {}, sixFormats()[:0]} {
		if !impl.AreFormats(empty) || !impl.AreCopies(empty, nil) || impl.AreCopies(empty, sixCopies()) {
			t.Error("the empty list")
		}
		for _, id := range append([]int{0, 1, 2, 50, 51}, extremes...) {
			checkNoFormatId(t, empty, id)
		}
		for _, day := range []int{0, 1, impl.MaxDay} {
			checkLost(t, empty, nil, day)
			checkUnseen(t, empty, nil, day, 0)
		}
		checkSizes(t, empty, nil)
	}
}

func TestPromise7IdsThatAreNotInTheList(t *testing.T) {
	for _, list := range [][]impl.Format{sixFormats(), fullFormats(), formatsInARow(4), sixFormats()[:1]} {
		for id := -2; id <= 53; id++ {
			if !hasFormat(list, id) {
				checkNoFormatId(t, list, id)
			}
		}
		for _, id := range extremes {
			checkNoFormatId(t, list, id)
		}
	}
}

func TestPromise7NumbersThatAreNoDays(t *testing.T) {
	for _, list := range [][]impl.Format{sixFormats(), fullFormats(), formatsInARow(4), nil} {
		for _, day := range append([]int{-1, impl.MaxDay + 1}, extremes...) {
			for _, f := range list {
				checkNotOn(t, list, f.Id, day)
			}
			for _, copies := range [][]impl.Copy{nil, copiesIn(list, 1)} {
				checkNoLostOn(t, list, copies, day)
				for _, n := range []int{-1, 0, 5, impl.MaxDay, impl.MaxDay + 1} {
					checkNoUnseen(t, list, copies, day, n)
					checkNoUnseen(t, list, copies, 100, day)
					checkNoUnseen(t, list, copies, impl.MaxDay, day)
				}
			}
		}
	}
}

// useFormats calls each function of the chapter.
func useFormats(list []impl.Format, copies []impl.Copy, numbers []int) {
	for _, n := range numbers {
		impl.LastReadable(list, n)
		impl.LostRecords(list, copies, n)
		for _, day := range numbers {
			impl.IsReadable(list, n, day)
			impl.WaysTo(list, n, day)
			impl.LongestLived(list, n, day)
			impl.Unseen(list, copies, n, day)
			for _, to := range numbers[:min(len(numbers), 8)] {
				impl.ShortestPath(list, n, to, day)
			}
		}
	}
	impl.AreFormats(list)
	impl.AreCopies(list, copies)
	impl.SizeByFormat(list, copies)
}

func TestPromise29FormatsReturnForAllArguments(t *testing.T) {
	numbers := append([]int{0, 1, 2, 3, 7, 20, 31, 50, 100, impl.MaxDay}, extremes...)
	lists := append(wrongFormatLists(), nil, sixFormats(), fullFormats(), make([]impl.Format, 1<<16))
	long := make([]int, 1<<16)
	for i := range long {
		long[i] = i + 1
	}
	lists = append(lists, []impl.Format{format(1, "\xff\xfe", 10, long...)}, []impl.Format{format(1, "a", 10), format(2, "b", 10, long...)}, []impl.Format{format(1, "\x00", 10)})
	for _, list := range lists {
		useFormats(list, sixCopies(), numbers)
		useFormats(list, nil, numbers[:3])
	}
	for _, copies := range append(wrongCopies(), fullCopies()) {
		useFormats(sixFormats(), copies, numbers[:8])
		useFormats(fullFormats(), copies, []int{math.MinInt, math.MaxInt})
		useFormats(nil, copies, numbers[:2])
	}
}

// roomyFormats has a list of as many of sixFormats, with the others behind its length, and with room behind the length of what each Reads.
func roomyFormats(length int) []impl.Format {
	all := sixFormats()
	for i, f := range all {
		all[i].Reads = append(slices.Clone(f.Reads), 50, 2, 3, -1)[:len(f.Reads)]
		if i < length {
			all[i].Reads = slices.DeleteFunc(all[i].Reads, func(id int) bool { return !hasFormat(all[:length], id) })
		}
	}
	return all[:length]
}

// roomyCopies has those of sixCopies that are in a list, with room behind them.
func roomyCopies(list []impl.Format) []impl.Copy {
	copies := slices.DeleteFunc(sixCopies(), func(c impl.Copy) bool { return !hasFormat(list, c.Format) })
	return append(copies, copied(-1, -1, -1, -1), copied(901, 2, 5, 10), copied(902, 2, 5, 10))[:len(copies)]
}

// textOfFormats shows a list as far as its memory reaches.
func textOfFormats(list []impl.Format) string {
	var text strings.Builder
	for _, f := range list[:cap(list)] {
		fmt.Fprintln(&text, f.Id, f.Name, f.Until, len(f.Reads), f.Reads[:cap(f.Reads)])
	}
	return text.String()
}

func TestPromise29FormatsAreNotModified(t *testing.T) {
	numbers := []int{-1, 0, 1, 2, 3, 7, 8, 20, 31, 50, 100, 200, 300, 900, 20000}
	lists := append(wrongFormatLists(), fullFormats(), []impl.Format{}, []impl.Format{{}})
	for length := range len(sixFormats()) + 1 {
		lists = append(lists, roomyFormats(length), append(make([]impl.Format, 0, 20), roomyFormats(length)...))
	}
	for _, list := range lists {
		for _, copies := range [][]impl.Copy{roomyCopies(list), fullCopies(), sixCopies()[:3], {copied(2, 2, 5, 10), copied(1, 2, 5, 10)}} {
			kept, keptCopies := textOfFormats(list), slices.Clone(copies[:cap(copies)])
			useFormats(list, copies, numbers)
			if textOfFormats(list) != kept || !slices.Equal(copies[:cap(copies)], keptCopies) {
				t.Fatalf("the lists changed to %s, %v", brief(textOfFormats(list)), copies[:cap(copies)])
			}
		}
	}
}

func TestPromise29FormatsBehindTheLengthAreNotUsed(t *testing.T) {
	for length := range len(sixFormats()) + 1 {
		list := roomyFormats(length)
		copies := roomyCopies(list)
		if !impl.AreFormats(list) || !impl.AreCopies(list, copies) {
			t.Fatalf("the lengths of %s and %v are not kept to", textOfFormats(list), copies)
		}
		for _, day := range []int{0, 50, 51, 100, 200, 201, 300, 301, 900, 901} {
			checkFormatsOn(t, list, day)
			checkCopiesOn(t, list, copies, day)
		}
		for _, f := range sixFormats()[length:] {
			checkNoFormatId(t, list, f.Id)
			checkNoCopies(t, list, []impl.Copy{copied(1, f.Id, 5, 10)})
		}
		if length > 0 {
			checkNoCopies(t, list, copies[:len(copies)+1])
		}
	}
}

// scribbleFormats overwrites a list of Formats, and what they Read, as far as its memory reaches.
func scribbleFormats(list []impl.Format) {
	all := list[:cap(list)]
	for i := range all {
		scribbleNumbers(all[i].Reads)
		all[i] = format(-7, "scribbled", -7, -7)
	}
}

// checkFormatsUnshared looks that neither an argument nor a second result changes with the memory of the first one.
func checkFormatsUnshared(t *testing.T, name string, act func([]impl.Format, []impl.Copy) ([]int, bool)) {
	t.Helper()
	list := roomyFormats(6)
	copies := roomyCopies(list)
	kept, keptCopies := textOfFormats(list), slices.Clone(copies)
	first, ok := act(list, copies)
	second, fine := act(list, copies)
	want := slices.Clone(second)
	scribbleNumbers(first)
	if !ok || !fine || len(want) == 0 || !slices.Equal(second, want) || textOfFormats(list) != kept || !slices.Equal(copies, keptCopies) {
		t.Errorf("a result of %s shares memory: %v, %s, %v", name, second, textOfFormats(list), copies)
	}
	scribbleFormats(list)
	for i := range copies {
		copies[i] = copied(-7, -7, -7, -7)
	}
	if !slices.Equal(second, want) {
		t.Errorf("an argument of %s shares memory: %v", name, second)
	}
}

func TestPromise29FormatsShareNoMemory(t *testing.T) {
	for _, f := range sixFormats() {
		for _, day := range []int{0, 201, impl.MaxDay} {
			checkFormatsUnshared(t, "WaysTo", func(list []impl.Format, _ []impl.Copy) ([]int, bool) { return impl.WaysTo(list, f.Id, day) })
			checkFormatsUnshared(t, "ShortestPath", func(list []impl.Format, _ []impl.Copy) ([]int, bool) { return impl.ShortestPath(list, f.Id, f.Id, day) })
		}
	}
	checkFormatsUnshared(t, "ShortestPath", func(list []impl.Format, _ []impl.Copy) ([]int, bool) { return impl.ShortestPath(list, 3, 31, 0) })
	checkFormatsUnshared(t, "ShortestPath", func(list []impl.Format, _ []impl.Copy) ([]int, bool) { return impl.ShortestPath(list, 2, 3, 0) })
	checkFormatsUnshared(t, "LostRecords", func(list []impl.Format, copies []impl.Copy) ([]int, bool) { return impl.LostRecords(list, copies, 901) })
	checkFormatsUnshared(t, "Unseen", func(list []impl.Format, copies []impl.Copy) ([]int, bool) { return impl.Unseen(list, copies, 100, 5) })
	checkFormatsUnshared(t, "SizeByFormat", impl.SizeByFormat)
}
