package tests

import (
	"fmt"
	"math"
	"slices"
	"strings"
	"testing"

	"loop.example/g01035/impl"
)

func openFile(id, series int, title string, opened, pages int) impl.File {
	return impl.File{Id: id, Series: series, Title: title, Opened: opened, Pages: pages}
}

func closedFile(id, series int, title string, opened, closed, pages int) impl.File {
	return impl.File{Id: id, Series: series, Title: title, Opened: opened, Closed: closed, State: impl.FileClosed, Pages: pages}
}

func lentFile(id, series int, title string, opened, closed, pages int) impl.File {
	return impl.File{Id: id, Series: series, Title: title, Opened: opened, Closed: closed, State: impl.FileLent, Pages: pages}
}

// sevenFiles has each State, gaps between the Ids, Series in no order, Titles that several Series have, and several Files closed on the same day.
func sevenFiles() []impl.File {
	return []impl.File{
		openFile(2, 7, "appeals", 10, 300), closedFile(3, 7, "budget", 10, 15, 5), lentFile(5, 2, "appeals", 0, 15, 0),
		openFile(6, 40, "c", 0, 0), closedFile(8, 7, "claims", 12, 12, 5000), lentFile(20, 2, "budget", 12, 400, 70), closedFile(21, 40, "budget", 3, 15, 1),
	}
}

// fullFiles has as many Files as may be, some of which meet limits.
func fullFiles() []impl.File {
	return []impl.File{
		openFile(1, 1, "a", 0, 0), openFile(2, 99, "zzzzzzzzzz", impl.MaxDay, 5000), closedFile(3, 1, "b", 0, 1, 5000), closedFile(4, 1, "c", impl.MaxDay, impl.MaxDay, 0),
		lentFile(5, 99, "a", 0, impl.MaxDay, 1), lentFile(6, 99, "b", 1, 1, 4999), openFile(7, 50, "a", 500, 501), closedFile(500, 2, "a", 19999, 20000, 2),
		closedFile(998, 2, "b", 1, 20000, 3), openFile(999, 2, "c", 1, 2),
	}
}

// filesOfDayZero has Files of each State that were Opened on the day 0, two of them Closed on it, too.
func filesOfDayZero() []impl.File {
	return []impl.File{
		lentFile(3, 4, "a", 0, 0, 6), closedFile(5, 4, "b", 0, 1, 20), openFile(6, 2, "a", 0, 9), closedFile(8, 2, "b", 0, 0, 300), lentFile(9, 4, "c", 1, 1, 0),
	}
}

// filesInARow makes as many Files in ascending order, with each State and three Series.
func filesInARow(count int) []impl.File {
	var list []impl.File
	for i := range count {
		f := openFile(3*i+1, 1+i%3, strings.Repeat("t", 1+i/3), 5+i, 40*i)
		if i%4 > 0 {
			f.Closed = 9 + 2*(i/2)
			f.State = 1 + i%2
		}
		list = append(list, f)
	}
	return list
}

// filesOfAllStates has a list for each choice of a State for each of four Files.
func filesOfAllStates() [][]impl.File {
	var lists [][]impl.File
	for choice := range 81 {
		list := []impl.File{openFile(1, 1, "a", 0, 1), openFile(4, 2, "a", 7, 0), openFile(5, 1, "b", 7, 30), openFile(9, 2, "b", 1, 9)}
		for i := range list {
			list[i].State = choice % 3
			choice /= 3
			if list[i].State != impl.FileOpen {
				list[i].Closed = []int{30, 7, 8, 30}[i]
			}
		}
		lists = append(lists, list)
	}
	return lists
}

func someFiles() [][]impl.File {
	lists := append(filesOfAllStates(), nil, []impl.File{}, sevenFiles(), fullFiles(), filesOfDayZero())
	for count := range 11 {
		lists = append(lists, filesInARow(count))
	}
	return lists
}

// wrongFiles are invalid, most of them for one reason.
func wrongFiles() []impl.File {
	wrong := []impl.File{
		{}, openFile(0, 3, "law", 10, 5), openFile(1000, 3, "law", 10, 5), openFile(4, 0, "law", 10, 5), openFile(4, 100, "law", 10, 5),
		openFile(4, 3, "", 10, 5), openFile(4, 3, "lawlawlawla", 10, 5), openFile(4, 3, "Law", 10, 5), openFile(4, 3, "l w", 10, 5), openFile(4, 3, "laß", 10, 5),
		openFile(4, 3, "law", impl.MaxDay+1, 5), openFile(4, 3, "law", 10, -1), openFile(4, 3, "law", 10, 5001),
		closedFile(4, 3, "law", 10, 9, 5), lentFile(4, 3, "law", 10, 9, 5), closedFile(4, 3, "law", 10, 0, 5), lentFile(4, 3, "law", 10, 0, 5),
		closedFile(4, 3, "law", 1, 0, 5), lentFile(4, 3, "law", 1, 0, 5), closedFile(4, 3, "law", 10, impl.MaxDay+1, 5), lentFile(4, 3, "law", 10, impl.MaxDay+1, 5),
		{Id: 4, Series: 3, Title: "law", Opened: 10, Closed: 1}, {Id: 4, Series: 3, Title: "law", Opened: 10, Closed: 10}, {Id: 4, Series: 3, Title: "law", Opened: 10, Closed: 15},
		{Id: 4, Series: 3, Title: "law", Opened: 10, State: -1}, {Id: 4, Series: 3, Title: "law", Opened: 10, State: 3},
		{Id: 4, Series: 3, Title: "law", Opened: 10, Closed: 15, State: -1}, {Id: 4, Series: 3, Title: "law", Opened: 10, Closed: 15, State: 3},
	}
	for _, n := range extremes {
		wrong = append(wrong, openFile(n, 3, "law", 10, 5), openFile(4, n, "law", 10, 5), openFile(4, 3, "law", n, 5), openFile(4, 3, "law", 10, n),
			closedFile(4, 3, "law", 10, n, 5), lentFile(4, 3, "law", 10, n, 5), closedFile(4, 3, "law", n, n, 5),
			impl.File{Id: 4, Series: 3, Title: "law", Opened: 10, Closed: 15, State: n}, impl.File{Id: n, Series: n, Title: "law", Opened: n, Closed: n, State: n, Pages: n})
	}
	return wrong
}

// wrongFileLists are lists that are none of Files although each File in them is valid.
func wrongFileLists() [][]impl.File {
	return [][]impl.File{
		{openFile(4, 3, "law", 10, 50), openFile(4, 3, "law", 10, 50)},
		{openFile(4, 3, "law", 10, 50), openFile(4, 5, "tax", 10, 50)},
		{closedFile(5, 3, "law", 10, 15, 50), closedFile(4, 3, "tax", 10, 15, 50)},
		{openFile(1, 3, "law", 10, 50), lentFile(9, 3, "tax", 10, 15, 50), closedFile(8, 3, "c", 10, 15, 50)},
		{openFile(1, 3, "law", 10, 50), openFile(2, 3, "law", 10, 50)},
		{openFile(1, 3, "law", 10, 50), closedFile(2, 3, "law", 20, 25, 50)},
		{lentFile(1, 3, "law", 10, 15, 50), openFile(2, 4, "law", 10, 50), closedFile(3, 3, "law", 20, 25, 50)},
		append(fullFiles()[:9], openFile(999, 1, "a", 0, 50)),
		append(fullFiles()[:9], openFile(998, 3, "law", 0, 50)),
		append([]impl.File{openFile(1, 1, "other", 0, 50)}, fullFiles()[:9]...),
		filesInARow(impl.MaxFiles + 1),
		filesInARow(impl.MaxFiles + 2),
	}
}

func validFile(f impl.File) bool {
	numbers := f.Id > 0 && f.Id < 1000 && f.Series > 0 && f.Series < 100 && f.Opened > -1 && f.Opened < 20001 && f.Pages > -1 && f.Pages < 5001
	closed := f.Closed > -1 && f.Closed < 20001 && f.Opened <= f.Closed
	return numbers && wordly(f.Title) && (f.State == 0 && f.Closed == 0 || f.State == 1 && closed || f.State == 2 && closed)
}

// areFilesByPairs compares each File with each one behind it, wherever they stand.
func areFilesByPairs(list []impl.File) bool {
	for i, f := range list {
		if !validFile(f) {
			return false
		}
		for _, later := range list[i+1:] {
			if f.Id >= later.Id || f.Series == later.Series && f.Title == later.Title {
				return false
			}
		}
	}
	return len(list) <= 10
}

// placeOfId returns the place of a File, or -1.
func placeOfId(list []impl.File, id int) int {
	place := -1
	for i, f := range list {
		if f.Id == id {
			place = i
		}
	}
	return place
}

// withFile returns the list with another File at a place.
func withFile(list []impl.File, place int, f impl.File) []impl.File {
	changed := slices.Clone(list)
	changed[place] = f
	return changed
}

// fileAct is a function that changes a list of Files, with all other arguments fixed.
type fileAct struct {
	name string
	act  func([]impl.File) ([]impl.File, bool)
}

func closing(id, day int) fileAct {
	return fileAct{fmt.Sprintf("CloseFile(%d, %d)", id, day), func(list []impl.File) ([]impl.File, bool) { return impl.CloseFile(list, id, day) }}
}

func reopening(id int) fileAct {
	return fileAct{fmt.Sprintf("ReopenFile(%d)", id), func(list []impl.File) ([]impl.File, bool) { return impl.ReopenFile(list, id) }}
}

func lending(id int, back bool) fileAct {
	return fileAct{fmt.Sprintf("LendFile(%d, %v)", id, back), func(list []impl.File) ([]impl.File, bool) { return impl.LendFile(list, id, back) }}
}

func adding(id, pages int) fileAct {
	return fileAct{fmt.Sprintf("AddPages(%d, %d)", id, pages), func(list []impl.File) ([]impl.File, bool) { return impl.AddPages(list, id, pages) }}
}

func splitting(id, pages int, title string) fileAct {
	return fileAct{fmt.Sprintf("SplitFile(%d, %d, %q)", id, pages, title), func(list []impl.File) ([]impl.File, bool) {
		changed, _, ok := impl.SplitFile(list, id, pages, title)
		return changed, ok
	}}
}

func checkFiles(t *testing.T, list []impl.File, a fileAct, want []impl.File) {
	t.Helper()
	if changed, ok := a.act(list); !ok || !slices.Equal(changed, want) {
		t.Errorf("%s of %v = %v, %v", a.name, list, changed, ok)
	}
}

func checkNoFiles(t *testing.T, list []impl.File, a fileAct) {
	t.Helper()
	if changed, ok := a.act(list); ok || len(changed) != 0 {
		t.Errorf("%s of %s = %v, %v", a.name, brief(list), changed, ok)
	}
}

// checkFilesOr looks for a list where it is one of Files, and for a failure elsewhere.
func checkFilesOr(t *testing.T, list []impl.File, a fileAct, want []impl.File) {
	t.Helper()
	if areFilesByPairs(want) {
		checkFiles(t, list, a, want)
	} else {
		checkNoFiles(t, list, a)
	}
}

func checkSplitFile(t *testing.T, list []impl.File, id, pages int, title string, wantId int) {
	t.Helper()
	place := placeOfId(list, id)
	f := list[place]
	want := append(slices.Clone(list), openFile(wantId, f.Series, title, f.Opened, pages))
	want[place].Pages = f.Pages - pages
	changed, newId, ok := impl.SplitFile(list, id, pages, title)
	if !ok || newId != wantId || !slices.Equal(changed, want) {
		t.Errorf("SplitFile(%v, %d, %d, %q) = %v, %d, %v", list, id, pages, title, changed, newId, ok)
	}
}

func checkNoSplitFile(t *testing.T, list []impl.File, id, pages int, title string) {
	t.Helper()
	if changed, newId, ok := impl.SplitFile(list, id, pages, title); ok || newId != 0 || len(changed) != 0 {
		t.Errorf("SplitFile(%s, %d, %d, %.30q) = %v, %d, %v", brief(list), id, pages, title, changed, newId, ok)
	}
}

func checkClosedSince(t *testing.T, list []impl.File, from, to int, want ...int) {
	t.Helper()
	if ids, ok := impl.ClosedSince(list, from, to); !ok || !slices.Equal(ids, want) {
		t.Errorf("ClosedSince(%v, %d, %d) = %v, %v", list, from, to, ids, ok)
	}
}

func checkNotClosedSince(t *testing.T, list []impl.File, from, to int) {
	t.Helper()
	if ids, ok := impl.ClosedSince(list, from, to); ok || len(ids) != 0 {
		t.Errorf("ClosedSince(%s, %d, %d) = %v, %v", brief(list), from, to, ids, ok)
	}
}

func checkSeriesPages(t *testing.T, list []impl.File, want ...[]int) {
	t.Helper()
	if rows, ok := impl.SeriesPages(list); !ok || !slices.EqualFunc(rows, want, slices.Equal) {
		t.Errorf("SeriesPages(%v) = %v, %v", list, rows, ok)
	}
}

func checkDaysOpen(t *testing.T, list []impl.File, id, day, want int) {
	t.Helper()
	if days, ok := impl.DaysOpen(list, id, day); !ok || days != want {
		t.Errorf("DaysOpen(%v, %d, %d) = %d, %v", list, id, day, days, ok)
	}
}

func checkNoDaysOpen(t *testing.T, list []impl.File, id, day int) {
	t.Helper()
	if days, ok := impl.DaysOpen(list, id, day); ok || days != 0 {
		t.Errorf("DaysOpen(%s, %d, %d) = %d, %v", brief(list), id, day, days, ok)
	}
}

// checkNoFileId hands an Id that is not in the list to each function that takes one.
func checkNoFileId(t *testing.T, list []impl.File, id int) {
	t.Helper()
	for _, day := range []int{0, 1, 15, 500, impl.MaxDay} {
		checkNoFiles(t, list, closing(id, day))
		checkNoDaysOpen(t, list, id, day)
	}
	checkNoFiles(t, list, reopening(id))
	checkNoFiles(t, list, lending(id, false))
	checkNoFiles(t, list, lending(id, true))
	for _, pages := range []int{0, 1, 2, 500} {
		checkNoFiles(t, list, adding(id, pages))
		checkNoSplitFile(t, list, id, pages, "rest")
	}
}

// checkNoneOfFiles hands a list that is none of Files to each function.
func checkNoneOfFiles(t *testing.T, list []impl.File) {
	t.Helper()
	if impl.AreFiles(list) {
		t.Errorf("%s are Files", brief(list))
	}
	for _, id := range []int{-1, 0, 1, 2, 3, 4, 999, 1000} {
		checkNoFileId(t, list, id)
	}
	for _, f := range list[:min(len(list), 20)] {
		checkNoFileId(t, list, f.Id)
	}
	for _, from := range []int{0, 1, 15, impl.MaxDay} {
		checkNotClosedSince(t, list, from, from)
		checkNotClosedSince(t, list, from, impl.MaxDay)
	}
	if rows, ok := impl.SeriesPages(list); ok || len(rows) != 0 {
		t.Errorf("SeriesPages(%s) = %v, %v", brief(list), rows, ok)
	}
}

func TestPromise5Constants(t *testing.T) {
	if impl.MaxFiles != 10 || impl.FileOpen != 0 || impl.FileClosed != 1 || impl.FileLent != 2 {
		t.Error("the constants of the chapter are changed")
	}
}

func TestPromise5IsFile(t *testing.T) {
	for _, f := range []impl.File{
		openFile(1, 1, "a", 0, 0), openFile(999, 99, "zzzzzzzzzz", impl.MaxDay, 5000), openFile(4, 3, "law", 10, 5),
		closedFile(1, 1, "a", 0, 0, 0), lentFile(1, 1, "a", 0, 0, 0), closedFile(1, 1, "a", 0, 1, 0), lentFile(1, 1, "a", 0, 1, 0), closedFile(4, 3, "law", 10, 10, 5), lentFile(4, 3, "law", 10, 10, 5),
		closedFile(4, 3, "law", 10, 11, 5), lentFile(4, 3, "law", 10, impl.MaxDay, 5), closedFile(999, 99, "z", impl.MaxDay, impl.MaxDay, 5000), closedFile(4, 3, "law", 1, 1, 5),
	} {
		if !impl.IsFile(f) {
			t.Errorf("%v is no File", f)
		}
	}
	for _, f := range wrongFiles() {
		if impl.IsFile(f) {
			t.Errorf("%v is a File", f)
		}
	}
	for _, id := range []int{-1, 0, 1, 2, 998, 999, 1000} {
		for _, series := range []int{-1, 0, 1, 50, 99, 100} {
			for _, pages := range []int{-1, 0, 1, 4999, 5000, 5001} {
				for state := -1; state <= 3; state++ {
					f := impl.File{Id: id, Series: series, Title: "law", Opened: 10, Closed: min(15, 15*state), State: state, Pages: pages}
					if impl.IsFile(f) != validFile(f) || impl.AreFiles([]impl.File{f}) != validFile(f) {
						t.Errorf("IsFile(%v)", f)
					}
				}
			}
		}
	}
}

func TestPromise5DaysOfAFile(t *testing.T) {
	for _, opened := range []int{-1, 0, 1, 2, 10, impl.MaxDay - 1, impl.MaxDay, impl.MaxDay + 1} {
		for _, closed := range []int{-1, 0, 1, 2, 9, 10, 11, impl.MaxDay - 1, impl.MaxDay, impl.MaxDay + 1} {
			for state := -2; state <= 4; state++ {
				f := impl.File{Id: 4, Series: 3, Title: "law", Opened: opened, Closed: closed, State: state, Pages: 5}
				if impl.IsFile(f) != validFile(f) {
					t.Errorf("IsFile(%v)", f)
				}
			}
		}
	}
}

func TestPromise5TitlesAreWords(t *testing.T) {
	look := func(title string, want bool) {
		t.Helper()
		for _, f := range []impl.File{openFile(4, 3, title, 10, 50), closedFile(4, 3, title, 10, 15, 50), lentFile(4, 3, title, 10, 15, 50)} {
			if impl.IsFile(f) != want {
				t.Errorf("IsFile(%v)", f)
			}
		}
		if want {
			checkSplitFile(t, sevenFiles(), 2, 1, title, 22)
		} else {
			checkNoSplitFile(t, sevenFiles(), 2, 1, title)
		}
	}
	for length := range 30 {
		look(strings.Repeat("x", length), length >= 1 && length <= 10)
	}
	for c := range 256 {
		letter := c >= 'a' && c <= 'z'
		sign := string([]byte{byte(c)})
		look(sign, letter)
		look("la"+sign, letter)
		look(sign+"lawlawlaw", letter)
		look("law"+sign+"tax", letter)
	}
	look(strings.Repeat("x", 1<<20), false)
	look("é", false)
	look("ａ", false)
}

func TestPromise5AreFiles(t *testing.T) {
	for _, list := range someFiles() {
		if !areFilesByPairs(list) {
			t.Fatal("the test has wrong Files", list)
		}
		if !impl.AreFiles(list) {
			t.Errorf("%v are no Files", list)
		}
	}
	for count := range 15 {
		if impl.AreFiles(filesInARow(count)) != (count <= 10) {
			t.Error("AreFiles of", count, "Files")
		}
	}
	if impl.AreFiles(make([]impl.File, 1<<20)) {
		t.Error("very many are Files")
	}
}

func TestPromise5AreFilesOfAllShortLists(t *testing.T) {
	var all []impl.File
	for _, id := range []int{0, 1, 2, 999, 1000} {
		for _, series := range []int{1, 2} {
			all = append(all, openFile(id, series, "a", 10, 5), closedFile(id, series, "b", 10, 15, 5))
		}
	}
	all = append(all, lentFile(3, 1, "a", 10, 15, 5), lentFile(3, 2, "ab", 10, 9, 5), openFile(2, 2, "", 10, 5))
	look := func(list ...impl.File) {
		if impl.AreFiles(list) != areFilesByPairs(list) {
			t.Errorf("AreFiles(%v)", list)
		}
	}
	for _, a := range all {
		look(a)
		for _, b := range all {
			look(a, b)
			for _, c := range all {
				look(a, b, c)
			}
		}
	}
}

func TestPromise5ListsThatAreNoneOfFiles(t *testing.T) {
	for _, list := range wrongFileLists() {
		for _, f := range list {
			if !impl.IsFile(f) {
				t.Errorf("%v is no File", f)
			}
		}
		checkNoneOfFiles(t, list)
	}
	for _, f := range wrongFiles() {
		checkNoneOfFiles(t, []impl.File{f})
		checkNoneOfFiles(t, []impl.File{openFile(1, 1, "a", 10, 50), f})
		checkNoneOfFiles(t, []impl.File{f, lentFile(999, 99, "z", 10, 15, 50)})
		checkNoneOfFiles(t, []impl.File{closedFile(1, 1, "a", 10, 15, 50), f, openFile(999, 99, "z", 10, 50)})
	}
	checkNoneOfFiles(t, make([]impl.File, 1000))
}

// TestPromise5NoListBecomesFiles has lists that are none of Files, and would be some after the change.
func TestPromise5NoListBecomesFiles(t *testing.T) {
	checkNoFiles(t, []impl.File{openFile(4, 3, "law", 10, -1)}, adding(4, 1))
	checkNoFiles(t, []impl.File{openFile(4, 3, "law", 10, -500)}, adding(4, 500))
	checkNoSplitFile(t, []impl.File{openFile(4, 3, "law", 10, 5001)}, 4, 1, "rest")
	checkNoFiles(t, []impl.File{{Id: 4, Series: 3, Title: "law", Opened: 10, Closed: 12, Pages: 5}}, closing(4, 15))
	for _, closed := range []int{-1, 0, 9, impl.MaxDay + 1} {
		checkNoFiles(t, []impl.File{closedFile(4, 3, "law", 10, closed, 5)}, reopening(4))
	}
	checkNoFiles(t, []impl.File{closedFile(4, 3, "law", 1, 0, 5)}, reopening(4))
}

func TestPromise5TheEmptyList(t *testing.T) {
	for _, empty := range [][]impl.File{nil, {}, sevenFiles()[:0]} {
		if !impl.AreFiles(empty) {
			t.Error("an empty list is none of Files")
		}
		for _, id := range append([]int{0, 1, 2, 3, 999, 1000}, extremes...) {
			checkNoFileId(t, empty, id)
		}
		checkClosedSince(t, empty, 0, impl.MaxDay)
		checkClosedSince(t, empty, 15, 15)
		checkNotClosedSince(t, empty, 16, 15)
		checkSeriesPages(t, empty)
	}
}

func TestPromise5IdsThatDoNotOccur(t *testing.T) {
	for _, list := range [][]impl.File{sevenFiles(), fullFiles(), filesInARow(1), filesInARow(9)} {
		for id := -1; id <= 1001; id++ {
			if placeOfId(list, id) < 0 {
				checkNoFileId(t, list, id)
			}
		}
		for _, id := range extremes {
			checkNoFileId(t, list, id)
		}
	}
}

func TestPromise5CloseFileOnEachDay(t *testing.T) {
	for _, opened := range []int{0, 1, 2, 10, impl.MaxDay - 1, impl.MaxDay} {
		list := []impl.File{lentFile(1, 3, "tax", 5, 6, 7), openFile(4, 3, "law", opened, 50), openFile(9, 4, "law", 5, 50)}
		for _, day := range append([]int{-1, 0, 1, 2, 3, 9, 10, 11, impl.MaxDay - 1, impl.MaxDay, impl.MaxDay + 1}, extremes...) {
			if day >= 1 && day >= opened && day <= impl.MaxDay {
				checkFiles(t, list, closing(4, day), withFile(list, 1, closedFile(4, 3, "law", opened, day, 50)))
			} else {
				checkNoFiles(t, list, closing(4, day))
			}
		}
	}
}

func TestPromise5CloseFileOnTheFirstDay(t *testing.T) {
	for _, opened := range []int{1, 2, 500, 19999, 20000} {
		list := []impl.File{openFile(4, 3, "law", opened, 50)}
		closed, ok := impl.CloseFile(list, 4, opened)
		if !ok || !slices.Equal(closed, []impl.File{closedFile(4, 3, "law", opened, opened, 50)}) {
			t.Errorf("closed on the first day, %d: %v, %v", opened, closed, ok)
		}
		checkNoFiles(t, list, closing(4, opened-1))
		checkDaysOpen(t, closed, 4, opened, 1)
		checkDaysOpen(t, closed, 4, impl.MaxDay, 1)
		checkClosedSince(t, closed, opened, opened, 4)
		checkFiles(t, closed, reopening(4), list)
	}
	day0 := []impl.File{openFile(4, 3, "law", 0, 50)}
	checkNoFiles(t, day0, closing(4, 0))
	checkFiles(t, day0, closing(4, 1), []impl.File{closedFile(4, 3, "law", 0, 1, 50)})
}

// TestPromise5ClosedOnDayZero has Files that were Closed on the day 0, on which CloseFile closes none.
func TestPromise5ClosedOnDayZero(t *testing.T) {
	list := filesOfDayZero()
	checkFiles(t, list, reopening(8), withFile(list, 3, openFile(8, 2, "b", 0, 300)))
	checkFiles(t, list, lending(8, false), withFile(list, 3, lentFile(8, 2, "b", 0, 0, 300)))
	checkFiles(t, list, lending(3, true), withFile(list, 0, closedFile(3, 4, "a", 0, 0, 6)))
	checkNoFiles(t, list, reopening(3))
	checkNoFiles(t, list, lending(3, false))
	checkNoFiles(t, list, lending(8, true))
	for _, id := range []int{3, 5, 6, 8} {
		checkNoFiles(t, list, closing(id, 0))
	}
	for _, id := range []int{3, 8} {
		checkNoFiles(t, list, closing(id, 1))
		checkNoFiles(t, list, adding(id, 1))
		checkNoSplitFile(t, list, id, 1, "rest")
		checkDaysOpen(t, list, id, 0, 1)
		checkDaysOpen(t, list, id, 14, 1)
		checkNoDaysOpen(t, list, id, -1)
	}
	checkFiles(t, list, closing(6, 1), withFile(list, 2, closedFile(6, 2, "a", 0, 1, 9)))
	checkFiles(t, list, adding(6, 1), withFile(list, 2, openFile(6, 2, "a", 0, 10)))
	checkSplitFile(t, list, 6, 1, "rest", 10)
	checkClosedSince(t, list, 0, 0, 3, 8)
	checkClosedSince(t, list, 0, 1, 3, 8, 5, 9)
	checkClosedSince(t, list, 1, impl.MaxDay, 5, 9)
	checkSeriesPages(t, list, []int{2, 2, 309}, []int{4, 3, 26})
}

func TestPromise5CloseFileOfEachState(t *testing.T) {
	list := sevenFiles()
	checkFiles(t, list, closing(2, 11), withFile(list, 0, closedFile(2, 7, "appeals", 10, 11, 300)))
	checkFiles(t, list, closing(6, 1), withFile(list, 3, closedFile(6, 40, "c", 0, 1, 0)))
	checkFiles(t, list, closing(6, impl.MaxDay), withFile(list, 3, closedFile(6, 40, "c", 0, impl.MaxDay, 0)))
	for _, id := range []int{3, 5, 8, 20, 21} {
		for _, day := range []int{1, 12, 15, 16, 400, 500, impl.MaxDay} {
			checkNoFiles(t, list, closing(id, day))
		}
	}
}

func TestPromise5ReopenFileOfEachState(t *testing.T) {
	list := sevenFiles()
	checkFiles(t, list, reopening(3), withFile(list, 1, openFile(3, 7, "budget", 10, 5)))
	checkFiles(t, list, reopening(8), withFile(list, 4, openFile(8, 7, "claims", 12, 5000)))
	checkFiles(t, list, reopening(21), withFile(list, 6, openFile(21, 40, "budget", 3, 1)))
	for _, id := range []int{2, 5, 6, 20} {
		checkNoFiles(t, list, reopening(id))
	}
	full := fullFiles()
	checkFiles(t, full, reopening(3), withFile(full, 2, openFile(3, 1, "b", 0, 5000)))
	checkFiles(t, full, reopening(4), withFile(full, 3, openFile(4, 1, "c", impl.MaxDay, 0)))
}

func TestPromise5LendFileOfEachState(t *testing.T) {
	list := sevenFiles()
	checkFiles(t, list, lending(3, false), withFile(list, 1, lentFile(3, 7, "budget", 10, 15, 5)))
	checkFiles(t, list, lending(8, false), withFile(list, 4, lentFile(8, 7, "claims", 12, 12, 5000)))
	checkFiles(t, list, lending(21, false), withFile(list, 6, lentFile(21, 40, "budget", 3, 15, 1)))
	checkFiles(t, list, lending(5, true), withFile(list, 2, closedFile(5, 2, "appeals", 0, 15, 0)))
	checkFiles(t, list, lending(20, true), withFile(list, 5, closedFile(20, 2, "budget", 12, 400, 70)))
	for _, id := range []int{2, 5, 6, 20} {
		checkNoFiles(t, list, lending(id, false))
	}
	for _, id := range []int{2, 3, 6, 8, 21} {
		checkNoFiles(t, list, lending(id, true))
	}
}

// TestPromise5AsBefore closes and reopens each open File, and lends and takes back each closed one, of many lists.
func TestPromise5AsBefore(t *testing.T) {
	for _, list := range someFiles() {
		for _, f := range list {
			for _, day := range []int{1, f.Opened, f.Opened + 1, 300, impl.MaxDay} {
				closed, ok := impl.CloseFile(list, f.Id, day)
				if want := f.State == impl.FileOpen && day >= 1 && day >= f.Opened && day <= impl.MaxDay; ok != want {
					t.Errorf("CloseFile(%v, %d, %d) = %v", list, f.Id, day, ok)
				}
				if ok {
					checkFiles(t, closed, reopening(f.Id), list)
				}
			}
			if reopened, ok := impl.ReopenFile(list, f.Id); ok && f.Closed > 0 {
				checkFiles(t, reopened, closing(f.Id, f.Closed), list)
			}
			if lent, ok := impl.LendFile(list, f.Id, false); ok {
				checkFiles(t, lent, lending(f.Id, true), list)
			}
			if back, ok := impl.LendFile(list, f.Id, true); ok {
				checkFiles(t, back, lending(f.Id, false), list)
			}
		}
	}
}

// eachStep has one act for each way to change a File without a new one.
func eachStep(id int) [5]fileAct {
	return [5]fileAct{closing(id, 15000), reopening(id), lending(id, false), lending(id, true), adding(id, 2)}
}

// behindEachStep tells what a File is behind the acts of eachStep, and has an invalid File for one that fails.
func behindEachStep(f impl.File) [5]impl.File {
	closed, open, lent, back, more := f, f, f, f, f
	closed.State, closed.Closed = impl.FileClosed, 15000
	open.State, open.Closed = impl.FileOpen, 0
	lent.State = impl.FileLent
	back.State = impl.FileClosed
	more.Pages += 2
	return [3][5]impl.File{{0: closed, 4: more}, {1: open, 2: lent}, {3: back}}[f.State]
}

// TestPromise5EachCourseOfSteps takes all courses of six steps of a File, and follows it beside the program.
func TestPromise5EachCourseOfSteps(t *testing.T) {
	var walk func(list []impl.File, left int)
	walk = func(list []impl.File, left int) {
		behind := behindEachStep(list[1])
		for i, a := range eachStep(4) {
			want := withFile(list, 1, behind[i])
			checkFilesOr(t, list, a, want)
			if left > 1 && behind[i].Id == 4 {
				walk(want, left-1)
			}
		}
	}
	walk([]impl.File{lentFile(1, 3, "tax", 10, 15, 5), openFile(4, 3, "law", 10, 50), closedFile(7, 4, "law", 10, 15, 5)}, 6)
}

func TestPromise5StepsOfAllStates(t *testing.T) {
	for _, list := range someFiles() {
		for place, f := range list {
			behind := behindEachStep(f)
			for i, a := range eachStep(f.Id) {
				checkFilesOr(t, list, a, withFile(list, place, behind[i]))
			}
		}
	}
}

func TestPromise5AddPages(t *testing.T) {
	list := sevenFiles()
	checkFiles(t, list, adding(2, 1), withFile(list, 0, openFile(2, 7, "appeals", 10, 301)))
	checkFiles(t, list, adding(2, 500), withFile(list, 0, openFile(2, 7, "appeals", 10, 800)))
	checkFiles(t, list, adding(6, 1), withFile(list, 3, openFile(6, 40, "c", 0, 1)))
	for _, id := range []int{2, 6} {
		for _, pages := range append([]int{0, -1, -300, 501, 1000, math.MaxInt - 300}, extremes...) {
			checkNoFiles(t, list, adding(id, pages))
		}
	}
	for _, id := range []int{3, 5, 8, 20, 21} {
		for _, pages := range []int{0, 1, 2, 500} {
			checkNoFiles(t, list, adding(id, pages))
		}
	}
}

func TestPromise5AddPagesUpToTheMost(t *testing.T) {
	for _, held := range []int{0, 1, 4499, 4500, 4501, 4998, 4999, 5000} {
		list := []impl.File{openFile(4, 3, "law", 10, held), lentFile(5, 3, "tax", 10, 15, 5000)}
		for pages := -1; pages <= 502; pages++ {
			if pages >= 1 && pages <= 500 && held+pages <= 5000 {
				checkFiles(t, list, adding(4, pages), withFile(list, 0, openFile(4, 3, "law", 10, held+pages)))
			} else {
				checkNoFiles(t, list, adding(4, pages))
			}
		}
	}
}

func TestPromise5SplitFile(t *testing.T) {
	list := sevenFiles()
	checkSplitFile(t, list, 2, 1, "rest", 22)
	checkSplitFile(t, list, 2, 100, "rest", 22)
	checkSplitFile(t, list, 2, 299, "rest", 22)
	for _, pages := range append([]int{0, -1, -300, 300, 301, 5000}, extremes...) {
		checkNoSplitFile(t, list, 2, pages, "rest")
		checkNoSplitFile(t, list, 6, pages, "rest")
	}
	checkNoSplitFile(t, list, 6, 1, "rest")
	for _, id := range []int{3, 5, 8, 20, 21} {
		for _, pages := range []int{1, 2, 4} {
			checkNoSplitFile(t, list, id, pages, "rest")
		}
	}
	want := []impl.File{openFile(1, 3, "law", 10, 4999), openFile(2, 3, "rest", 10, 1)}
	checkFiles(t, []impl.File{openFile(1, 3, "law", 10, 5000)}, splitting(1, 1, "rest"), want)
}

func TestPromise5SplitFileOfFewPages(t *testing.T) {
	for held := range 6 {
		list := []impl.File{openFile(4, 3, "law", 10, held), closedFile(5, 3, "tax", 10, 15, 50)}
		for pages := -1; pages <= 7; pages++ {
			if pages >= 1 && pages < held {
				checkSplitFile(t, list, 4, pages, "rest", 6)
			} else {
				checkNoSplitFile(t, list, 4, pages, "rest")
			}
		}
	}
}

func TestPromise5SplitFileWithTitles(t *testing.T) {
	list := sevenFiles()
	for _, title := range []string{"appeals", "budget", "claims", "", "Rest", "re st", "restrestres", "rest\x00", "c/"} {
		checkNoSplitFile(t, list, 2, 100, title)
	}
	for _, title := range []string{"c", "rest", "appeal", "appealss", "restrestre", "a"} {
		checkSplitFile(t, list, 2, 100, title, 22)
	}
	other := []impl.File{openFile(1, 1, "appeals", 10, 50), openFile(2, 2, "budget", 10, 50)}
	checkSplitFile(t, other, 1, 10, "budget", 3)
	checkSplitFile(t, other, 2, 10, "appeals", 3)
	checkNoSplitFile(t, other, 1, 10, "appeals")
	checkNoSplitFile(t, other, 2, 10, "budget")
}

func TestPromise5SplitFileAtTheLimits(t *testing.T) {
	checkNoSplitFile(t, fullFiles(), 2, 1, "rest")
	checkNoSplitFile(t, fullFiles(), 7, 1, "rest")
	checkNoSplitFile(t, fullFiles()[:9], 7, 500, "a")
	checkSplitFile(t, fullFiles()[:9], 7, 500, "b", 999)
	checkSplitFile(t, fullFiles()[:9], 2, 4999, "rest", 999)
	for count := range 12 {
		list := filesInARow(count)
		if count >= 5 && count < 10 {
			checkSplitFile(t, list, 13, 1, "rest", 3*count-1)
		} else {
			checkNoSplitFile(t, list, 13, 1, "rest")
		}
	}
	for _, last := range []int{997, 998, 999} {
		list := []impl.File{openFile(1, 3, "law", 10, 50), lentFile(last, 3, "tax", 10, 15, 50)}
		if last < 999 {
			checkSplitFile(t, list, 1, 1, "rest", last+1)
		} else {
			checkNoSplitFile(t, list, 1, 1, "rest")
		}
	}
	checkNoSplitFile(t, []impl.File{openFile(999, 3, "law", 10, 50)}, 999, 1, "rest")
}

// TestPromise5SplitUntilItIsFull takes one page after the other out of a File, and the pages stay as many.
func TestPromise5SplitUntilItIsFull(t *testing.T) {
	list := []impl.File{openFile(990, 3, "law", 10, 100)}
	for i := range 9 {
		checkSplitFile(t, list, 990, 1, "part"+string(rune('a'+i)), 991+i)
		list, _, _ = impl.SplitFile(list, 990, 1, "part"+string(rune('a'+i)))
		checkSeriesPages(t, list, []int{3, i + 2, 100})
	}
	checkNoSplitFile(t, list, 990, 1, "rest")
}

func TestPromise5ClosedSince(t *testing.T) {
	list := sevenFiles()
	checkClosedSince(t, list, 0, impl.MaxDay, 8, 3, 5, 21, 20)
	checkClosedSince(t, list, 0, 0)
	checkClosedSince(t, list, 0, 11)
	checkClosedSince(t, list, 12, 12, 8)
	checkClosedSince(t, list, 15, 15, 3, 5, 21)
	checkClosedSince(t, list, 13, 14)
	checkClosedSince(t, list, 12, 15, 8, 3, 5, 21)
	checkClosedSince(t, list, 13, 15, 3, 5, 21)
	checkClosedSince(t, list, 12, 14, 8)
	checkClosedSince(t, list, 16, 399)
	checkClosedSince(t, list, 15, 400, 3, 5, 21, 20)
	checkClosedSince(t, list, 400, 400, 20)
	checkClosedSince(t, list, 401, impl.MaxDay)
	full := fullFiles()
	checkClosedSince(t, full, 0, impl.MaxDay, 3, 6, 4, 5, 500, 998)
	checkClosedSince(t, full, impl.MaxDay, impl.MaxDay, 4, 5, 500, 998)
	checkClosedSince(t, full, 0, impl.MaxDay-1, 3, 6)
	checkClosedSince(t, full, 1, 1, 3, 6)
	checkClosedSince(t, full, 0, 0)
	descending := []impl.File{closedFile(1, 1, "a", 1, 9, 0), lentFile(2, 1, "b", 1, 8, 0), closedFile(3, 1, "c", 1, 7, 0), lentFile(4, 1, "d", 1, 8, 0), closedFile(5, 1, "e", 1, 9, 0)}
	checkClosedSince(t, descending, 0, 20, 3, 2, 4, 1, 5)
}

func TestPromise5ClosedSinceRefuses(t *testing.T) {
	for _, list := range [][]impl.File{sevenFiles(), fullFiles(), nil} {
		for _, days := range [][2]int{{16, 15}, {1, 0}, {impl.MaxDay, 0}, {impl.MaxDay, impl.MaxDay - 1}, {-1, 15}, {-1, -1}, {15, impl.MaxDay + 1}, {impl.MaxDay + 1, impl.MaxDay + 1}, {-1, impl.MaxDay + 1}} {
			checkNotClosedSince(t, list, days[0], days[1])
		}
		for _, n := range extremes {
			checkNotClosedSince(t, list, n, n)
			checkNotClosedSince(t, list, n, 15)
			checkNotClosedSince(t, list, 15, n)
			checkNotClosedSince(t, list, 0, n)
			checkNotClosedSince(t, list, n, impl.MaxDay)
		}
	}
}

func TestPromise5ClosedSinceOfManyLists(t *testing.T) {
	days := []int{0, 1, 6, 7, 8, 9, 12, 15, 29, 30, 31, 400, impl.MaxDay}
	for _, list := range someFiles() {
		for _, from := range days {
			for _, to := range days {
				if from <= to {
					checkClosedSince(t, list, from, to, closedByDay(list, from, to)...)
				} else {
					checkNotClosedSince(t, list, from, to)
				}
			}
		}
	}
}

// closedByDay sorts the Files of some days by one number, the day ahead of the three digits of the Id.
func closedByDay(list []impl.File, from, to int) []int {
	var ids []int
	for _, f := range list {
		if f.State > 0 && from <= f.Closed && f.Closed <= to {
			ids = append(ids, 1000*f.Closed+f.Id)
		}
	}
	slices.Sort(ids)
	for i := range ids {
		ids[i] %= 1000
	}
	return ids
}

func TestPromise5SeriesPages(t *testing.T) {
	checkSeriesPages(t, sevenFiles(), []int{2, 2, 70}, []int{7, 3, 5305}, []int{40, 2, 1})
	checkSeriesPages(t, fullFiles(), []int{1, 3, 5000}, []int{2, 3, 7}, []int{50, 1, 501}, []int{99, 3, 10000})
	checkSeriesPages(t, sevenFiles()[3:4], []int{40, 1, 0})
	checkSeriesPages(t, sevenFiles()[:2], []int{7, 2, 305})
	checkSeriesPages(t, []impl.File{openFile(1, 9, "a", 0, 0), lentFile(2, 9, "b", 1, 1, 0)}, []int{9, 2, 0})
	checkSeriesPages(t, []impl.File{openFile(1, 99, "a", 0, 1), openFile(2, 50, "a", 0, 2), openFile(3, 1, "a", 0, 0)}, []int{1, 1, 0}, []int{50, 1, 2}, []int{99, 1, 1})
	var most []impl.File
	var each [][]int
	for i := range 10 {
		most = append(most, openFile(i+1, 99, string(rune('a'+i)), 0, 5000))
		each = append(each, []int{90 + i, 1, 10 - i})
	}
	checkSeriesPages(t, most, []int{99, 10, 50000})
	for i := range most {
		most[i].Series, most[i].Pages = 99-i, i+1
	}
	checkSeriesPages(t, most, each...)
}

func TestPromise5SeriesPagesOfManyLists(t *testing.T) {
	for _, list := range someFiles() {
		checkSeriesPages(t, list, sumsBySeries(list)...)
	}
}

// sumsBySeries walks through the list once for each Series that there can be.
func sumsBySeries(list []impl.File) [][]int {
	var rows [][]int
	for series := 1; series <= 99; series++ {
		row := []int{series, 0, 0}
		for _, f := range list {
			if f.Series == series {
				row[1]++
				row[2] += f.Pages
			}
		}
		if row[1] > 0 {
			rows = append(rows, row)
		}
	}
	return rows
}

func TestPromise5DaysOpen(t *testing.T) {
	list := []impl.File{openFile(1, 3, "a", 10, 5), closedFile(2, 3, "b", 10, 15, 5), lentFile(3, 3, "c", 10, 15, 5), closedFile(4, 3, "d", 10, 10, 5), lentFile(5, 3, "e", 10, 10, 5)}
	for day, want := range map[int][5]int{
		10: {1, 1, 1, 1, 1}, 11: {2, 2, 2, 1, 1}, 14: {5, 5, 5, 1, 1}, 15: {6, 6, 6, 1, 1}, 16: {7, 6, 6, 1, 1}, 100: {91, 6, 6, 1, 1},
		impl.MaxDay - 1: {19990, 6, 6, 1, 1}, impl.MaxDay: {19991, 6, 6, 1, 1},
	} {
		for i, days := range want {
			checkDaysOpen(t, list, i+1, day, days)
		}
	}
	for id := 1; id <= 5; id++ {
		for _, day := range append([]int{9, 1, 0, impl.MaxDay + 1}, extremes...) {
			checkNoDaysOpen(t, list, id, day)
		}
	}
	full := fullFiles()
	checkDaysOpen(t, full, 1, 0, 1)
	checkDaysOpen(t, full, 1, impl.MaxDay, impl.MaxDay+1)
	checkDaysOpen(t, full, 2, impl.MaxDay, 1)
	checkNoDaysOpen(t, full, 2, impl.MaxDay-1)
	checkDaysOpen(t, full, 3, 0, 1)
	checkDaysOpen(t, full, 3, 1, 2)
	checkDaysOpen(t, full, 3, 2, 2)
	checkDaysOpen(t, full, 5, 19999, 20000)
	checkDaysOpen(t, full, 5, impl.MaxDay, impl.MaxDay+1)
}

// TestPromise5DaysOpenByCounting counts the days one by one.
func TestPromise5DaysOpenByCounting(t *testing.T) {
	for _, list := range filesOfAllStates() {
		for _, f := range list {
			count := 0
			for day := range 40 {
				if day < f.Opened {
					checkNoDaysOpen(t, list, f.Id, day)
					continue
				}
				if f.State == impl.FileOpen || day <= f.Closed {
					count++
				}
				checkDaysOpen(t, list, f.Id, day, count)
			}
		}
	}
}

// useFiles calls each function that takes Files.
func useFiles(list []impl.File, numbers []int) {
	for _, id := range numbers {
		impl.ReopenFile(list, id)
		impl.LendFile(list, id, false)
		impl.LendFile(list, id, true)
		for _, n := range numbers {
			impl.CloseFile(list, id, n)
			impl.AddPages(list, id, n)
			impl.SplitFile(list, id, n, "rest")
			impl.SplitFile(list, id, 1, "")
			impl.ClosedSince(list, id, n)
			impl.DaysOpen(list, id, n)
			impl.IsFile(impl.File{Id: n, Series: n, Title: "law", Opened: id, Closed: n, State: id, Pages: n})
		}
	}
	impl.AreFiles(list)
	impl.SeriesPages(list)
}

func TestPromise29FilesReturnForAllArguments(t *testing.T) {
	numbers := append([]int{0, 1, 2, 3, 4, 5, 15, 300, 500, 999, 5000, 20000}, extremes...)
	lists := append(wrongFileLists(), nil, sevenFiles(), fullFiles(), make([]impl.File, 1<<16))
	for _, f := range wrongFiles() {
		lists = append(lists, []impl.File{f}, []impl.File{openFile(1, 1, "a", 10, 5), f, f, openFile(999, 99, "z", 10, 5)})
	}
	for _, list := range lists {
		useFiles(list, numbers)
	}
	for _, title := range []string{"\xff\xfe", "\x00", strings.Repeat("x", 1<<20)} {
		if impl.IsFile(openFile(4, 3, title, 10, 5)) {
			t.Errorf("%.20q is a Title", title)
		}
		checkNoSplitFile(t, sevenFiles(), 2, 1, title)
	}
}

func TestPromise29FilesAreNotModified(t *testing.T) {
	numbers := []int{-1, 0, 1, 2, 3, 5, 6, 8, 15, 20, 21, 299, 300, 500, 998, 999, 20000}
	lists := append(wrongFileLists(), fullFiles(), []impl.File{}, []impl.File{{}}, []impl.File{openFile(4, 3, "law", 10, 5), {}})
	for length := range len(sevenFiles()) + 1 {
		lists = append(lists, sevenFiles()[:length], append(make([]impl.File, 0, 20), sevenFiles()[:length]...))
	}
	for _, list := range lists {
		length, all := len(list), list[:cap(list)]
		kept := slices.Clone(all)
		useFiles(list, numbers)
		if !slices.Equal(all, kept) {
			t.Errorf("the list of %d Files changed to %v", length, all)
		}
	}
}

func TestPromise29FilesBehindTheLengthAreNotUsed(t *testing.T) {
	for length := range len(sevenFiles()) {
		all := sevenFiles()
		list := all[:length]
		for _, f := range all[length:] {
			checkNoFileId(t, list, f.Id)
		}
		for i := length; i < len(all); i++ {
			all[i] = impl.File{Id: -1, Series: -1}
		}
		if !impl.AreFiles(list) || impl.AreFiles(all) {
			t.Error("the length of a list is not kept to")
		}
		var want []int
		for _, id := range []int{8, 3, 5, 21, 20} {
			if placeOfId(list, id) >= 0 {
				want = append(want, id)
			}
		}
		checkClosedSince(t, list, 0, impl.MaxDay, want...)
		if length > 0 {
			checkSplitFile(t, list, 2, 1, "rest", list[length-1].Id+1)
		}
		checkSeriesPages(t, list, sumsBySeries(list)...)
	}
}

// checkFilesUnshared looks that neither a list nor a second result changes with the memory of the first one.
func checkFilesUnshared(t *testing.T, length int, a fileAct) {
	t.Helper()
	all := append(make([]impl.File, 0, 20), sevenFiles()...)
	list := all[:length]
	first, ok := a.act(list)
	second, fine := a.act(list)
	want := slices.Clone(second)
	scribbleFiles(first)
	if !ok || !fine || !slices.Equal(all, sevenFiles()) || !slices.Equal(second, want) {
		t.Errorf("a result of %s of %d Files shares memory: %v, %v", a.name, length, all, second)
	}
	scribbleFiles(all)
	if !slices.Equal(second, want) {
		t.Errorf("an argument of %s of %d Files shares memory: %v", a.name, length, second)
	}
}

// scribbleFiles overwrites a list of Files as far as its memory reaches.
func scribbleFiles(list []impl.File) {
	all := list[:cap(list)]
	for i := range all {
		all[i] = impl.File{Id: -7, Series: -7, Title: "scribbled", Opened: -7, Closed: -7, State: -7, Pages: -7}
	}
}

func TestPromise29FilesShareNoMemory(t *testing.T) {
	for length := 1; length <= len(sevenFiles()); length++ {
		for _, f := range sevenFiles()[:length] {
			acts := [][]fileAct{{closing(f.Id, 500), adding(f.Id, 5)}, {reopening(f.Id), lending(f.Id, false)}, {lending(f.Id, true)}}[f.State]
			for _, a := range acts {
				checkFilesUnshared(t, length, a)
			}
		}
		checkFilesUnshared(t, length, splitting(2, 5, "rest"))
	}
}

func TestPromise29SuccessiveFilesShareNoMemory(t *testing.T) {
	base, _, _ := impl.SplitFile(sevenFiles(), 2, 100, "rest")
	left, leftId, _ := impl.SplitFile(base, 2, 50, "left")
	right, rightId, _ := impl.SplitFile(base, 2, 20, "right")
	more, _ := impl.AddPages(base, 22, 7)
	closed, _ := impl.CloseFile(base, 22, 500)
	if leftId != 23 || rightId != 23 || left[0].Pages != 150 || right[0].Pages != 180 || base[0].Pages != 200 {
		t.Errorf("successive lists share memory: %v, %v, %v", base, left, right)
	}
	if left[8].Title != "left" || right[8].Title != "right" || base[7].Pages != 100 || more[7].Pages != 107 || closed[7].Closed != 500 || base[7].Closed != 0 {
		t.Errorf("successive lists share memory: %v, %v, %v, %v", left, right, more, closed)
	}
}

func TestPromise29SumsOfFilesShareNoMemory(t *testing.T) {
	list := sevenFiles()
	first, _ := impl.SeriesPages(list)
	second, _ := impl.SeriesPages(list)
	for i, row := range first {
		scribbleNumbers(row)
		for _, other := range first[i+1:] {
			if other[0] < 0 {
				t.Error("two rows of one result share memory", first)
			}
		}
	}
	if !slices.EqualFunc(second, [][]int{{2, 2, 70}, {7, 3, 5305}, {40, 2, 1}}, slices.Equal) {
		t.Errorf("two results share memory: %v, %v", first, second)
	}
	ids, _ := impl.ClosedSince(list, 0, impl.MaxDay)
	again, _ := impl.ClosedSince(list, 0, impl.MaxDay)
	scribbleNumbers(ids)
	if !slices.Equal(again, []int{8, 3, 5, 21, 20}) || !slices.Equal(list, sevenFiles()) {
		t.Errorf("two results share memory: %v, %v", ids, again)
	}
}

// scribbleNumbers overwrites a list of numbers as far as its memory reaches.
func scribbleNumbers(list []int) {
	all := list[:cap(list)]
	for i := range all {
		all[i] = -7
	}
}
