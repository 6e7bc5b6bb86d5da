package tests

import (
	"math"
	"slices"
	"testing"

	"loop.example/g01035/impl"
)

// fullPopulation has as many numbers as may be, both limits among them.
func fullPopulation() []int {
	return []int{1, 2, 3, 50, 77, 100, 101, 102, 250, 333, 400, 401, 500, 640, 700, 702, 811, 900, 998, 999}
}

// somePopulations has one of each length twice, and some that meet limits.
func somePopulations() [][]int {
	lists := [][]int{nil, {}, {1}, {2}, {500}, {998}, {999}, {1, 999}, {1, 2}, {998, 999}, {5, 6, 8, 15}, seriesFrom(1, 20), seriesFrom(980, 20)}
	for length := range impl.MaxPopulation + 1 {
		lists = append(lists, seriesFrom(3, length), fullPopulation()[impl.MaxPopulation-length:])
	}
	return lists
}

// wrongPopulations are lists that are none, most of them for one reason.
func wrongPopulations() [][]int {
	lists := [][]int{
		{0}, {1000}, {-1}, {1001}, {-999}, {0, 5}, {-1, 5}, {5, 1000}, {5, 0}, {5, -1}, {5, 6, 1000}, {1000, 5}, {0, 0}, {1000, 1000},
		{2, 2}, {1, 1}, {999, 999}, {5, 5, 6}, {5, 6, 6}, {5, 6, 5}, {5, 6, 8, 8, 15},
		{6, 5}, {999, 1}, {5, 8, 6}, {8, 5, 6}, {15, 8, 6, 5}, {6, 5, 8, 15}, {5, 6, 15, 8},
		seriesFrom(1, 21), seriesFrom(979, 21), seriesFrom(1, 22), seriesFrom(1, 999), seriesFrom(0, 20), seriesFrom(981, 20), seriesFrom(-19, 20), make([]int, 1<<16),
		append(fullPopulation(), 1000), append(fullPopulation(), 999), append([]int{0}, fullPopulation()...),
	}
	for _, n := range extremes {
		lists = append(lists, []int{n}, []int{n, 5, 6, 8}, []int{5, 6, n, 8}, []int{5, 6, 8, n})
	}
	return lists
}

// isPopulationByPairs compares each number with each one behind it.
func isPopulationByPairs(list []int) bool {
	for i, number := range list {
		if number < 1 || number > 999 || slices.ContainsFunc(list[i+1:], func(later int) bool { return later <= number }) {
			return false
		}
	}
	return len(list) <= 20
}

func someSeeds() []int {
	return []int{0, 1, 2, 3, 5, 7, 19, 20, 21, 100, 4711, 12345, 19999, 20000, 50000, 65535, 65536, 99997, 99998, impl.MaxSeed}
}

func wrongSeeds() []int {
	return []int{-1, -2, -5, -100000, impl.MaxSeed + 1, impl.MaxSeed + 2, 200000, 1 << 32, math.MinInt, math.MinInt32, math.MaxInt32, math.MaxInt}
}

// seedsLater returns the seed that comes out when the next one is taken some number of times, in one step:
// four times a seed and one more is multiplied by 5 each time.
func seedsLater(seed, times int) int {
	power := 1
	for range times {
		power = power * 5 % 400000
	}
	return ((4*seed+1)*power%400000 - 1) / 4
}

// drawnFrom takes numbers out of a copy of a population, and returns them and the seed that is left.
func drawnFrom(list []int, n, seed int) ([]int, int) {
	rest := slices.Clone(list)
	var taken []int
	for range n {
		i := seed % len(rest)
		taken = append(taken, rest[i])
		rest = slices.Delete(rest, i, i+1)
		seed = seedsLater(seed, 1)
	}
	return taken, seed
}

// ascending returns the same numbers in ascending order.
func ascending(list []int) []int {
	return slices.Sorted(slices.Values(list))
}

// sizeByCounting counts up to the smallest size that is not less than a share.
func sizeByCounting(count, percent, least int) int {
	size := 0
	for size < count && (size < least || 100*size < percent*count) {
		size++
	}
	return size
}

// sampledBySeries looks for Records of each Series that there may be.
func sampledBySeries(list []impl.Record, percent, seed int) []int {
	var ids []int
	for series := 1; series <= 99; series++ {
		var members, taken []int
		for _, r := range list {
			if r.Series == series {
				members = append(members, r.Id)
			}
		}
		taken, seed = drawnFrom(members, sizeByCounting(len(members), percent, 1), seed)
		ids = append(ids, taken...)
	}
	return ascending(ids)
}

// tenOfFourSeries has Records of which the Series are mixed.
func tenOfFourSeries() []impl.Record {
	return heldAll("2s7@5", "3s4@9", "5s7@0 1@4", "8s4@2", "11s9@20000", "12s7@5", "20s4@1 2@3 3@3", "21s9@7", "30s7@5", "999s1@0")
}

// someRecordLists are Records of few and of many Series.
func someRecordLists() [][]impl.Record {
	lists := [][]impl.Record{nil, {}, tenOfFourSeries(), tenOfFourSeries()[:9], recordsFrom(1, 10), recordsFrom(990, 10), heldAll("1s1@0"), heldAll("999s99@20000"), heldAll("1s99@0", "2s1@0")}
	for mix := range 60 {
		var list []impl.Record
		for i := range 1 + mix%10 {
			list = append(list, record(1+i*(1+mix), 1+(i*i+mix)%(1+mix%7)*14, 100))
		}
		lists = append(lists, list)
	}
	return lists
}

func checkNextSeed(t *testing.T, seed, times, want int) {
	t.Helper()
	if next, ok := impl.NextSeed(seed, times); !ok || next != want {
		t.Errorf("NextSeed(%d, %d) = %d, %v", seed, times, next, ok)
	}
}

func checkNoNextSeed(t *testing.T, seed, times int) {
	t.Helper()
	if next, ok := impl.NextSeed(seed, times); ok || next != 0 {
		t.Errorf("NextSeed(%d, %d) = %d, %v", seed, times, next, ok)
	}
}

// checkDraw looks for the numbers of a draw in both orders.
func checkDraw(t *testing.T, list []int, n, seed int, want ...int) {
	t.Helper()
	if taken, ok := impl.OrderTaken(list, n, seed); !ok || !slices.Equal(taken, want) {
		t.Errorf("OrderTaken(%v, %d, %d) = %v, %v", list, n, seed, taken, ok)
	}
	if sample, ok := impl.SampleOf(list, n, seed); !ok || !slices.Equal(sample, ascending(want)) {
		t.Errorf("SampleOf(%v, %d, %d) = %v, %v", list, n, seed, sample, ok)
	}
}

func checkIsSample(t *testing.T, list, sample []int, n, seed int, want bool) {
	t.Helper()
	if same, ok := impl.IsSampleOf(list, sample, n, seed); !ok || same != want {
		t.Errorf("IsSampleOf(%v, %s, %d, %d) = %v, %v", list, brief(sample), n, seed, same, ok)
	}
}

// checkNoDraw hands what no draw can be made from to each function that makes one from a population.
func checkNoDraw(t *testing.T, list []int, n, seed int) {
	t.Helper()
	if taken, ok := impl.OrderTaken(list, n, seed); ok || len(taken) != 0 {
		t.Errorf("OrderTaken(%s, %d, %d) = %v, %v", brief(list), n, seed, taken, ok)
	}
	if sample, ok := impl.SampleOf(list, n, seed); ok || len(sample) != 0 {
		t.Errorf("SampleOf(%s, %d, %d) = %v, %v", brief(list), n, seed, sample, ok)
	}
	for _, sample := range [][]int{nil, {}, {5}, list} {
		if same, ok := impl.IsSampleOf(list, sample, n, seed); ok || same {
			t.Errorf("IsSampleOf(%s, %s, %d, %d) = %v, %v", brief(list), brief(sample), n, seed, same, ok)
		}
	}
}

func checkEvery(t *testing.T, list []int, k, start int, want ...int) {
	t.Helper()
	if taken, ok := impl.EveryNth(list, k, start); !ok || !slices.Equal(taken, want) {
		t.Errorf("EveryNth(%v, %d, %d) = %v, %v", list, k, start, taken, ok)
	}
}

func checkNoEvery(t *testing.T, list []int, k, start int) {
	t.Helper()
	if taken, ok := impl.EveryNth(list, k, start); ok || len(taken) != 0 {
		t.Errorf("EveryNth(%s, %d, %d) = %v, %v", brief(list), k, start, taken, ok)
	}
}

func checkSize(t *testing.T, count, percent, least, want int) {
	t.Helper()
	if size, ok := impl.SampleSize(count, percent, least); !ok || size != want {
		t.Errorf("SampleSize(%d, %d, %d) = %d, %v", count, percent, least, size, ok)
	}
}

func checkNoSize(t *testing.T, count, percent, least int) {
	t.Helper()
	if size, ok := impl.SampleSize(count, percent, least); ok || size != 0 {
		t.Errorf("SampleSize(%d, %d, %d) = %d, %v", count, percent, least, size, ok)
	}
}

func checkBySeries(t *testing.T, list []impl.Record, percent, seed int, want ...int) {
	t.Helper()
	if ids, ok := impl.SampleBySeries(list, percent, seed); !ok || !slices.Equal(ids, want) {
		t.Errorf("SampleBySeries(%v, %d, %d) = %v, %v", list, percent, seed, ids, ok)
	}
}

func checkNoBySeries(t *testing.T, list []impl.Record, percent, seed int) {
	t.Helper()
	if ids, ok := impl.SampleBySeries(list, percent, seed); ok || len(ids) != 0 {
		t.Errorf("SampleBySeries(%s, %d, %d) = %v, %v", brief(list), percent, seed, ids, ok)
	}
}

func checkSeedFor(t *testing.T, list []int, first, want int) {
	t.Helper()
	if seed, ok := impl.SeedFor(list, first); !ok || seed != want {
		t.Errorf("SeedFor(%v, %d) = %d, %v", list, first, seed, ok)
	}
}

func checkNoSeedFor(t *testing.T, list []int, first int) {
	t.Helper()
	if seed, ok := impl.SeedFor(list, first); ok || seed != 0 {
		t.Errorf("SeedFor(%s, %d) = %d, %v", brief(list), first, seed, ok)
	}
}

func checkRest(t *testing.T, list, sample []int, want ...int) {
	t.Helper()
	if rest, ok := impl.NotSampled(list, sample); !ok || !slices.Equal(rest, want) {
		t.Errorf("NotSampled(%v, %v) = %v, %v", list, sample, rest, ok)
	}
}

func checkNoRest(t *testing.T, list, sample []int) {
	t.Helper()
	if rest, ok := impl.NotSampled(list, sample); ok || len(rest) != 0 {
		t.Errorf("NotSampled(%s, %s) = %v, %v", brief(list), brief(sample), rest, ok)
	}
}

// checkNoPopulation hands a list that is none to each function that takes a population.
func checkNoPopulation(t *testing.T, list []int) {
	t.Helper()
	if impl.IsPopulation(list) {
		t.Errorf("%s is a population", brief(list))
	}
	for _, n := range []int{0, 1, min(len(list), 20), len(list)} {
		for _, seed := range []int{0, 1, 7, impl.MaxSeed} {
			checkNoDraw(t, list, n, seed)
		}
	}
	for _, k := range []int{1, 2, impl.MaxPopulation} {
		checkNoEvery(t, list, k, 0)
		checkNoEvery(t, list, k, k-1)
	}
	for _, number := range append([]int{0, 1, 5, 999, 1000, -1}, list[:min(len(list), 30)]...) {
		checkNoSeedFor(t, list, number)
		checkNoRest(t, list, []int{number})
	}
	checkNoRest(t, list, nil)
	checkNoRest(t, list, []int{})
	checkNoRest(t, list, list)
}

func TestPromise12Constants(t *testing.T) {
	if impl.MaxPopulation != 20 || impl.MaxSeed != 99999 {
		t.Error("the constants of the chapter are changed")
	}
}

func TestPromise12IsPopulation(t *testing.T) {
	for _, list := range somePopulations() {
		if !isPopulationByPairs(list) {
			t.Fatal("the test has a wrong population", list)
		}
		if !impl.IsPopulation(list) {
			t.Errorf("%v is no population", list)
		}
	}
	for _, list := range wrongPopulations() {
		if isPopulationByPairs(list) || impl.IsPopulation(list) {
			t.Errorf("%s is a population", brief(list))
		}
	}
	for count := range 60 {
		if impl.IsPopulation(seriesFrom(1, count)) != (count <= 20) || impl.IsPopulation(seriesFrom(1000-count, count)) != (count <= 20) {
			t.Error("IsPopulation of", count)
		}
	}
	for number := -1100; number <= 1100; number++ {
		if impl.IsPopulation([]int{number}) != (number >= 1 && number <= 999) {
			t.Error("IsPopulation of", number, "alone")
		}
	}
	if impl.IsPopulation(make([]int, 1<<20)) {
		t.Error("very many are a population")
	}
}

func TestPromise12PopulationsOfAllShortLists(t *testing.T) {
	numbers := []int{-1, 0, 1, 2, 3, 998, 999, 1000}
	look := func(list ...int) {
		t.Helper()
		if impl.IsPopulation(list) != isPopulationByPairs(list) {
			t.Errorf("IsPopulation(%v)", list)
		}
	}
	for _, a := range numbers {
		for _, b := range numbers {
			look(a, b)
			for _, c := range numbers {
				look(a, b, c)
				for _, d := range numbers {
					look(a, b, c, d)
				}
			}
		}
	}
}

func TestPromise12WrongPopulationsAreRefused(t *testing.T) {
	for _, list := range wrongPopulations() {
		checkNoPopulation(t, list)
	}
}

func TestPromise12NextSeed(t *testing.T) {
	for _, c := range [][3]int{
		{7, 2, 181}, {0, 0, 0}, {0, 1, 1}, {0, 2, 6}, {7, 0, 7}, {7, 1, 36}, {impl.MaxSeed, 0, impl.MaxSeed},
		// 5 * seed + 1 is just below 100000, and passes it.
		{19999, 1, 99996}, {20000, 1, 1}, {20001, 1, 6}, {39999, 1, 99996}, {40000, 1, 1}, {impl.MaxSeed, 1, 99996}, {impl.MaxSeed, 2, 99981},
		{0, 7, 19531}, {0, 8, 97656}, {0, 9, 88281}, {12345, 3, 43156},
		{0, 999, 19531}, {0, 1000, 97656}, {7, 1000, 32031}, {impl.MaxSeed, 1000, 7031},
	} {
		checkNextSeed(t, c[0], c[1], c[2])
	}
}

func TestPromise12NextSeedOfEachSeed(t *testing.T) {
	for seed := range impl.MaxSeed + 1 {
		checkNextSeed(t, seed, 0, seed)
		checkNextSeed(t, seed, 1, (5*seed+1)%100000)
		checkNextSeed(t, seed, 2, seedsLater(seed, 2))
	}
}

func TestPromise12NextSeedOfEachNumberOfTimes(t *testing.T) {
	for _, seed := range someSeeds() {
		step := seed
		for times := range 1001 {
			checkNextSeed(t, seed, times, step)
			checkNextSeed(t, seed, times, seedsLater(seed, times))
			step = (5*step + 1) % 100000
		}
	}
}

func TestPromise12NextSeedRefuses(t *testing.T) {
	for _, seed := range wrongSeeds() {
		for _, times := range []int{0, 1, 1000, 1001, -1} {
			checkNoNextSeed(t, seed, times)
		}
	}
	for _, times := range append([]int{-2, 1001, 1002, 1 << 32}, extremes...) {
		for _, seed := range someSeeds() {
			checkNoNextSeed(t, seed, times)
		}
	}
}

func TestPromise12Draws(t *testing.T) {
	list := []int{5, 6, 8, 15}
	checkDraw(t, list, 0, 7)
	checkDraw(t, list, 1, 7, 15)
	checkDraw(t, list, 2, 7, 15, 5)
	checkDraw(t, list, 3, 7, 15, 5, 8)
	// A sample of all.
	checkDraw(t, list, 4, 7, 15, 5, 8, 6)
	checkDraw(t, list, 4, 0, 5, 8, 6, 15)
	checkDraw(t, list, 4, 1, 6, 5, 15, 8)
	checkDraw(t, list, 4, impl.MaxSeed, 15, 5, 8, 6)
	checkDraw(t, []int{1, 999}, 2, 0, 1, 999)
	checkDraw(t, []int{1, 999}, 2, 1, 999, 1)
	checkDraw(t, []int{1, 999}, 1, impl.MaxSeed, 999)
	checkDraw(t, seriesFrom(1, 20), 20, 0, 1, 3, 9, 18, 16, 4, 2, 11, 5, 14, 15, 8, 13, 20, 6, 10, 7, 19, 12, 17)
	checkDraw(t, seriesFrom(1, 20), 20, impl.MaxSeed, 20, 19, 10, 16, 13, 7, 15, 2, 18, 1, 4, 8, 9, 11, 17, 5, 14, 6, 12, 3)
	checkDraw(t, seriesFrom(980, 20), 6, 4711, 991, 996, 997, 994, 983, 987)
	checkDraw(t, nil, 0, 7)
	checkDraw(t, []int{}, 0, impl.MaxSeed)
	for _, seed := range someSeeds() {
		checkDraw(t, []int{1}, 0, seed)
		checkDraw(t, []int{1}, 1, seed, 1)
		checkDraw(t, []int{999}, 1, seed, 999)
	}
}

// TestPromise12DrawsOfAllSizes looks at each draw for its numbers, and at the draws of fewer for being beginnings of it.
func TestPromise12DrawsOfAllSizes(t *testing.T) {
	for _, list := range somePopulations() {
		for _, seed := range someSeeds() {
			all, _ := drawnFrom(list, len(list), seed)
			for n := range len(list) + 1 {
				checkDraw(t, list, n, seed, all[:n]...)
			}
			if !slices.Equal(ascending(all), list) {
				t.Errorf("a draw of all of %v has %v", list, all)
			}
		}
	}
}

func TestPromise12DrawsOfManySeeds(t *testing.T) {
	for seed := 0; seed <= impl.MaxSeed; seed += 37 {
		length := 1 + seed%20
		list := fullPopulation()[:length]
		n := seed / 20 % (length + 1)
		want, _ := drawnFrom(list, n, seed)
		checkDraw(t, list, n, seed, want...)
	}
}

// TestPromise12DrawsAreMadeAgain makes each draw twice, with other draws in between.
func TestPromise12DrawsAreMadeAgain(t *testing.T) {
	draws := func() [][]int {
		var all [][]int
		for _, list := range somePopulations() {
			for _, seed := range someSeeds() {
				for _, n := range []int{0, len(list) / 2, len(list)} {
					taken, ok := impl.OrderTaken(list, n, seed)
					sample, fine := impl.SampleOf(list, n, seed)
					if !ok || !fine {
						t.Errorf("no draw of %d from %v with %d", n, list, seed)
					}
					checkIsSample(t, list, sample, n, seed, true)
					all = append(all, taken, sample)
				}
			}
		}
		return all
	}
	first, second := draws(), draws()
	for i := range first {
		if !slices.Equal(first[i], second[i]) {
			t.Errorf("a draw is %v, and then %v", first[i], second[i])
		}
	}
}

// TestPromise12NoNumberIsTakenTwice looks at what is drawn alone, without drawing it again.
func TestPromise12NoNumberIsTakenTwice(t *testing.T) {
	for _, list := range somePopulations() {
		for n := range len(list) + 1 {
			for _, seed := range someSeeds() {
				taken, _ := impl.OrderTaken(list, n, seed)
				sample, _ := impl.SampleOf(list, n, seed)
				if len(taken) != n || !slices.Equal(ascending(taken), sample) {
					t.Errorf("a draw of %d from %v with %d has %v, %v", n, list, seed, taken, sample)
				}
				for i, number := range sample {
					if !slices.Contains(list, number) || i > 0 && sample[i-1] >= number {
						t.Errorf("a sample of %v is %v", list, sample)
					}
				}
			}
		}
	}
}

func TestPromise12DrawsAreRefused(t *testing.T) {
	for _, list := range somePopulations() {
		for _, n := range append([]int{-1, -2, len(list) + 1, len(list) + 2, 21, 22, 1000}, extremes...) {
			for _, seed := range append(wrongSeeds(), 0, 1, 7, impl.MaxSeed) {
				checkNoDraw(t, list, n, seed)
			}
		}
		for _, seed := range wrongSeeds() {
			for n := range len(list) + 1 {
				checkNoDraw(t, list, n, seed)
			}
		}
	}
}

func TestPromise12EveryNth(t *testing.T) {
	list := []int{5, 6, 8, 15}
	checkEvery(t, list, 1, 0, 5, 6, 8, 15)
	checkEvery(t, list, 2, 0, 5, 8)
	checkEvery(t, list, 2, 1, 6, 15)
	checkEvery(t, list, 3, 0, 5, 15)
	checkEvery(t, list, 3, 1, 6)
	checkEvery(t, list, 3, 2, 8)
	checkEvery(t, list, 4, 0, 5)
	checkEvery(t, list, 4, 3, 15)
	// Starts behind the end of the list.
	checkEvery(t, list, 5, 4)
	checkEvery(t, list, impl.MaxPopulation, 4)
	checkEvery(t, list, impl.MaxPopulation, impl.MaxPopulation-1)
	checkEvery(t, list, impl.MaxPopulation, 0, 5)
	checkEvery(t, list, impl.MaxPopulation, 3, 15)
	checkEvery(t, []int{7}, 1, 0, 7)
	checkEvery(t, []int{7}, 2, 1)
	checkEvery(t, seriesFrom(1, 20), 7, 0, 1, 8, 15)
	checkEvery(t, seriesFrom(1, 20), 7, 5, 6, 13, 20)
	checkEvery(t, seriesFrom(1, 20), 7, 6, 7, 14)
	checkEvery(t, seriesFrom(1, 20), 19, 0, 1, 20)
	checkEvery(t, seriesFrom(1, 20), impl.MaxPopulation, 0, 1)
	checkEvery(t, seriesFrom(1, 20), impl.MaxPopulation, impl.MaxPopulation-1, 20)
	for k := 1; k <= impl.MaxPopulation; k++ {
		checkEvery(t, nil, k, 0)
		checkEvery(t, []int{}, k, k-1)
	}
}

// TestPromise12EachNumberIsOfOneStart has the numbers of all starts of one stride together.
func TestPromise12EachNumberIsOfOneStart(t *testing.T) {
	for _, list := range somePopulations() {
		for k := 1; k <= impl.MaxPopulation; k++ {
			starts := make([][]int, k)
			for i, number := range list {
				starts[i%k] = append(starts[i%k], number)
			}
			var together []int
			for start := range k {
				checkEvery(t, list, k, start, starts[start]...)
				taken, _ := impl.EveryNth(list, k, start)
				together = append(together, taken...)
			}
			if !slices.Equal(ascending(together), list) {
				t.Errorf("the starts of the stride %d take %v from %v", k, together, list)
			}
		}
	}
}

func TestPromise12EveryNthRefuses(t *testing.T) {
	for _, list := range somePopulations() {
		for _, k := range append([]int{0, -1, -2, impl.MaxPopulation + 1, impl.MaxPopulation + 2, 1 << 32}, extremes...) {
			for _, start := range []int{-1, 0, 1, k - 1, k} {
				checkNoEvery(t, list, k, start)
			}
		}
		for k := 1; k <= impl.MaxPopulation; k++ {
			for _, start := range append([]int{-1, -2, -k, k, k + 1, 20, 21, 1 << 32}, extremes...) {
				checkNoEvery(t, list, k, start)
			}
		}
	}
}

func TestPromise12SampleSize(t *testing.T) {
	for _, c := range [][4]int{
		{7, 33, 1, 3}, {2, 10, 5, 2},
		// No percent, and all.
		{10, 0, 0, 0}, {10, 0, 1, 1}, {10, 0, 4, 4}, {10, 100, 0, 10}, {10, 100, 20, 10}, {20, 100, 0, 20}, {7, 100, 1, 7},
		// Whole shares, and such that are rounded up.
		{10, 50, 0, 5}, {20, 5, 0, 1}, {20, 95, 0, 19}, {4, 25, 0, 1}, {20, 96, 0, 20}, {20, 6, 0, 2}, {10, 51, 0, 6}, {10, 49, 0, 5}, {1, 1, 0, 1}, {20, 1, 0, 1}, {19, 99, 0, 19}, {3, 34, 0, 2},
		// No numbers.
		{0, 0, 0, 0}, {0, 100, 0, 0}, {0, 0, 20, 0}, {0, 100, 20, 0}, {0, 50, 1, 0},
		// At least more than the share, as many as it, fewer, and more than the count.
		{10, 50, 6, 6}, {10, 50, 5, 5}, {10, 50, 4, 5}, {10, 50, 10, 10}, {10, 50, 11, 10}, {10, 50, 20, 10}, {20, 10, 20, 20}, {1, 0, 2, 1}, {1, 0, 0, 0},
	} {
		checkSize(t, c[0], c[1], c[2], c[3])
	}
}

func TestPromise12AllSampleSizes(t *testing.T) {
	for count := range impl.MaxPopulation + 1 {
		for percent := range 101 {
			for least := range impl.MaxPopulation + 1 {
				checkSize(t, count, percent, least, sizeByCounting(count, percent, least))
			}
		}
	}
}

func TestPromise12SampleSizeRefuses(t *testing.T) {
	wrong := append([]int{-1, -2, 101, 102, 1 << 32, 1<<32 + 1}, extremes...)
	for _, n := range append([]int{impl.MaxPopulation + 1, impl.MaxPopulation + 2, 100}, wrong...) {
		for _, fine := range []int{0, 1, 10, impl.MaxPopulation} {
			for _, percent := range []int{0, 1, 50, 100} {
				checkNoSize(t, n, percent, fine)
				checkNoSize(t, fine, percent, n)
				checkNoSize(t, n, percent, n)
			}
		}
	}
	for _, percent := range wrong {
		for _, count := range []int{0, 1, 10, impl.MaxPopulation} {
			checkNoSize(t, count, percent, 0)
			checkNoSize(t, count, percent, 1)
			checkNoSize(t, count, percent, impl.MaxPopulation)
		}
	}
}

func TestPromise12SampleBySeries(t *testing.T) {
	list := tenOfFourSeries()
	checkBySeries(t, list, 0, 3, 5, 8, 11, 999)
	checkBySeries(t, list, 25, 3, 5, 8, 11, 999)
	checkBySeries(t, list, 50, 3, 2, 8, 11, 12, 20, 999)
	checkBySeries(t, list, 50, 0, 2, 3, 8, 21, 30, 999)
	checkBySeries(t, list, 50, impl.MaxSeed, 2, 3, 11, 12, 20, 999)
	for _, seed := range someSeeds() {
		checkBySeries(t, list, 100, seed, 2, 3, 5, 8, 11, 12, 20, 21, 30, 999)
		for percent := range 101 {
			checkBySeries(t, nil, percent, seed)
			checkBySeries(t, []impl.Record{}, percent, seed)
			checkBySeries(t, heldAll("999s99@20000"), percent, seed, 999)
			checkBySeries(t, heldAll("1s99@0", "2s1@0"), percent, seed, 1, 2)
		}
	}
}

func TestPromise12SampleOfOneSeries(t *testing.T) {
	for count := 1; count <= impl.MaxHeld; count++ {
		for _, series := range []int{1, 50, 99} {
			var list []impl.Record
			for _, id := range seriesFrom(7, count) {
				list = append(list, record(id, series, 100))
			}
			for percent := range 101 {
				for _, seed := range someSeeds() {
					want, _ := drawnFrom(seriesFrom(7, count), sizeByCounting(count, percent, 1), seed)
					checkBySeries(t, list, percent, seed, ascending(want)...)
				}
			}
		}
	}
}

// TestPromise12TheSeedThatASeriesLeaves has Records of a Series of which other ones are drawn after a Series ahead of it,
// and after more of that one.
func TestPromise12TheSeedThatASeriesLeaves(t *testing.T) {
	behind := []string{"11s5@0", "12s5@0", "13s5@0", "14s5@0"}
	checkBySeries(t, heldAll(behind...), 25, 0, 11)
	checkBySeries(t, heldAll(append([]string{"1s3@0"}, behind...)...), 25, 0, 1, 12)
	checkBySeries(t, heldAll(append([]string{"1s3@0", "2s3@0", "3s3@0", "4s3@0", "5s3@0"}, behind...)...), 25, 0, 1, 3, 13)
	// A Series that follows leaves its seed to nobody, wherever its Records are in the list.
	checkBySeries(t, heldAll(append([]string{"1s6@0", "2s6@0"}, behind...)...), 25, 0, 2, 11)
	checkBySeries(t, heldAll(append(behind, "21s6@0", "22s6@0")...), 25, 0, 11, 22)
	checkBySeries(t, heldAll(append(behind, "21s3@0")...), 25, 0, 12, 21)
}

func TestPromise12SampleBySeriesOfAllLists(t *testing.T) {
	for _, list := range someRecordLists() {
		if !impl.AreRecords(list) {
			t.Fatal("the test has wrong Records", list)
		}
		for _, percent := range []int{0, 1, 10, 20, 25, 33, 34, 50, 51, 66, 67, 75, 90, 99, 100} {
			for _, seed := range someSeeds() {
				checkBySeries(t, list, percent, seed, sampledBySeries(list, percent, seed)...)
			}
		}
	}
}

func TestPromise12SampleBySeriesRefuses(t *testing.T) {
	for _, list := range someRecordLists()[:20] {
		for _, percent := range append([]int{-1, -2, 101, 102, 1 << 32}, extremes...) {
			for _, seed := range append(wrongSeeds(), 0, 7, impl.MaxSeed) {
				checkNoBySeries(t, list, percent, seed)
			}
		}
		for _, seed := range wrongSeeds() {
			for _, percent := range []int{0, 50, 100} {
				checkNoBySeries(t, list, percent, seed)
			}
		}
	}
	for _, list := range wrongRecordLists() {
		for _, percent := range []int{0, 50, 100} {
			for _, seed := range []int{0, 7, impl.MaxSeed} {
				checkNoBySeries(t, list, percent, seed)
			}
		}
	}
}

func TestPromise12IsSampleOf(t *testing.T) {
	list := []int{5, 6, 8, 15}
	checkIsSample(t, list, []int{5, 15}, 2, 7, true)
	checkIsSample(t, list, []int{5, 8, 15}, 3, 7, true)
	checkIsSample(t, list, list, 4, 7, true)
	checkIsSample(t, list, nil, 0, 7, true)
	checkIsSample(t, list, []int{}, 0, 7, true)
	checkIsSample(t, nil, nil, 0, 7, true)
	checkIsSample(t, []int{}, nil, 0, 0, true)
	// The same numbers in another order, as they are taken too.
	checkIsSample(t, list, []int{15, 5}, 2, 7, false)
	checkIsSample(t, list, []int{15, 5, 8}, 3, 7, false)
	checkIsSample(t, list, []int{15, 8, 6, 5}, 4, 7, false)
	// One number more, one less, and another one.
	checkIsSample(t, list, []int{5, 8, 15}, 2, 7, false)
	checkIsSample(t, list, []int{5, 15, 16}, 2, 7, false)
	checkIsSample(t, list, []int{5}, 2, 7, false)
	checkIsSample(t, list, []int{15}, 2, 7, false)
	checkIsSample(t, list, nil, 1, 7, false)
	checkIsSample(t, list, []int{5}, 0, 7, false)
	checkIsSample(t, list, []int{6, 15}, 2, 7, false)
	checkIsSample(t, list, []int{5, 8}, 2, 7, false)
	// The same numbers with another seed, and of another size.
	checkIsSample(t, list, []int{15}, 1, 7, true)
	checkIsSample(t, list, []int{15}, 1, 6, false)
	checkIsSample(t, list, []int{5, 15}, 3, 7, false)
	checkIsSample(t, nil, []int{5}, 0, 7, false)
}

// TestPromise12ListsThatAreNoSamples has a number twice, out of order, or not in the population, so that no draw is the same.
func TestPromise12ListsThatAreNoSamples(t *testing.T) {
	for _, list := range somePopulations() {
		for n := range len(list) + 1 {
			for _, sample := range wrongPopulations() {
				checkIsSample(t, list, sample, n, 7, false)
			}
		}
	}
	list := []int{5, 6, 8, 15}
	for _, sample := range [][]int{{5, 5}, {15, 15}, {5, 5, 15}, {5, 15, 15}, {5, 16}, {4, 15}, {0, 15}, {5, 1000}, {5, 6, 8, 15, 16}} {
		for n := range 5 {
			checkIsSample(t, list, sample, n, 7, false)
		}
	}
}

func TestPromise12IsSampleOfAllSamples(t *testing.T) {
	list := []int{1, 4, 6, 9, 999}
	for seed := range 400 {
		for n := range len(list) + 1 {
			taken, _ := drawnFrom(list, n, seed)
			for set := range 1 << len(list) {
				var sample []int
				for i, number := range list {
					if set>>i&1 == 1 {
						sample = append(sample, number)
					}
				}
				checkIsSample(t, list, sample, n, seed, slices.Equal(sample, ascending(taken)))
			}
		}
	}
}

func TestPromise12SeedFor(t *testing.T) {
	list := []int{5, 6, 8, 15}
	checkSeedFor(t, list, 5, 0)
	checkSeedFor(t, list, 6, 1)
	checkSeedFor(t, list, 8, 2)
	checkSeedFor(t, list, 15, 3)
	checkSeedFor(t, []int{1}, 1, 0)
	checkSeedFor(t, []int{999}, 999, 0)
	checkSeedFor(t, seriesFrom(980, 20), 980, 0)
	checkSeedFor(t, seriesFrom(980, 20), 999, 19)
	for _, first := range []int{4, 7, 9, 14, 16, 1, 999, 0, 1000, -1, -5} {
		checkNoSeedFor(t, list, first)
	}
	for _, first := range append([]int{0, 1, 999, 1000}, extremes...) {
		checkNoSeedFor(t, nil, first)
		checkNoSeedFor(t, []int{}, first)
	}
}

// TestPromise12SeedForEachNumber tries all seeds from 0 on until a number is drawn first.
func TestPromise12SeedForEachNumber(t *testing.T) {
	for _, list := range somePopulations() {
		for _, first := range list {
			seed := 0
			for taken := []int{}; !slices.Equal(taken, []int{first}); seed++ {
				if seed > impl.MaxSeed {
					t.Fatalf("no seed for %d of %v", first, list)
				}
				taken, _ = impl.OrderTaken(list, 1, seed)
			}
			checkSeedFor(t, list, first, seed-1)
		}
		for number := -2; number <= 1002; number++ {
			if !slices.Contains(list, number) {
				checkNoSeedFor(t, list, number)
			}
		}
		for _, number := range extremes {
			checkNoSeedFor(t, list, number)
		}
	}
}

func TestPromise12NotSampled(t *testing.T) {
	list := []int{5, 6, 8, 15}
	checkRest(t, list, []int{5, 15}, 6, 8)
	checkRest(t, list, []int{6}, 5, 8, 15)
	checkRest(t, list, []int{5, 6, 8}, 15)
	checkRest(t, list, nil, 5, 6, 8, 15)
	checkRest(t, list, []int{}, 5, 6, 8, 15)
	checkRest(t, list, []int{5, 6, 8, 15})
	checkRest(t, list, list)
	checkRest(t, nil, nil)
	checkRest(t, []int{}, []int{})
	checkRest(t, []int{1, 999}, []int{999}, 1)
	checkRest(t, []int{1, 999}, []int{1}, 999)
	checkRest(t, seriesFrom(1, 20), seriesFrom(2, 18), 1, 20)
	checkRest(t, fullPopulation(), fullPopulation())
}

// TestPromise12SampledAndNotSampled has each number of a population in one of the two.
func TestPromise12SampledAndNotSampled(t *testing.T) {
	for _, list := range somePopulations() {
		for n := range len(list) + 1 {
			for _, seed := range someSeeds() {
				all, _ := drawnFrom(list, len(list), seed)
				checkRest(t, list, ascending(all[:n]), ascending(all[n:])...)
			}
		}
	}
}

func TestPromise12NotSampledRefuses(t *testing.T) {
	for _, list := range somePopulations() {
		for _, sample := range wrongPopulations() {
			checkNoRest(t, list, sample)
		}
		for number := -2; number <= 1002; number++ {
			if !slices.Contains(list, number) {
				checkNoRest(t, list, []int{number})
				checkNoRest(t, list, ascending(append([]int{number}, list...)))
				checkNoRest(t, list, ascending(append([]int{number}, list[:len(list)/2]...)))
			}
		}
	}
	list := []int{5, 6, 8, 15}
	for _, sample := range [][]int{{5, 5}, {15, 15}, {5, 6, 6}, {6, 5}, {15, 8}, {5, 15, 8}, {5, 7}, {4, 6}, {5, 6, 8, 15, 16}, {5, 6, 8, 16}, {1, 2, 3, 4}, {0}, {1000}, {-1}} {
		checkNoRest(t, list, sample)
	}
}

func TestPromise12NotSampledOfAllShortSamples(t *testing.T) {
	numbers := []int{4, 5, 6, 7, 8, 9}
	for length := range 4 {
		list := []int{5, 6, 8}[:length]
		look := func(sample ...int) {
			t.Helper()
			var rest []int
			ok := isPopulationByPairs(sample)
			for _, number := range sample {
				ok = ok && slices.Contains(list, number)
			}
			for _, number := range list {
				if !slices.Contains(sample, number) {
					rest = append(rest, number)
				}
			}
			if ok {
				checkRest(t, list, sample, rest...)
			} else {
				checkNoRest(t, list, sample)
			}
		}
		for _, a := range numbers {
			look(a)
			for _, b := range numbers {
				look(a, b)
				for _, c := range numbers {
					look(a, b, c)
				}
			}
		}
	}
}

// useSampling calls each function of the chapter that takes a population.
func useSampling(list, sample, numbers []int) {
	impl.IsPopulation(list)
	impl.NotSampled(list, sample)
	for _, a := range numbers {
		impl.SeedFor(list, a)
		for _, b := range numbers {
			impl.NextSeed(a, b)
			impl.OrderTaken(list, a, b)
			impl.SampleOf(list, a, b)
			impl.EveryNth(list, a, b)
			impl.IsSampleOf(list, sample, a, b)
		}
	}
}

func TestPromise29SamplingReturnsForAllArguments(t *testing.T) {
	numbers := append([]int{0, 1, 2, 19, 20, 21, 100, 101, 999, 1000, 1001, 99999, 100000}, extremes...)
	lists := append(wrongPopulations(), somePopulations()...)
	for _, list := range lists {
		useSampling(list, list, numbers)
		useSampling(list, []int{1, 999}, numbers)
		useSampling([]int{1, 5, 999}, list, numbers)
	}
	useSampling(make([]int, 1<<20), make([]int, 1<<20), numbers)
	for _, a := range numbers {
		for _, b := range numbers {
			for _, c := range numbers {
				impl.SampleSize(a, b, c)
			}
			for _, list := range append(wrongRecordLists(), someRecordLists()...) {
				impl.SampleBySeries(list, a, b)
			}
		}
	}
}

// roomyPopulation has as many numbers, with others behind its length.
func roomyPopulation(length int) []int {
	return append(append(make([]int, 0, 30), fullPopulation()...), 1000, 3, -7, 0)[:length]
}

func TestPromise29PopulationsAreNotModified(t *testing.T) {
	numbers := []int{-1, 0, 1, 2, 3, 4, 5, 7, 10, 19, 20, 21, 50, 999, 4711, impl.MaxSeed, impl.MaxSeed + 1}
	lists := append(wrongPopulations(), somePopulations()...)
	for length := range 25 {
		lists = append(lists, roomyPopulation(length))
	}
	for _, list := range lists {
		for _, sample := range [][]int{roomyPopulation(0), roomyPopulation(3), {15, 8, 5, 2, 2}, slices.Clone(list)} {
			all, allSampled := list[:cap(list)], sample[:cap(sample)]
			kept, keptSample := slices.Clone(all), slices.Clone(allSampled)
			useSampling(list, sample, numbers)
			if !slices.Equal(all, kept) || !slices.Equal(allSampled, keptSample) {
				t.Errorf("%d numbers changed to %s, and the sample to %s", len(list), brief(all), brief(allSampled))
			}
		}
	}
}

func TestPromise29SampledRecordsAreNotModified(t *testing.T) {
	lists := append(wrongRecordLists(), someRecordLists()...)
	for length := range 7 {
		r, _ := roomy(length)
		lists = append(lists, append(heldAll("3s3@20 1@30"), r, held("13s4@30"), held("14s3@100"), impl.Record{Id: -1})[:1+length%4])
	}
	for _, list := range lists {
		kept := textOfRecords(list)
		for _, percent := range []int{-1, 0, 50, 100, 101} {
			for _, seed := range []int{-1, 0, 4711, impl.MaxSeed, impl.MaxSeed + 1} {
				impl.SampleBySeries(list, percent, seed)
			}
		}
		if textOfRecords(list) != kept {
			t.Errorf("the Records changed to %s", brief(textOfRecords(list)))
		}
	}
}

func TestPromise29NumbersBehindTheLengthAreNotUsed(t *testing.T) {
	for length := range 21 {
		list := roomyPopulation(length)
		if !impl.IsPopulation(list) {
			t.Errorf("%v is no population", list)
		}
		for _, seed := range someSeeds() {
			want, _ := drawnFrom(fullPopulation()[:length], length, seed)
			checkDraw(t, list, length, seed, want...)
			checkNoDraw(t, list, length+1, seed)
		}
		checkEvery(t, list, 1, 0, fullPopulation()[:length]...)
		checkEvery(t, list, impl.MaxPopulation, min(length, impl.MaxPopulation-1), fullPopulation()[:length][min(length, impl.MaxPopulation-1):]...)
		checkNoSeedFor(t, list, roomyPopulation(24)[length])
		checkRest(t, list, roomyPopulation(length/2), fullPopulation()[length/2:length]...)
		checkNoRest(t, list, roomyPopulation(length+1))
		checkIsSample(t, list, roomyPopulation(length), length, 7, true)
		checkIsSample(t, list, roomyPopulation(length+1), length, 7, false)
	}
	if impl.IsPopulation(roomyPopulation(21)) {
		t.Error("21 numbers are a population")
	}
}

// checkSampleUnshared looks that neither the numbers nor a second result changes with the memory of the first one.
func checkSampleUnshared(t *testing.T, name string, act func([]int) ([]int, bool)) {
	t.Helper()
	for _, length := range []int{4, 10, impl.MaxPopulation} {
		list := roomyPopulation(length)
		first, ok := act(list)
		second, fine := act(list)
		want := slices.Clone(second)
		scribbleNumbers(first)
		if !ok || !fine || len(want) == 0 || !slices.Equal(second, want) || !slices.Equal(list[:24], roomyPopulation(24)) {
			t.Errorf("a result of %s of %d numbers shares memory: %v, %v", name, length, second, list[:24])
		}
		scribbleNumbers(list)
		if !slices.Equal(second, want) {
			t.Errorf("an argument of %s of %d numbers shares memory: %v", name, length, second)
		}
	}
}

func TestPromise29SamplesShareNoMemory(t *testing.T) {
	for _, seed := range []int{0, 7, impl.MaxSeed} {
		checkSampleUnshared(t, "SampleOf", func(list []int) ([]int, bool) { return impl.SampleOf(list, len(list), seed) })
		checkSampleUnshared(t, "SampleOf", func(list []int) ([]int, bool) { return impl.SampleOf(list, len(list)-1, seed) })
		checkSampleUnshared(t, "OrderTaken", func(list []int) ([]int, bool) { return impl.OrderTaken(list, len(list), seed) })
		checkSampleUnshared(t, "OrderTaken", func(list []int) ([]int, bool) { return impl.OrderTaken(list, 1, seed) })
	}
	// With the stride 1, and with no sample, the numbers are those of the list.
	checkSampleUnshared(t, "EveryNth", func(list []int) ([]int, bool) { return impl.EveryNth(list, 1, 0) })
	checkSampleUnshared(t, "EveryNth", func(list []int) ([]int, bool) { return impl.EveryNth(list, 2, 1) })
	checkSampleUnshared(t, "NotSampled", func(list []int) ([]int, bool) { return impl.NotSampled(list, nil) })
	checkSampleUnshared(t, "NotSampled", func(list []int) ([]int, bool) { return impl.NotSampled(list, list[:0]) })
	checkSampleUnshared(t, "NotSampled", func(list []int) ([]int, bool) { return impl.NotSampled(list, list[:2]) })
	checkSampleUnshared(t, "NotSampled", func(list []int) ([]int, bool) { return impl.NotSampled(list, list[2:]) })
	// In a draw of all with the seed 0, one number is taken at its own place.
	checkSampleUnshared(t, "OrderTaken", func(list []int) ([]int, bool) { return impl.OrderTaken(list[:1], 1, 0) })
}

func TestPromise29SampledSeriesShareNoMemory(t *testing.T) {
	for _, percent := range []int{0, 50, 100} {
		list := tenOfFourSeries()
		kept := textOfRecords(list)
		first, ok := impl.SampleBySeries(list, percent, 7)
		second, fine := impl.SampleBySeries(list, percent, 7)
		want := slices.Clone(second)
		scribbleNumbers(first)
		if !ok || !fine || len(want) == 0 || !slices.Equal(second, want) || textOfRecords(list) != kept {
			t.Errorf("a result of SampleBySeries shares memory: %v", second)
		}
	}
}
