package tests

import (
	"fmt"
	"math"
	"slices"
	"testing"

	"loop.example/g00906/impl"
)

func minutesAt(minutes ...int) []int { return minutes }

func equalMinutes(bays int, minutes int) []int { return slices.Repeat([]int{minutes}, bays) }

// firstBays is a division.
func firstBays(bays ...int) []int { return bays }

// moves reads a Crane, a Bay, a From and a To for every move.
func moves(numbers ...int) []impl.CraneMove {
	list := []impl.CraneMove{}
	for part := range slices.Chunk(numbers, 4) {
		list = append(list, impl.CraneMove{Crane: part[0], Bay: part[1], From: part[2], To: part[3]})
	}
	return list
}

// turns has moves of crane 0 at bay 0, one after the other.
func turns(count int) []impl.CraneMove {
	list := []impl.CraneMove{}
	for i := range count {
		list = append(list, impl.CraneMove{From: i, To: i + 1})
	}
	return list
}

// isWorkByRule is an oracle.
func isWorkByRule(work []int) bool {
	return isBetween(len(work), 1, 10) && !slices.ContainsFunc(work, func(n int) bool { return !isBetween(n, 0, 300) })
}

// isDivisionByRule is an oracle for the divisions of valid work for a valid number of cranes.
func isDivisionByRule(work []int, cranes int, division []int) bool {
	least := 0
	for _, first := range division {
		if !isBetween(first, least, len(work)) {
			return false
		}
		least = first
	}
	return len(division) == cranes-1
}

// isMoveByRule is an oracle.
func isMoveByRule(x impl.CraneMove) bool {
	return isBetween(x.Crane, 0, 2) && isBetween(x.Bay, 0, 9) && isBetween(x.From, 0, 9999) && isBetween(x.To, 1, 10000) && x.To > x.From
}

// craneAt counts the cranes whose first bay is not right of a bay, as an oracle: the last one of
// them works there.
func craneAt(bay int, division []int) int {
	crane := 0
	for _, first := range division {
		if first <= bay {
			crane++
		}
	}
	return crane
}

// loadsByBays asks for the crane of every bay, as an oracle.
func loadsByBays(work []int, cranes int, division []int) []int {
	sums := make([]int, cranes)
	for bay, minutes := range work {
		sums[craneAt(bay, division)] += minutes
	}
	return sums
}

// scheduleByBays has, for every crane, a move at each of its bays with work that begins when all
// the work left of it is done, as an oracle.
func scheduleByBays(work []int, cranes int, division []int) []impl.CraneMove {
	list := []impl.CraneMove{}
	for crane := range cranes {
		for bay, minutes := range work {
			if minutes == 0 || craneAt(bay, division) != crane {
				continue
			}
			begin := 0
			for before := range bay {
				if craneAt(before, division) == crane {
					begin += work[before]
				}
			}
			list = append(list, impl.CraneMove{Crane: crane, Bay: bay, From: begin, To: begin + minutes})
		}
	}
	return list
}

// bayDivisions has all divisions, in lexicographic order.
func bayDivisions(bays int, cranes int) [][]int {
	return slices.DeleteFunc(listsOf(cranes-1, bays+1), func(list []int) bool { return !slices.IsSorted(list) })
}

// bestOfBayDivisions compares all divisions, as an oracle. It also returns how many are best.
func bestOfBayDivisions(work []int, cranes int) ([]int, int, int) {
	var best []int
	smallest, count := 0, 0
	for _, division := range bayDivisions(len(work), cranes) {
		greatest := slices.Max(loadsByBays(work, cranes, division))
		switch {
		case count == 0 || greatest < smallest:
			best, smallest, count = division, greatest, 1
		case greatest == smallest:
			count++
			if slices.Compare(division, best) < 0 {
				best = division
			}
		}
	}
	return best, smallest, count
}

// boundByCounting tries one bound after the other, as an oracle.
func boundByCounting(work []int, cranes int) int {
	bound := 0
	for bound*cranes < added(work) || slices.Max(work) > bound {
		bound++
	}
	return bound
}

// clashByRule is an oracle.
func clashByRule(a impl.CraneMove, b impl.CraneMove) bool {
	if a.Crane > b.Crane {
		a, b = b, a
	}
	return max(a.From, b.From) < min(a.To, b.To) && (a.Crane == b.Crane || a.Bay >= b.Bay)
}

// clashesByPairs has all pairs that clash, as an oracle.
func clashesByPairs(list []impl.CraneMove) [][]int {
	var all [][]int
	for k := range list {
		for i := range k {
			if clashByRule(list[i], list[k]) {
				all = append(all, []int{i, k})
			}
		}
	}
	slices.SortFunc(all, slices.Compare[[]int])
	return all
}

// areApart looks at one minute: from the leftmost crane to the rightmost one, no two may be the
// same, and every one must work at a greater bay than the one before.
func areApart(list []impl.CraneMove, minute int) bool {
	working := slices.DeleteFunc(slices.Clone(list), func(x impl.CraneMove) bool { return !isBetween(minute, x.From, x.To-1) })
	slices.SortFunc(working, func(a, b impl.CraneMove) int { return a.Crane - b.Crane })
	for i := 1; i < len(working); i++ {
		if working[i].Crane == working[i-1].Crane || working[i].Bay <= working[i-1].Bay {
			return false
		}
	}
	return true
}

// timesByMinute counts the minutes of each move, as an oracle.
func timesByMinute(list []impl.CraneMove, crane int) (int, int) {
	sum, last := 0, 0
	for _, x := range list {
		for minute := x.From; x.Crane == crane && minute < x.To; minute++ {
			sum++
			last = max(last, minute+1)
		}
	}
	return sum, last
}

// smallWorks has all work at up to a number of bays with some minutes.
func smallWorks(most int, minutes ...int) [][]int {
	return slices.DeleteFunc(smallColumns(most, minutes...), func(work []int) bool { return len(work) == 0 })
}

// mixedWork has small numbers, any numbers, numbers near each other, numbers at their limits, or
// many bays without work.
func mixedWork(next func(n int) int) []int {
	work, kind, base := []int{}, next(5), next(298)
	for range 1 + next(10) {
		minutes := []int{next(9), next(301), base + next(3), []int{0, 1, 299, 300}[next(4)], next(2) * next(2) * next(301)}
		work = append(work, minutes[kind])
	}
	return work
}

func workSamples(seed int, count int) [][]int {
	next := dice(seed)
	var all [][]int
	for range count {
		all = append(all, mixedWork(next))
	}
	return all
}

// mixedMoves has valid moves: some lists are short enough, and their moves far enough from each
// other, to have no clash.
func mixedMoves(next func(n int) int) []impl.CraneMove {
	list, last, length := []impl.CraneMove{}, []int{9, 60, 900, 9900}[next(4)], []int{1, 4, 30, 100}[next(4)]
	climbing := next(2) == 0
	for range next(31) {
		from := next(last)
		x := impl.CraneMove{Crane: next(3), Bay: next(10), From: from, To: from + 1 + next(length)}
		if climbing {
			x.Bay = 3*x.Crane + next(3)
		}
		list = append(list, x)
	}
	return list[:next(len(list)+1)]
}

// mixedSchedule has the moves of a division in any order, with breaks in between and sometimes
// with a bay changed.
func mixedSchedule(next func(n int) int) []impl.CraneMove {
	work, cranes := mixedWork(next), 1+next(3)
	divisions := bayDivisions(len(work), cranes)
	list := scheduleByBays(work, cranes, divisions[next(len(divisions))])
	for i := range list {
		k := next(i + 1)
		list[i], list[k] = list[k], list[i]
	}
	later := next(2) * next(500)
	for i := range list {
		list[i].From, list[i].To = list[i].From+later, list[i].To+later
	}
	if len(list) > 0 && next(2) == 0 {
		list[next(len(list))].Bay = next(10)
	}
	return list
}

func moveSamples(seed int, count int) [][]impl.CraneMove {
	next := dice(seed)
	var all [][]impl.CraneMove
	for range count {
		all = append(all, mixedMoves(next), mixedSchedule(next))
	}
	return all
}

// badWork has work that is not valid, and names for it.
func badWork() map[string][]int {
	all := map[string][]int{
		"none": nil, "empty": {}, "eleven": equalMinutes(11, 7), "eleven zeros": equalMinutes(11, 0), "eleven at the limit": equalMinutes(11, 300),
		"twelve": equalMinutes(12, 1), "very many": equalMinutes(1<<16, 1), "eleven bad ones": equalMinutes(11, -1),
		"a sum of zero": {5, -5}, "a small sum": {301, -300}, "only bad ones": equalMinutes(10, 301), "overflowing": {math.MaxInt, math.MaxInt, 2},
	}
	for _, n := range outsideOf(0, 300) {
		all[fmt.Sprint("only ", n)] = []int{n}
		all[fmt.Sprint("first ", n)] = []int{n, 7, 9}
		all[fmt.Sprint("in the middle ", n)] = []int{7, n, 9}
		all[fmt.Sprint("last ", n)] = []int{7, 9, n}
		all[fmt.Sprint("last of ten ", n)] = append(equalMinutes(9, 0), n)
	}
	return all
}

// noDivisions has lists that are no divisions of bays for a number of cranes.
func noDivisions(bays int, cranes int) [][]int {
	var all [][]int
	for length := range 5 {
		if length != cranes-1 {
			all = append(all, equalMinutes(length, 0), equalMinutes(length, bays), equalMinutes(length, 1))
		}
	}
	for i := range cranes - 1 {
		for _, first := range outsideOf(0, bays) {
			for _, other := range []int{0, bays, first} {
				list := equalMinutes(cranes-1, other)
				list[i] = first
				all = append(all, list)
			}
		}
	}
	if cranes == 3 {
		for _, list := range listsOf(2, bays+1) {
			if list[0] > list[1] {
				all = append(all, list)
			}
		}
	}
	return all
}

// badMoves has moves with one number out of range, or with times that do not fit.
func badMoves() map[string]impl.CraneMove {
	good := impl.CraneMove{Crane: 1, Bay: 4, From: 20, To: 50}
	all := map[string]impl.CraneMove{
		"all zeros": {}, "no time at the begin": {Crane: 1, Bay: 4}, "no time at the end": {Crane: 1, Bay: 4, From: 10000, To: 10000},
		"all at -1": {Crane: -1, Bay: -1, From: -1, To: -1}, "before the begin": {Crane: 1, Bay: 4, From: -1, To: 0},
		"after the end": {Crane: 1, Bay: 4, From: 10000, To: 10001},
	}
	add := func(name string, n int, x impl.CraneMove) { all[fmt.Sprint(name, " ", n)] = x }
	for _, n := range outsideOf(0, 2) {
		x := good
		x.Crane = n
		add("the crane", n, x)
	}
	for _, n := range outsideOf(0, 9) {
		x := good
		x.Bay = n
		add("the bay", n, x)
	}
	for _, n := range append(outsideOf(0, 49), 50, 51, 10000, 10001) {
		x := good
		x.From = n
		add("from", n, x)
	}
	for _, n := range append(outsideOf(21, 10000), 20, 19, 0, -1) {
		x := good
		x.To = n
		add("to", n, x)
	}
	return all
}

// badMoveLists has lists that are too long, or whose other moves are valid.
func badMoveLists() map[string][]impl.CraneMove {
	all := map[string][]impl.CraneMove{
		"31": turns(31), "31 equal": slices.Repeat(moves(1, 4, 20, 50), 31), "32": turns(32), "very many": slices.Repeat(moves(1, 4, 20, 50), 1<<16),
		"31 bad ones": slices.Repeat(moves(3, 4, 20, 50), 31), "30 bad ones": slices.Repeat(moves(0, 0, 0, 0), 30),
	}
	for name, x := range badMoves() {
		all["only "+name] = []impl.CraneMove{x}
		all["first "+name] = append([]impl.CraneMove{x}, moves(0, 1, 0, 10, 1, 1, 5, 15)...)
		all["in the middle "+name] = slices.Concat(moves(0, 1, 0, 10), []impl.CraneMove{x}, moves(1, 1, 5, 15))
		all["last "+name] = append(moves(0, 1, 0, 10, 1, 1, 5, 15), x)
		all["last of 30 "+name] = append(turns(29), x)
	}
	return all
}

func wantCraneLoads(t *testing.T, work []int, cranes int, division []int, want ...int) {
	t.Helper()
	if got, ok := impl.LoadsOf(work, cranes, division); !ok || !slices.Equal(got, want) {
		t.Errorf("LoadsOf of %v, %d, %v = %v, %v, want %v", work, cranes, division, got, ok, want)
	}
}

// wantNoDivisionOf wants zero values of the functions that take a division.
func wantNoDivisionOf(t *testing.T, work []int, cranes int, division []int) {
	t.Helper()
	label := fmt.Sprintf("%.99s, %d, %.99s", fmt.Sprint(work), cranes, fmt.Sprint(division))
	if got, ok := impl.LoadsOf(work, cranes, division); ok || len(got) != 0 {
		t.Errorf("LoadsOf of %s = %v, %v", label, got, ok)
	}
	if got, ok := impl.ScheduleDivision(work, cranes, division); ok || len(got) != 0 {
		t.Errorf("ScheduleDivision of %s = %v, %v", label, got, ok)
	}
}

func wantBestLoad(t *testing.T, work []int, cranes int, greatest int, division ...int) {
	t.Helper()
	if got, n, ok := impl.BestDivision(work, cranes); !ok || n != greatest || !slices.Equal(got, division) {
		t.Errorf("BestDivision of %v, %d = %v, %d, %v, want %v, %d", work, cranes, got, n, ok, division, greatest)
	}
}

func wantDivisionBound(t *testing.T, work []int, cranes int, want int) {
	t.Helper()
	if got, ok := impl.DivisionBound(work, cranes); !ok || got != want {
		t.Errorf("DivisionBound of %v, %d = %d, %v, want %d", work, cranes, got, ok, want)
	}
}

func wantSchedule(t *testing.T, work []int, cranes int, division []int, want []impl.CraneMove) {
	t.Helper()
	if got, ok := impl.ScheduleDivision(work, cranes, division); !ok || !slices.Equal(got, want) {
		t.Errorf("ScheduleDivision of %v, %d, %v = %v, %v, want %v", work, cranes, division, got, ok, want)
	}
}

func wantClash(t *testing.T, list []impl.CraneMove, first int, second int) {
	t.Helper()
	if i, k, ok := impl.FirstClash(list); !ok || i != first || k != second {
		t.Errorf("FirstClash of %v = %d, %d, %v, want %d, %d", list, i, k, ok, first, second)
	}
}

func wantNoClash(t *testing.T, list []impl.CraneMove) {
	t.Helper()
	wantClash(t, list, -1, -1)
}

func wantTimes(t *testing.T, list []impl.CraneMove, crane int, sum int, last int) {
	t.Helper()
	if n, end, ok := impl.CraneTimes(list, crane); !ok || n != sum || end != last {
		t.Errorf("CraneTimes of %v, %d = %d, %d, %v, want %d, %d", list, crane, n, end, ok, sum, last)
	}
}

func wantNoTimes(t *testing.T, list []impl.CraneMove, crane int) {
	t.Helper()
	if n, end, ok := impl.CraneTimes(list, crane); ok || n != 0 || end != 0 {
		t.Errorf("CraneTimes of %.99s, %d = %d, %d, %v", fmt.Sprint(list), crane, n, end, ok)
	}
}

func wantMoreCranes(t *testing.T, work []int, want ...int) {
	t.Helper()
	if got, ok := impl.MoreCranes(work); !ok || !slices.Equal(got, want) {
		t.Errorf("MoreCranes of %v = %v, %v, want %v", work, got, ok, want)
	}
}

// wantNotWorked wants zero values for invalid work or an invalid number of cranes, whatever the
// division.
func wantNotWorked(t *testing.T, work []int, cranes int) {
	t.Helper()
	label := fmt.Sprintf("%.99s, %d", fmt.Sprint(work), cranes)
	if division, n, ok := impl.BestDivision(work, cranes); ok || n != 0 || len(division) != 0 {
		t.Errorf("BestDivision of %s = %v, %d, %v", label, division, n, ok)
	}
	if n, ok := impl.DivisionBound(work, cranes); ok || n != 0 {
		t.Errorf("DivisionBound of %s = %d, %v", label, n, ok)
	}
	for length := range 5 {
		for _, first := range []int{-1, 0, 1, len(work), len(work) + 1} {
			wantNoDivisionOf(t, work, cranes, equalMinutes(length, first))
		}
	}
	wantNoDivisionOf(t, work, cranes, nil)
}

// wantNotMoved wants zero values for an invalid list.
func wantNotMoved(t *testing.T, name string, list []impl.CraneMove) {
	t.Helper()
	if i, k, ok := impl.FirstClash(list); ok || i != 0 || k != 0 {
		t.Errorf("%s: FirstClash of %.99s = %d, %d, %v", name, fmt.Sprint(list), i, k, ok)
	}
	for crane := -1; crane <= 3; crane++ {
		wantNoTimes(t, list, crane)
	}
}

// wantDivisions compares what the functions say of all divisions with the oracles, and returns
// how many of them are best.
func wantDivisions(t *testing.T, work []int, cranes int) int {
	t.Helper()
	for _, division := range bayDivisions(len(work), cranes) {
		wantCraneLoads(t, work, cranes, division, loadsByBays(work, cranes, division)...)
		wantSchedule(t, work, cranes, division, scheduleByBays(work, cranes, division))
	}
	wantDivisionBound(t, work, cranes, boundByCounting(work, cranes))
	division, greatest, count := bestOfBayDivisions(work, cranes)
	wantBestLoad(t, work, cranes, greatest, division...)
	return count
}

// wantWorked compares what the functions say of work with the oracles.
func wantWorked(t *testing.T, work []int) {
	t.Helper()
	var loads []int
	for cranes := 1; cranes <= 3; cranes++ {
		wantDivisions(t, work, cranes)
		_, greatest, _ := bestOfBayDivisions(work, cranes)
		loads = append(loads, greatest)
	}
	wantMoreCranes(t, work, loads...)
}

// wantMoved compares what the functions say of moves with the oracles.
func wantMoved(t *testing.T, list []impl.CraneMove) {
	t.Helper()
	if clashes := clashesByPairs(list); len(clashes) > 0 {
		wantClash(t, list, clashes[0][0], clashes[0][1])
	} else {
		wantNoClash(t, list)
	}
	for crane := range 3 {
		sum, last := timesByMinute(list, crane)
		wantTimes(t, list, crane, sum, last)
	}
}

func TestLimitsOfCranes(t *testing.T) {
	if impl.MaxShipBays != 10 || impl.MaxCranes != 3 || impl.MaxWork != 300 {
		t.Errorf("the limits are %d, %d and %d", impl.MaxShipBays, impl.MaxCranes, impl.MaxWork)
	}
}

func TestLoadsOf(t *testing.T) {
	work := minutesAt(10, 20, 30, 40)
	wantCraneLoads(t, work, 1, nil, 100)
	wantCraneLoads(t, work, 1, firstBays(), 100)
	wantCraneLoads(t, work, 2, firstBays(0), 0, 100)
	wantCraneLoads(t, work, 2, firstBays(1), 10, 90)
	wantCraneLoads(t, work, 2, firstBays(3), 60, 40)
	wantCraneLoads(t, work, 2, firstBays(4), 100, 0)
	wantCraneLoads(t, work, 3, firstBays(1, 3), 10, 50, 40)
	wantCraneLoads(t, work, 3, firstBays(2, 3), 30, 30, 40)
	// Cranes at the same first bay: only the last one of them has bays.
	wantCraneLoads(t, work, 3, firstBays(0, 0), 0, 0, 100)
	wantCraneLoads(t, work, 3, firstBays(2, 2), 30, 0, 70)
	wantCraneLoads(t, work, 3, firstBays(0, 3), 0, 60, 40)
	wantCraneLoads(t, work, 3, firstBays(0, 4), 0, 100, 0)
	wantCraneLoads(t, work, 3, firstBays(3, 4), 60, 40, 0)
	wantCraneLoads(t, work, 3, firstBays(4, 4), 100, 0, 0)
	// One bay and ten, without work and with as much as there may be.
	wantCraneLoads(t, minutesAt(0), 1, nil, 0)
	wantCraneLoads(t, minutesAt(7), 3, firstBays(0, 1), 0, 7, 0)
	wantCraneLoads(t, equalMinutes(10, 300), 1, nil, 3000)
	wantCraneLoads(t, equalMinutes(10, 300), 3, firstBays(4, 7), 1200, 900, 900)
	wantCraneLoads(t, equalMinutes(10, 300), 3, firstBays(10, 10), 3000, 0, 0)
	wantCraneLoads(t, equalMinutes(10, 0), 3, firstBays(4, 7), 0, 0, 0)
}

func TestWorkOfAllLengths(t *testing.T) {
	for bays := range 30 {
		for _, minutes := range []int{0, 1, 13, 300} {
			work := equalMinutes(bays, minutes)
			if bays >= 1 && bays <= 10 {
				wantWorked(t, work)
				continue
			}
			for cranes := 1; cranes <= 3; cranes++ {
				wantNotWorked(t, work, cranes)
			}
			if got, ok := impl.MoreCranes(work); ok || len(got) != 0 {
				t.Errorf("MoreCranes of %v = %v, %v", work, got, ok)
			}
		}
	}
}

// Every number of minutes in and around its range, at every bay.
func TestWorkWithEveryNumberAtEveryBay(t *testing.T) {
	numbers := append(outsideOf(0, 300), 0, 1, 2, 150, 298, 299, 300)
	valid, invalid := 0, 0
	for _, n := range numbers {
		for bay := range 10 {
			for _, other := range []int{0, 9} {
				work := equalMinutes(10, other)
				work[bay] = n
				if isWorkByRule(work) {
					valid++
					wantWorked(t, work)
					continue
				}
				invalid++
				wantNotWorked(t, work, 3)
				if got, ok := impl.MoreCranes(work); ok || len(got) != 0 {
					t.Errorf("MoreCranes of %v = %v, %v", work, got, ok)
				}
			}
		}
	}
	if valid != 2*10*7 || invalid != 2*10*13 {
		t.Errorf("%d times the work is valid, %d times it is not", valid, invalid)
	}
}

func TestInvalidWorkYieldsNothing(t *testing.T) {
	for name, work := range badWork() {
		if isWorkByRule(work) {
			t.Errorf("%s: %.99s is valid", name, fmt.Sprint(work))
		}
		for cranes := -1; cranes <= 4; cranes++ {
			wantNotWorked(t, work, cranes)
		}
		if got, ok := impl.MoreCranes(work); ok || len(got) != 0 {
			t.Errorf("%s: MoreCranes = %v, %v", name, got, ok)
		}
	}
}

func TestNumbersOfCranesOutOfRange(t *testing.T) {
	for _, cranes := range append(outsideOf(1, 3), 5, 10) {
		for _, work := range [][]int{{0}, {7}, {10, 20, 30, 40}, equalMinutes(10, 0), equalMinutes(10, 300)} {
			wantNotWorked(t, work, cranes)
			if cranes == 4 {
				wantNoDivisionOf(t, work, cranes, firstBays(0, 1, 1))
			}
		}
	}
}

func TestMoreCranesThanBays(t *testing.T) {
	for minutes := range 301 {
		wantBestLoad(t, minutesAt(minutes), 1, minutes)
		wantBestLoad(t, minutesAt(minutes), 2, minutes, 0)
		wantBestLoad(t, minutesAt(minutes), 3, minutes, 0, 0)
		wantDivisionBound(t, minutesAt(minutes), 3, minutes)
		wantMoreCranes(t, minutesAt(minutes), minutes, minutes, minutes)
	}
	wantBestLoad(t, minutesAt(4, 6), 3, 6, 0, 1)
	wantBestLoad(t, minutesAt(6, 4), 3, 6, 0, 1)
	wantBestLoad(t, minutesAt(0, 4), 3, 4, 0, 0)
	wantBestLoad(t, minutesAt(4, 0), 3, 4, 0, 0)
	wantSchedule(t, minutesAt(4), 3, firstBays(0, 0), moves(2, 0, 0, 4))
	wantSchedule(t, minutesAt(4), 3, firstBays(0, 1), moves(1, 0, 0, 4))
	wantSchedule(t, minutesAt(4), 3, firstBays(1, 1), moves(0, 0, 0, 4))
}

func TestInvalidDivisionsYieldNothing(t *testing.T) {
	work := minutesAt(10, 20, 30, 40)
	wantNoDivisionOf(t, work, 3, firstBays(3, 1))
	wantNoDivisionOf(t, work, 3, firstBays(1, 0))
	wantNoDivisionOf(t, work, 3, firstBays(4, 3))
	wantNoDivisionOf(t, work, 3, firstBays(5, 4))
	wantNoDivisionOf(t, work, 3, firstBays(0, -1))
	wantNoDivisionOf(t, work, 2, firstBays(-1))
	wantNoDivisionOf(t, work, 2, firstBays(5))
	wantNoDivisionOf(t, work, 1, firstBays(0))
	wantNoDivisionOf(t, work, 2, nil)
	wantNoDivisionOf(t, work, 2, firstBays(1, 2))
	wantNoDivisionOf(t, work, 3, firstBays(1))
	wantNoDivisionOf(t, work, 3, firstBays(1, 2, 3))
	for bays := 1; bays <= 10; bays++ {
		for _, work := range [][]int{equalMinutes(bays, 0), equalMinutes(bays, 5)} {
			for cranes := 1; cranes <= 3; cranes++ {
				for _, division := range noDivisions(bays, cranes) {
					if isDivisionByRule(work, cranes, division) {
						t.Errorf("%v is a division", division)
					}
					wantNoDivisionOf(t, work, cranes, division)
				}
				wantNoDivisionOf(t, work, cranes, equalMinutes(1<<16, 1))
			}
		}
	}
}

// All lists of first bays in and around their range.
func TestDivisionsAtTheirLimits(t *testing.T) {
	valid, invalid := 0, 0
	for bays := 1; bays <= 10; bays++ {
		work := equalMinutes(bays, 7)
		for cranes := 1; cranes <= 3; cranes++ {
			for _, list := range append(append(listsOf(0, 1), listsOf(1, bays+3)...), listsOf(2, bays+3)...) {
				for i := range list {
					list[i]--
				}
				if isDivisionByRule(work, cranes, list) {
					valid++
					wantCraneLoads(t, work, cranes, list, loadsByBays(work, cranes, list)...)
					wantSchedule(t, work, cranes, list, scheduleByBays(work, cranes, list))
				} else {
					invalid++
					wantNoDivisionOf(t, work, cranes, list)
				}
			}
		}
	}
	if valid != 10+65+285 || invalid < 2000 {
		t.Errorf("%d lists are divisions and %d are not", valid, invalid)
	}
}

func TestBestDivision(t *testing.T) {
	work := minutesAt(10, 20, 30, 40)
	wantBestLoad(t, work, 1, 100)
	wantBestLoad(t, work, 2, 60, 3)
	wantBestLoad(t, work, 3, 40, 2, 3)
	wantBestLoad(t, minutesAt(40, 30, 20, 10), 2, 60, 1)
	wantBestLoad(t, minutesAt(40, 30, 20, 10), 3, 40, 1, 2)
	wantBestLoad(t, minutesAt(5, 5), 2, 5, 1)
	wantBestLoad(t, minutesAt(1, 2, 3), 3, 3, 0, 2)
	wantBestLoad(t, minutesAt(1, 1, 9), 2, 9, 2)
	wantBestLoad(t, minutesAt(9, 1, 1), 2, 9, 1)
	wantBestLoad(t, minutesAt(1, 9, 1), 3, 9, 1, 2)
	wantBestLoad(t, minutesAt(8, 1, 1, 1, 1, 8), 3, 8, 1, 5)
	wantBestLoad(t, equalMinutes(9, 4), 3, 12, 3, 6)
	wantBestLoad(t, equalMinutes(10, 300), 1, 3000)
	wantBestLoad(t, equalMinutes(10, 300), 2, 1500, 5)
	// Sums of other numbers of bays than a share of them.
	wantBestLoad(t, minutesAt(1, 1, 1, 1, 1, 1, 1, 1, 1, 300), 2, 300, 9)
	wantBestLoad(t, minutesAt(300, 1, 1, 1, 1, 1, 1, 1, 1, 1), 2, 300, 1)
	wantBestLoad(t, minutesAt(30, 70, 10, 60, 20, 80, 10, 20), 3, 110, 2, 5)
}

// The lexicographically smallest division shows, in which cranes may have no bay.
func TestBestDivisionOfSeveral(t *testing.T) {
	wantBestLoad(t, minutesAt(3, 3, 3), 2, 6, 1)
	wantBestLoad(t, minutesAt(5, 5), 3, 5, 0, 1)
	wantBestLoad(t, minutesAt(9, 1, 1), 3, 9, 0, 1)
	wantBestLoad(t, minutesAt(1, 1, 9), 3, 9, 0, 2)
	wantBestLoad(t, minutesAt(1, 9, 1), 2, 10, 1)
	wantBestLoad(t, minutesAt(9, 1, 9), 2, 10, 1)
	wantBestLoad(t, equalMinutes(4, 4), 3, 8, 0, 2)
	wantBestLoad(t, equalMinutes(10, 300), 3, 1200, 2, 6)
	wantBestLoad(t, equalMinutes(5, 7), 3, 14, 1, 3)
	wantBestLoad(t, minutesAt(10, 9, 9), 2, 18, 1)
	wantBestLoad(t, minutesAt(9, 9, 10), 2, 18, 2)
	// Bays without work could go to either side.
	wantBestLoad(t, minutesAt(9, 0, 0, 1), 2, 9, 1)
	wantBestLoad(t, minutesAt(1, 0, 0, 9), 2, 9, 1)
	wantBestLoad(t, minutesAt(5, 0, 5), 2, 5, 1)
	wantBestLoad(t, minutesAt(5, 0, 0, 5, 0, 0, 5), 3, 5, 1, 4)
	// Numbers are compared, not texts: bay 2 comes before bay 10.
	wantBestLoad(t, minutesAt(0, 3, 0, 0, 0, 0, 0, 0, 0, 0), 3, 3, 0, 0)
	wantBestLoad(t, minutesAt(0, 3, 0, 0, 0, 0, 0, 0, 0, 1), 2, 3, 2)
	wantBestLoad(t, minutesAt(0, 0, 0, 0, 0, 0, 0, 0, 0, 5), 2, 5, 0)
}

func TestBaysWithoutWork(t *testing.T) {
	// At the left, in the middle, at the right.
	left, middle, right := minutesAt(0, 0, 4, 5), minutesAt(4, 0, 0, 5), minutesAt(4, 5, 0, 0)
	wantBestLoad(t, left, 2, 5, 3)
	wantBestLoad(t, middle, 2, 5, 1)
	wantBestLoad(t, right, 2, 5, 1)
	wantBestLoad(t, left, 3, 5, 0, 3)
	wantBestLoad(t, middle, 3, 5, 0, 1)
	wantBestLoad(t, right, 3, 5, 0, 1)
	for _, work := range [][]int{left, middle, right} {
		wantDivisionBound(t, work, 1, 9)
		wantDivisionBound(t, work, 2, 5)
		wantMoreCranes(t, work, 9, 5, 5)
	}
	wantSchedule(t, left, 1, nil, moves(0, 2, 0, 4, 0, 3, 4, 9))
	wantSchedule(t, middle, 1, nil, moves(0, 0, 0, 4, 0, 3, 4, 9))
	wantSchedule(t, right, 1, nil, moves(0, 0, 0, 4, 0, 1, 4, 9))
	wantSchedule(t, left, 2, firstBays(2), moves(1, 2, 0, 4, 1, 3, 4, 9))
	wantSchedule(t, middle, 2, firstBays(1), moves(0, 0, 0, 4, 1, 3, 0, 5))
	wantSchedule(t, middle, 3, firstBays(1, 3), moves(0, 0, 0, 4, 2, 3, 0, 5))
	wantSchedule(t, right, 2, firstBays(2), moves(0, 0, 0, 4, 0, 1, 4, 9))
	// A ship without any work.
	for bays := 1; bays <= 10; bays++ {
		none := equalMinutes(bays, 0)
		wantBestLoad(t, none, 1, 0)
		wantBestLoad(t, none, 2, 0, 0)
		wantBestLoad(t, none, 3, 0, 0, 0)
		wantMoreCranes(t, none, 0, 0, 0)
		for cranes := 1; cranes <= 3; cranes++ {
			wantDivisionBound(t, none, cranes, 0)
			for _, division := range bayDivisions(bays, cranes) {
				wantCraneLoads(t, none, cranes, division, equalMinutes(cranes, 0)...)
				wantSchedule(t, none, cranes, division, nil)
			}
		}
	}
}

func TestDivisionBound(t *testing.T) {
	work := minutesAt(10, 20, 30, 40)
	wantDivisionBound(t, work, 1, 100)
	// Whole shares, shares that are rounded up, and the greatest work at a bay.
	wantDivisionBound(t, work, 2, 50)
	wantDivisionBound(t, work, 3, 40)
	wantDivisionBound(t, minutesAt(10, 20, 30, 39), 2, 50)
	wantDivisionBound(t, minutesAt(10, 20, 30, 41), 2, 51)
	wantDivisionBound(t, minutesAt(4, 4, 4), 3, 4)
	wantDivisionBound(t, minutesAt(2, 2, 2, 2), 3, 3)
	wantDivisionBound(t, minutesAt(2, 2, 2, 1), 3, 3)
	wantDivisionBound(t, minutesAt(2, 2, 1, 1), 3, 2)
	wantDivisionBound(t, minutesAt(1, 1, 1, 1), 3, 2)
	wantDivisionBound(t, minutesAt(7, 0, 0), 3, 7)
	wantDivisionBound(t, minutesAt(0, 0, 7), 2, 7)
	wantDivisionBound(t, minutesAt(3, 7, 3), 2, 7)
	wantDivisionBound(t, minutesAt(3, 7, 4), 2, 7)
	wantDivisionBound(t, minutesAt(4, 7, 4), 2, 8)
	// The greatest work is a minute less than the share, as much, and a minute more.
	wantDivisionBound(t, minutesAt(5, 5, 2), 2, 6)
	wantDivisionBound(t, minutesAt(6, 4, 2), 2, 6)
	wantDivisionBound(t, minutesAt(7, 3, 2), 2, 7)
	wantDivisionBound(t, equalMinutes(10, 300), 1, 3000)
	wantDivisionBound(t, equalMinutes(10, 300), 2, 1500)
	wantDivisionBound(t, equalMinutes(10, 300), 3, 1000)
	wantDivisionBound(t, equalMinutes(10, 299), 3, 997)
	wantDivisionBound(t, minutesAt(1), 3, 1)
	wantDivisionBound(t, minutesAt(300), 3, 300)
}

func TestBoundThatNoDivisionReaches(t *testing.T) {
	for _, c := range []struct {
		work            []int
		cranes          int
		bound, greatest int
	}{
		{minutesAt(3, 3, 3), 2, 5, 6}, {minutesAt(4, 4, 4, 4), 3, 6, 8}, {minutesAt(9, 1, 9), 2, 10, 10}, {minutesAt(10, 20, 30, 40), 2, 50, 60},
		{minutesAt(1, 9, 1), 2, 9, 10}, {equalMinutes(10, 300), 3, 1000, 1200}, {minutesAt(2, 5, 4, 1), 2, 6, 7},
		{minutesAt(300, 0, 299, 300), 2, 450, 599},
	} {
		wantDivisionBound(t, c.work, c.cranes, c.bound)
		if _, greatest, ok := impl.BestDivision(c.work, c.cranes); !ok || greatest != c.greatest {
			t.Errorf("BestDivision of %v, %d has the greatest load %d, %v, want %d", c.work, c.cranes, greatest, ok, c.greatest)
		}
	}
}

func TestScheduleDivision(t *testing.T) {
	work := minutesAt(10, 20, 30, 40)
	wantSchedule(t, work, 1, nil, moves(0, 0, 0, 10, 0, 1, 10, 30, 0, 2, 30, 60, 0, 3, 60, 100))
	wantSchedule(t, work, 2, firstBays(3), moves(0, 0, 0, 10, 0, 1, 10, 30, 0, 2, 30, 60, 1, 3, 0, 40))
	wantSchedule(t, work, 3, firstBays(1, 3), moves(0, 0, 0, 10, 1, 1, 0, 20, 1, 2, 20, 50, 2, 3, 0, 40))
	wantSchedule(t, minutesAt(7), 1, nil, moves(0, 0, 0, 7))
	// Cranes that have no bay.
	wantSchedule(t, work, 2, firstBays(0), moves(1, 0, 0, 10, 1, 1, 10, 30, 1, 2, 30, 60, 1, 3, 60, 100))
	wantSchedule(t, work, 2, firstBays(4), moves(0, 0, 0, 10, 0, 1, 10, 30, 0, 2, 30, 60, 0, 3, 60, 100))
	wantSchedule(t, work, 3, firstBays(2, 2), moves(0, 0, 0, 10, 0, 1, 10, 30, 2, 2, 0, 30, 2, 3, 30, 70))
	wantSchedule(t, work, 3, firstBays(0, 0), moves(2, 0, 0, 10, 2, 1, 10, 30, 2, 2, 30, 60, 2, 3, 60, 100))
	// Cranes that have only bays without work.
	wantSchedule(t, minutesAt(0, 0, 5, 6, 0), 3, firstBays(2, 4), moves(1, 2, 0, 5, 1, 3, 5, 11))
	wantSchedule(t, minutesAt(5, 0, 0, 6), 3, firstBays(1, 3), moves(0, 0, 0, 5, 2, 3, 0, 6))
	wantSchedule(t, minutesAt(0, 5, 0, 6, 0), 1, nil, moves(0, 1, 0, 5, 0, 3, 5, 11))
	// As much work as there may be.
	full, ok := impl.ScheduleDivision(equalMinutes(10, 300), 1, nil)
	if !ok || len(full) != 10 || full[9] != (impl.CraneMove{Crane: 0, Bay: 9, From: 2700, To: 3000}) {
		t.Errorf("ScheduleDivision of all work = %v, %v", full, ok)
	}
}

func TestFirstClash(t *testing.T) {
	wantNoClash(t, nil)
	wantNoClash(t, []impl.CraneMove{})
	wantNoClash(t, moves(0, 5, 0, 10))
	wantNoClash(t, moves(2, 0, 9999, 10000))
	// Cranes beside each other, in both orders of the list.
	wantNoClash(t, moves(0, 5, 0, 10, 1, 6, 0, 10))
	wantNoClash(t, moves(1, 6, 0, 10, 0, 5, 0, 10))
	wantNoClash(t, moves(2, 9, 0, 10, 1, 8, 0, 10, 0, 0, 0, 10))
	// The same crane at two bays, and twice at one.
	for crane := range 3 {
		wantClash(t, moves(crane, 5, 0, 10, crane, 6, 5, 15), 0, 1)
		wantClash(t, moves(crane, 6, 0, 10, crane, 5, 5, 15), 0, 1)
		wantClash(t, moves(crane, 5, 0, 10, crane, 5, 5, 15), 0, 1)
		wantClash(t, moves(crane, 5, 0, 10, crane, 5, 0, 10), 0, 1)
		wantNoClash(t, moves(crane, 5, 0, 10, crane, 6, 10, 15))
		wantNoClash(t, moves(crane, 5, 0, 10, crane, 5, 10, 15))
	}
	// Two cranes at the same bay, and cranes that have passed each other, in both orders of the list.
	for _, pair := range [][]int{{0, 1}, {0, 2}, {1, 2}} {
		for bay := range 10 {
			for other := range 10 {
				a, b := moves(pair[0], bay, 3, 10), moves(pair[1], other, 5, 7)
				if bay < other {
					wantNoClash(t, append(a, b...))
					wantNoClash(t, append(b, a...))
				} else {
					wantClash(t, append(a, b...), 0, 1)
					wantClash(t, append(b, a...), 0, 1)
				}
			}
		}
	}
	wantClash(t, moves(0, 5, 0, 10, 1, 6, 0, 5, 1, 4, 9, 12), 0, 2)
	wantNoClash(t, moves(0, 5, 0, 10, 1, 6, 0, 5, 1, 4, 10, 12))
}

// Moves that touch, that share a single minute, that contain each other and that are far apart.
func TestTimesOfClashes(t *testing.T) {
	for _, c := range []struct {
		from, to int
		clash    bool
	}{
		{0, 10, false}, {0, 19, false}, {0, 20, false}, {19, 20, false}, {0, 21, true}, {20, 21, true}, {19, 21, true}, {25, 26, true},
		{29, 30, true}, {29, 31, true}, {30, 31, false}, {30, 10000, false}, {31, 40, false}, {9999, 10000, false}, {29, 10000, true},
		{20, 30, true}, {21, 29, true}, {20, 29, true}, {21, 30, true}, {19, 30, true}, {20, 31, true}, {19, 31, true}, {0, 10000, true},
	} {
		for _, other := range [][]int{{1, 4}, {1, 8}, {0, 4}, {0, 0}, {2, 4}, {2, 9}} {
			list := append(moves(1, 4, 20, 30), moves(other[0], other[1], c.from, c.to)...)
			turned := []impl.CraneMove{list[1], list[0]}
			if c.clash && (other[0] == 1 || other[1] == 4) {
				wantClash(t, list, 0, 1)
				wantClash(t, turned, 0, 1)
			} else {
				wantNoClash(t, list)
				wantNoClash(t, turned)
			}
		}
	}
}

// The lexicographically first pair shows, not the one that clashes first.
func TestFirstClashOfSeveral(t *testing.T) {
	wantClash(t, moves(0, 5, 0, 10, 1, 6, 0, 10, 1, 5, 0, 10, 0, 6, 0, 10), 0, 2)
	wantClash(t, moves(0, 5, 50, 60, 1, 6, 0, 10, 1, 6, 0, 10, 1, 5, 50, 60), 0, 3)
	wantClash(t, moves(0, 5, 50, 60, 1, 6, 0, 10, 1, 6, 0, 10, 1, 5, 60, 70), 1, 2)
	wantClash(t, moves(2, 9, 0, 5, 0, 1, 0, 5, 1, 3, 0, 5, 1, 4, 4, 6, 0, 3, 0, 5), 1, 4)
	wantClash(t, moves(2, 9, 0, 5, 0, 1, 0, 4, 1, 3, 0, 5, 1, 4, 4, 6, 0, 3, 4, 5), 2, 3)
	wantClash(t, slices.Repeat(moves(1, 4, 20, 50), 30), 0, 1)
	// Only the last ones of 30.
	last := append(turns(28), moves(1, 4, 20, 50, 2, 4, 49, 51)...)
	wantClash(t, last, 28, 29)
	wantClash(t, append(turns(29), moves(0, 0, 28, 29)...), 28, 29)
	wantClash(t, append(turns(29), moves(0, 0, 0, 1)...), 0, 29)
	wantNoClash(t, turns(30))
	wantNotMoved(t, "31", turns(31))
	// All pairs of a few moves that clash all with each other.
	for count := 2; count <= 30; count++ {
		list := turns(count)
		for i := range count {
			for k := i + 1; k < count; k++ {
				other := slices.Clone(list)
				other[k] = impl.CraneMove{Crane: 2, From: i, To: i + 1}
				wantClash(t, other, i, k)
			}
		}
	}
}

func TestMovesAtTheirLimits(t *testing.T) {
	valid, invalid := 0, 0
	for _, crane := range []int{-1, 0, 1, 2, 3} {
		for _, bay := range []int{-1, 0, 1, 5, 8, 9, 10} {
			for _, from := range []int{-1, 0, 1, 77, 9998, 9999, 10000, 10001} {
				for _, to := range []int{-1, 0, 1, 2, 77, 78, 9999, 10000, 10001} {
					list := moves(crane, bay, from, to)
					if !isMoveByRule(list[0]) {
						invalid++
						wantNotMoved(t, "one number", list)
						wantNotMoved(t, "the second one", append(moves(1, 4, 20, 50), list...))
						continue
					}
					valid++
					wantMoved(t, list)
					wantMoved(t, append(moves(1, 4, 20, 50), list...))
				}
			}
		}
	}
	if valid != 3*5*(6+5+3+2+1) || valid+invalid != 5*7*8*9 {
		t.Errorf("%d moves are valid and %d are not", valid, invalid)
	}
}

func TestInvalidMovesYieldNothing(t *testing.T) {
	for name, x := range badMoves() {
		if isMoveByRule(x) {
			t.Errorf("%s: %v is valid", name, x)
		}
	}
	for name, list := range badMoveLists() {
		wantNotMoved(t, name, list)
	}
	for count := range 40 {
		if list := turns(count); count <= 30 {
			wantMoved(t, list)
			wantTimes(t, list, 0, count, count)
		} else {
			wantNotMoved(t, fmt.Sprint(count), list)
		}
	}
}

func TestCraneTimes(t *testing.T) {
	list := moves(0, 0, 0, 10, 0, 1, 10, 30, 0, 2, 30, 60, 1, 3, 0, 40)
	wantTimes(t, list, 0, 60, 60)
	wantTimes(t, list, 1, 40, 40)
	wantTimes(t, list, 2, 0, 0)
	for crane := range 3 {
		wantTimes(t, nil, crane, 0, 0)
		wantTimes(t, []impl.CraneMove{}, crane, 0, 0)
		wantTimes(t, moves(crane, 7, 9999, 10000), crane, 1, 10000)
		wantTimes(t, moves(crane, 7, 0, 10000), crane, 10000, 10000)
		wantTimes(t, moves(crane, 7, 0, 1), (crane+1)%3, 0, 0)
	}
	// Breaks do not count, the last move in the list need not end last, and neither need the one that begins last.
	wantTimes(t, moves(1, 4, 20, 50, 1, 5, 70, 80), 1, 40, 80)
	wantTimes(t, moves(1, 5, 70, 80, 1, 4, 20, 50), 1, 40, 80)
	wantTimes(t, moves(1, 4, 20, 90, 1, 5, 70, 80), 1, 80, 90)
	wantTimes(t, moves(2, 1, 0, 500, 1, 5, 70, 80, 0, 4, 20, 600), 1, 10, 80)
	// Moves that clash count all.
	wantTimes(t, slices.Repeat(moves(1, 4, 20, 50), 30), 1, 900, 50)
	wantTimes(t, slices.Repeat(moves(1, 4, 0, 10000), 30), 1, 300000, 10000)
	for _, crane := range append(outsideOf(0, 2), 5, 9) {
		for _, some := range [][]impl.CraneMove{nil, {}, list, turns(30)} {
			wantNoTimes(t, some, crane)
		}
	}
}

func TestMoreCranes(t *testing.T) {
	wantMoreCranes(t, minutesAt(10, 20, 30, 40), 100, 60, 40)
	wantMoreCranes(t, minutesAt(5), 5, 5, 5)
	wantMoreCranes(t, minutesAt(0), 0, 0, 0)
	wantMoreCranes(t, minutesAt(5, 5), 10, 5, 5)
	wantMoreCranes(t, minutesAt(3, 3, 3), 9, 6, 3)
	wantMoreCranes(t, minutesAt(1, 9, 1), 11, 10, 9)
	wantMoreCranes(t, equalMinutes(10, 300), 3000, 1500, 1200)
	wantMoreCranes(t, append(equalMinutes(9, 0), 300), 300, 300, 300)
}

// The division is compared with all others, and its load with the bound.
func TestNoDivisionHasASmallerGreatestLoad(t *testing.T) {
	ties, single, reached, missed, empty := 0, 0, 0, 0, 0
	for _, work := range append(smallWorks(5, 0, 1, 2, 5), workSamples(521, 300)...) {
		for cranes := 1; cranes <= 3; cranes++ {
			if wantDivisions(t, work, cranes) > 1 {
				ties++
			} else {
				single++
			}
			best, greatest, ok := impl.BestDivision(work, cranes)
			bound, fine := impl.DivisionBound(work, cranes)
			if loads, valid := impl.LoadsOf(work, cranes, best); !ok || !fine || !valid || slices.Max(loads) != greatest {
				t.Fatalf("BestDivision of %v, %d = %v, %d, %v with the loads %v and the bound %d, %v", work, cranes, best, greatest, ok, loads, bound, fine)
			}
			for _, division := range bayDivisions(len(work), cranes) {
				loads, ok := impl.LoadsOf(work, cranes, division)
				if !ok || slices.Max(loads) < max(greatest, bound) {
					t.Fatalf("BestDivision of %v, %d = %v, %d, the bound is %d, but %v has %v, %v", work, cranes, best, greatest, bound, division, loads, ok)
				}
				if slices.Max(loads) == greatest && slices.Compare(division, best) < 0 {
					t.Fatalf("BestDivision of %v, %d = %v, but %v is as good", work, cranes, best, division)
				}
			}
			if greatest == bound {
				reached++
			} else {
				missed++
			}
			if loads, _ := impl.LoadsOf(work, cranes, best); greatest > 0 && slices.Min(loads) == 0 {
				empty++
			}
		}
	}
	if ties < 500 || single < 500 || empty < 300 {
		t.Errorf("%d times divisions tie, %d times there is one, %d times a crane rests", ties, single, empty)
	}
	if reached < 1000 || missed < 500 {
		t.Errorf("%d times the bound is reached, %d times it is not", reached, missed)
	}
}

// Promise 13, with the answers of the program and with every minute: the schedule of a division
// has no clash, and its loads are the times of its moves.
func TestCranesThatWorkByADivisionNeverMeet(t *testing.T) {
	together, resting := 0, 0
	for i, work := range append(smallWorks(4, 0, 1, 2, 3), workSamples(523, 120)...) {
		for cranes := 1; cranes <= 3; cranes++ {
			for _, division := range bayDivisions(len(work), cranes) {
				list, ok := impl.ScheduleDivision(work, cranes, division)
				if !ok || len(list) != len(slices.DeleteFunc(slices.Clone(work), func(n int) bool { return n == 0 })) {
					t.Fatalf("ScheduleDivision of %v, %d, %v = %v, %v", work, cranes, division, list, ok)
				}
				wantNoClash(t, list)
				loads, _ := impl.LoadsOf(work, cranes, division)
				for crane, load := range append(loads, 0, 0)[:3] {
					wantTimes(t, list, crane, load, load)
				}
				if added(loads) > slices.Max(loads) {
					together++
				} else {
					resting++
				}
				// Every bay gets its work, from the crane that the division gives it.
				for _, x := range list {
					if x.To-x.From != work[x.Bay] || x.Crane != craneAt(x.Bay, division) {
						t.Errorf("ScheduleDivision of %v, %d, %v has the move %v", work, cranes, division, x)
					}
				}
				if i%5 != 0 {
					continue
				}
				for minute := range slices.Max(loads) {
					if !areApart(list, minute) {
						t.Fatalf("ScheduleDivision of %v, %d, %v = %v: cranes meet at the minute %d", work, cranes, division, list, minute)
					}
				}
			}
		}
	}
	if together < 3000 || resting < 1000 {
		t.Errorf("%d times several cranes work, %d times one", together, resting)
	}
}

func TestSchedulesOfBestDivisions(t *testing.T) {
	for _, work := range append(smallWorks(4, 0, 1, 7), workSamples(541, 500)...) {
		greatest, ok := impl.MoreCranes(work)
		if !ok || len(greatest) != 3 {
			t.Fatalf("MoreCranes of %v = %v, %v", work, greatest, ok)
		}
		for cranes := 1; cranes <= 3; cranes++ {
			division, load, fine := impl.BestDivision(work, cranes)
			list, ok := impl.ScheduleDivision(work, cranes, division)
			last := 0
			for crane := range 3 {
				_, end, _ := impl.CraneTimes(list, crane)
				last = max(last, end)
			}
			if !fine || !ok || load != greatest[cranes-1] || last != load {
				t.Errorf("%v, %d: BestDivision = %v, %d, %v, the work ends at %d, and MoreCranes = %v", work, cranes, division, load, fine, last, greatest)
			}
			wantNoClash(t, list)
		}
	}
}

// A crane more never makes the greatest load greater, all work is that of one crane, and a ship
// that is turned round has the same greatest loads.
func TestMoreCranesNeverHaveMoreToDo(t *testing.T) {
	falling, equal := 0, 0
	for _, work := range append(smallWorks(5, 0, 1, 2), workSamples(547, 1000)...) {
		greatest, ok := impl.MoreCranes(work)
		if !ok || len(greatest) != 3 || greatest[0] != added(work) {
			t.Fatalf("MoreCranes of %v = %v, %v", work, greatest, ok)
		}
		for i := 1; i < 3; i++ {
			switch {
			case greatest[i] > greatest[i-1]:
				t.Errorf("MoreCranes of %v = %v", work, greatest)
			case greatest[i] == greatest[i-1]:
				equal++
			default:
				falling++
			}
			if greatest[i] < boundByCounting(work, i+1) {
				t.Errorf("MoreCranes of %v = %v", work, greatest)
			}
		}
		turned := slices.Clone(work)
		slices.Reverse(turned)
		wantMoreCranes(t, turned, greatest...)
	}
	if falling < 1000 || equal < 200 {
		t.Errorf("%d times a crane more helps, %d times it does not", falling, equal)
	}
}

func TestMovesOfAllKinds(t *testing.T) {
	none, first, others := 0, 0, 0
	for _, list := range moveSamples(557, 3000) {
		wantMoved(t, list)
		switch clashes := clashesByPairs(list); {
		case len(clashes) == 0:
			none++
		case len(clashes) == 1:
			first++
		default:
			others++
		}
	}
	if none < 500 || first < 200 || others < 500 {
		t.Errorf("%d lists have no clash, %d have one and %d have several", none, first, others)
	}
}

// Two small moves of all kinds, and three at fewer places.
func TestAllSmallMoves(t *testing.T) {
	var all []impl.CraneMove
	for _, n := range listsOf(4, 4) {
		if x := moves(n...)[0]; isMoveByRule(x) {
			all = append(all, x)
		}
	}
	if len(all) != 3*4*6 {
		t.Fatalf("there are %d moves", len(all))
	}
	for _, a := range all {
		for _, b := range all {
			wantMoved(t, []impl.CraneMove{a, b})
			if a.Bay > 1 || b.Bay > 1 {
				continue
			}
			for _, c := range all {
				if c.Bay < 2 && c.To-c.From == 1 {
					wantMoved(t, []impl.CraneMove{a, b, c})
				}
			}
		}
	}
}

// A list has no clash exactly if its cranes are apart at every minute, in whatever order its
// moves are.
func TestNoClashMeansApartAtEveryMinute(t *testing.T) {
	apart, meeting := 0, 0
	for _, list := range moveSamples(563, 1500) {
		last := 0
		for _, x := range list {
			last = max(last, x.To)
		}
		if last > 1000 {
			continue
		}
		i, k, ok := impl.FirstClash(list)
		clash := false
		for minute := 0; minute < last && !clash; minute++ {
			clash = !areApart(list, minute)
		}
		if !ok || clash != (i >= 0) || clash != (k > i) {
			t.Errorf("FirstClash of %v = %d, %d, %v", list, i, k, ok)
		}
		turned := slices.Clone(list)
		slices.Reverse(turned)
		if i, _, _ := impl.FirstClash(turned); clash != (i >= 0) {
			t.Errorf("FirstClash of %v = %d, the other way round", turned, i)
		}
		if clash {
			meeting++
		} else {
			apart++
		}
	}
	if apart < 200 || meeting < 200 {
		t.Errorf("%d lists have no clash and %d have one", apart, meeting)
	}
}

// workAnswers has what every function of chapter 13 says of work and divisions of it.
func workAnswers(work []int, divisions [][]int) []string {
	var all []string
	add := func(parts ...any) { all = append(all, fmt.Sprintln(parts...)) }
	for cranes := range 5 {
		best, greatest, ok := impl.BestDivision(work, cranes)
		add("best", best, greatest, ok)
		bound, ok := impl.DivisionBound(work, cranes)
		add("bound", bound, ok)
		for _, division := range divisions {
			loads, ok := impl.LoadsOf(work, cranes, division)
			add("loads", loads, ok)
			list, ok := impl.ScheduleDivision(work, cranes, division)
			add("schedule", list, ok)
		}
	}
	more, ok := impl.MoreCranes(work)
	add("more", more, ok)
	return all
}

// moveAnswers has what every function of chapter 13 says of moves.
func moveAnswers(list []impl.CraneMove) []string {
	i, k, ok := impl.FirstClash(list)
	all := []string{fmt.Sprintln("clash", i, k, ok)}
	for crane := -1; crane <= 3; crane++ {
		sum, last, ok := impl.CraneTimes(list, crane)
		all = append(all, fmt.Sprintln("times", sum, last, ok))
	}
	return all
}

// divisionsToAsk has divisions for every number of cranes, and other lists.
func divisionsToAsk(bays int) [][]int {
	all := [][]int{nil, {}, {-1}, {bays + 1}, {1, 0}, {0, bays + 1}, {1, 1, 1}}
	for _, list := range [][]int{{0}, {bays / 2}, {bays}, {0, 0}, {0, bays}, {bays / 3, bays / 2}, {bays, bays}} {
		all = append(all, list)
	}
	return all
}

// Arguments in arrays with something behind them are answered like separate ones, and none of
// them is changed.
func TestWorkIsLeftAlone(t *testing.T) {
	for _, work := range append(smallWorks(3, 0, 1, 9), workSamples(569, 200)...) {
		divisions := divisionsToAsk(len(work))
		want := workAnswers(work, divisions)
		for _, filler := range []int{-7, 0, 1, 300} {
			part, array := withRoom(work, filler)
			var parts, arrays [][]int
			for _, division := range divisions {
				part, array := withRoom(division, filler)
				parts, arrays = append(parts, part), append(arrays, array)
			}
			if got := workAnswers(part, parts); !slices.Equal(got, want) {
				t.Errorf("the answers about %v with %d behind are others", work, filler)
			}
			if !slices.Equal(array, append(slices.Clone(work), filler, filler, filler)) {
				t.Errorf("the work %v is changed to %v", work, array)
			}
			for i, division := range divisions {
				if !slices.Equal(arrays[i], append(slices.Clone(division), filler, filler, filler)) {
					t.Errorf("the division %v is changed to %v", division, arrays[i])
				}
			}
		}
	}
	for name, work := range badWork() {
		before := slices.Clone(work)
		workAnswers(work, divisionsToAsk(3))
		if !slices.Equal(work, before) {
			t.Errorf("%s: the work is changed", name)
		}
	}
}

func TestMovesAreLeftAlone(t *testing.T) {
	for _, list := range moveSamples(571, 500) {
		want := moveAnswers(list)
		for _, filler := range append(moves(0, 0, 0, 10000, 2, 9, 0, 1, -1, 4, 7, 3), impl.CraneMove{}) {
			part, array := withRoom(list, filler)
			if got := moveAnswers(part); !slices.Equal(got, want) {
				t.Errorf("the answers about %v with %v behind are others", list, filler)
			}
			if !slices.Equal(array, append(slices.Clone(list), filler, filler, filler)) {
				t.Errorf("the moves %v are changed to %v", list, array)
			}
		}
	}
	for name, list := range badMoveLists() {
		before := slices.Clone(list)
		moveAnswers(list)
		if !slices.Equal(list, before) {
			t.Errorf("%s: the moves are changed", name)
		}
	}
}

// newCraneLists calls every function of chapter 13 that returns slices and returns all of them,
// the lists of moves apart.
func newCraneLists(work []int, divisions [][]int) ([][]int, [][]impl.CraneMove) {
	more, _ := impl.MoreCranes(work)
	lists, schedules := [][]int{more}, [][]impl.CraneMove{}
	for cranes := range 5 {
		best, _, _ := impl.BestDivision(work, cranes)
		lists = append(lists, best)
		for _, division := range divisions {
			loads, _ := impl.LoadsOf(work, cranes, division)
			list, _ := impl.ScheduleDivision(work, cranes, division)
			lists, schedules = append(lists, loads), append(schedules, list)
		}
	}
	return lists, schedules
}

func TestResultsAboutWorkAreNew(t *testing.T) {
	for _, sample := range append(smallWorks(3, 0, 1, 9), workSamples(577, 200)...) {
		work, divisions := slices.Clone(sample), divisionsToAsk(len(sample))
		want := workAnswers(work, divisions)
		lists, schedules := newCraneLists(work, divisions)
		again, schedulesAgain := newCraneLists(work, divisions)
		if sharesElement(slices.Concat(lists, again, divisions, [][]int{work})...) {
			t.Fatalf("results for %v share numbers", work)
		}
		if sharesElement(append(schedules, schedulesAgain...)...) {
			t.Fatalf("results for %v share moves", work)
		}
		for _, list := range lists {
			spoil(list)
		}
		for _, list := range schedules {
			spoilAll(list, impl.CraneMove{Crane: -7})
		}
		if got := workAnswers(work, divisions); !slices.Equal(got, want) || !slices.Equal(work, sample) {
			t.Fatalf("the answers about %v are others the second time", sample)
		}
	}
}

func TestResultsAboutWorkStayWhenArgumentsChange(t *testing.T) {
	for _, sample := range append(smallWorks(3, 0, 1, 9), workSamples(587, 200)...) {
		work, divisions := slices.Clone(sample), divisionsToAsk(len(sample))
		lists, schedules := newCraneLists(work, divisions)
		want := fmt.Sprint(lists, schedules)
		spoil(work)
		for _, division := range divisions {
			spoil(division)
		}
		if fmt.Sprint(lists, schedules) != want {
			t.Fatalf("a change of %v changes a result", sample)
		}
	}
}
