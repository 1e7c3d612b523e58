package tests

import (
	"fmt"
	"math"
	"slices"
	"testing"

	"loop.example/g00906/impl"
)

// smallerBelow counts in a stack, as an oracle.
func smallerBelow(stack []int, tier int) int {
	count := 0
	for _, n := range stack[:tier] {
		if n < stack[tier] {
			count++
		}
	}
	return count
}

// badByPairs looks at every pair of numbers in a stack, as an oracle.
func badByPairs(y impl.Yard) []int {
	bad := []int{}
	for n := 1; n <= 99; n++ {
		for _, stack := range y.Stacks {
			if tier := slices.Index(stack, n); tier >= 0 && smallerBelow(stack, tier) > 0 {
				bad = append(bad, n)
			}
		}
	}
	return bad
}

// worstByPairs asks every number in ascending order, as an oracle.
func worstByPairs(y impl.Yard) (int, int) {
	worst, most := 0, 0
	for _, n := range badByPairs(y) {
		for _, stack := range y.Stacks {
			if tier := slices.Index(stack, n); tier >= 0 && smallerBelow(stack, tier) > most {
				worst, most = n, smallerBelow(stack, tier)
			}
		}
	}
	return worst, most
}

// sortedByPairs returns the stacks that go down from below, as an oracle.
func sortedByPairs(y impl.Yard) []int {
	sorted := []int{}
	for i, stack := range y.Stacks {
		upwards := slices.Clone(stack)
		slices.Reverse(upwards)
		if slices.IsSorted(upwards) {
			sorted = append(sorted, i)
		}
	}
	return sorted
}

func earliestBySorting(stack []int) int {
	return slices.Sorted(slices.Values(append([]int{100}, stack...)))[0]
}

// chosenByRule lists the stacks that may be chosen, as an oracle; it returns -1 if all are full.
func chosenByRule(y impl.Yard, n int) int {
	var later, earlier [][2]int
	for i, stack := range y.Stacks {
		earliest := earliestBySorting(stack)
		switch {
		case len(stack) == 4:
		case earliest > n:
			later = append(later, [2]int{earliest, i})
		default:
			earlier = append(earlier, [2]int{-earliest, i})
		}
	}
	for _, list := range [][][2]int{later, earlier} {
		slices.SortFunc(list, func(a [2]int, b [2]int) int { return slices.Compare(a[:], b[:]) })
		if len(list) > 0 {
			return list[0][1]
		}
	}
	return -1
}

// placedByRule puts each arrival on the stack of the rule, as an oracle.
func placedByRule(y impl.Yard, list []int) (impl.Yard, []int, bool) {
	z, placement := copyOfYard(y), []int{}
	for _, n := range list {
		stack := chosenByRule(z, n)
		if stack < 0 {
			return impl.Yard{}, nil, false
		}
		z.Stacks[stack] = append(z.Stacks[stack], n)
		placement = append(placement, stack)
	}
	return z, placement, true
}

// arrivesByRule reports whether a list has arrivals for a yard, as an oracle.
func arrivesByRule(y impl.Yard, list []int) bool {
	all := append(numbersOf(y), list...)
	slices.Sort(all)
	return len(list) <= 5 && len(slices.Compact(slices.Clone(all))) == len(all) &&
		!slices.ContainsFunc(list, func(n int) bool { return n < 1 || n > 99 })
}

// placedByHand puts arrivals on the stacks of a placement, as an oracle.
func placedByHand(y impl.Yard, list []int, placement []int) (impl.Yard, bool) {
	if len(list) != len(placement) || !arrivesByRule(y, list) {
		return impl.Yard{}, false
	}
	z := copyOfYard(y)
	for i, stack := range placement {
		if stack < 0 || stack >= len(z.Stacks) || len(z.Stacks[stack]) == 4 {
			return impl.Yard{}, false
		}
		z.Stacks[stack] = append(z.Stacks[stack], list[i])
	}
	return z, true
}

// listsOf returns all lists of a length of numbers below a limit, in lexicographic order.
func listsOf(length int, limit int) [][]int {
	lists := [][]int{{}}
	for range length {
		var longer [][]int
		for _, list := range lists {
			for n := range limit {
				longer = append(longer, append(slices.Clone(list), n))
			}
		}
		lists = longer
	}
	return lists
}

// bestOfAllPlacements tries every list of stacks, as an oracle. It also returns how many
// placements leave the fewest numbers badly placed, which is 0 if there is none.
func bestOfAllPlacements(y impl.Yard, list []int) ([]int, int, int) {
	var best []int
	fewest, count := 0, 0
	for _, placement := range listsOf(len(list), len(y.Stacks)) {
		z, ok := placedByHand(y, list, placement)
		if !ok {
			continue
		}
		bad := len(badByPairs(z))
		switch {
		case count == 0 || bad < fewest:
			best, fewest, count = placement, bad, 1
		case bad == fewest:
			count++
		}
	}
	return best, fewest, count
}

// arrivingYard is what the functions of chapter 8 are asked about.
type arrivingYard struct {
	yard impl.Yard
	list []int
}

func (a arrivingYard) String() string {
	return fmt.Sprintf("%v arriving at %s", a.list, yardText(a.yard))
}

// mixedArrival has arrivals between the numbers of a yard, for which there may be too little
// room.
func mixedArrival(next func(n int) int, stacks int, count int, arriving int) arrivingYard {
	y, _ := mixedYard(next, stacks, count, 0)
	standing, a := numbersOf(y), arrivingYard{yard: y, list: []int{}}
	for len(a.list) < arriving {
		n := 1 + next(99)
		if !slices.Contains(standing, n) && !slices.Contains(a.list, n) {
			a.list = append(a.list, n)
		}
	}
	return a
}

// arrivalSamples has mixed yards of all sizes, more of them nearly full than empty.
func arrivalSamples(seed int, count int, stacks int, arriving int) []arrivingYard {
	next := dice(seed)
	var all []arrivingYard
	for range count {
		rows := 1 + next(stacks)
		all = append(all, mixedArrival(next, rows, max(next(4*rows+1), next(4*rows+1)), next(arriving+1)))
	}
	return all
}

// spreadYards has all yards of up to 3 stacks with up to 3 of the numbers 10, 20 and 30, and
// some more.
func spreadYards() []impl.Yard {
	all := append(smallYards(), yardsWith(1, 4)...)
	all = append(all, yardsWith(2, 4)...)
	for _, y := range all {
		for _, stack := range y.Stacks {
			for tier := range stack {
				stack[tier] *= 10
			}
		}
	}
	return all
}

func wantBad(t *testing.T, yard string, want ...int) {
	t.Helper()
	if list, ok := impl.BadlyPlaced(yardFrom(yard)); !ok || !slices.Equal(list, want) {
		t.Errorf("BadlyPlaced of %s = %v, %v, want %v", yard, list, ok, want)
	}
}

func wantEarliest(t *testing.T, y impl.Yard, stack int, want int) {
	t.Helper()
	if n, ok := impl.EarliestOf(y, stack); !ok || n != want {
		t.Errorf("EarliestOf stack %d of %s = %d, %v, want %d", stack, yardText(y), n, ok, want)
	}
}

func wantNoEarliest(t *testing.T, y impl.Yard, stack int) {
	t.Helper()
	if n, ok := impl.EarliestOf(y, stack); ok || n != 0 {
		t.Errorf("EarliestOf stack %d of %s = %d, %v", stack, yardText(y), n, ok)
	}
}

func wantChosen(t *testing.T, y impl.Yard, n int, want int) {
	t.Helper()
	if stack, ok := impl.ChooseStack(y, n); !ok || stack != want {
		t.Errorf("ChooseStack for %d in %s = %d, %v, want %d", n, yardText(y), stack, ok, want)
	}
}

func wantNoChosen(t *testing.T, y impl.Yard, n int) {
	t.Helper()
	if stack, ok := impl.ChooseStack(y, n); ok || stack != 0 {
		t.Errorf("ChooseStack for %d in %s = %d, %v", n, yardText(y), stack, ok)
	}
}

func wantPlaced(t *testing.T, y impl.Yard, list []int, want string, stacks ...int) {
	t.Helper()
	z, placement, ok := impl.PlaceAll(y, list)
	if !ok || yardText(z) != want || !slices.Equal(placement, stacks) {
		t.Errorf("PlaceAll of %v in %s = %s, %v, %v, want %s, %v", list, yardText(y), yardText(z), placement, ok, want, stacks)
	}
}

func wantNoPlaced(t *testing.T, y impl.Yard, list []int) {
	t.Helper()
	if z, placement, ok := impl.PlaceAll(y, list); ok || !isNoYard(z) || len(placement) != 0 {
		t.Errorf("PlaceAll of %v in %s = %s, %v, %v", list, yardText(y), yardText(z), placement, ok)
	}
}

func wantApplied(t *testing.T, y impl.Yard, list []int, placement []int, want string) {
	t.Helper()
	if z, ok := impl.ApplyPlacement(y, list, placement); !ok || yardText(z) != want {
		t.Errorf("ApplyPlacement of %v on %v in %s = %s, %v, want %s", list, placement, yardText(y), yardText(z), ok, want)
	}
}

func wantNoApplied(t *testing.T, y impl.Yard, list []int, placement []int) {
	t.Helper()
	if z, ok := impl.ApplyPlacement(y, list, placement); ok || !isNoYard(z) {
		t.Errorf("ApplyPlacement of %v on %v in %s = %s, %v", list, placement, yardText(y), yardText(z), ok)
	}
}

func wantBestPlaced(t *testing.T, y impl.Yard, list []int, bad int, want ...int) {
	t.Helper()
	if placement, n, ok := impl.BestPlacement(y, list); !ok || n != bad || !slices.Equal(placement, want) {
		t.Errorf("BestPlacement of %v in %s = %v, %d, %v, want %v, %d", list, yardText(y), placement, n, ok, want, bad)
	}
}

func wantNoBestPlaced(t *testing.T, y impl.Yard, list []int) {
	t.Helper()
	if placement, n, ok := impl.BestPlacement(y, list); ok || n != 0 || len(placement) != 0 {
		t.Errorf("BestPlacement of %v in %s = %v, %d, %v", list, yardText(y), placement, n, ok)
	}
}

func wantWorstBox(t *testing.T, yard string, want int, count int) {
	t.Helper()
	if n, most, ok := impl.WorstBox(yardFrom(yard)); !ok || n != want || most != count {
		t.Errorf("WorstBox of %s = %d, %d, %v, want %d, %d", yard, n, most, ok, want, count)
	}
}

func wantNoWorstBox(t *testing.T, y impl.Yard) {
	t.Helper()
	if n, most, ok := impl.WorstBox(y); ok || n != 0 || most != 0 {
		t.Errorf("WorstBox of %s = %d, %d, %v", yardText(y), n, most, ok)
	}
}

func wantSorted(t *testing.T, yard string, want ...int) {
	t.Helper()
	if list, ok := impl.SortedStacks(yardFrom(yard)); !ok || !slices.Equal(list, want) {
		t.Errorf("SortedStacks of %s = %v, %v, want %v", yard, list, ok, want)
	}
}

// wantNoArrival wants zero values of every function that takes arrivals.
func wantNoArrival(t *testing.T, y impl.Yard, list []int) {
	t.Helper()
	wantNoPlaced(t, y, list)
	wantNoBestPlaced(t, y, list)
	for _, stack := range []int{-1, 0, 1, 2, 5, 6} {
		wantNoApplied(t, y, list, slices.Repeat([]int{stack}, len(list)))
	}
	wantNoApplied(t, y, list, nil)
	wantNoApplied(t, y, list, []int{0})
}

// wantJudged compares what the functions say that take only a yard with the oracles.
func wantJudged(t *testing.T, y impl.Yard) {
	t.Helper()
	wantBad(t, yardText(y), badByPairs(y)...)
	wantSorted(t, yardText(y), sortedByPairs(y)...)
	if n, most := worstByPairs(y); most > 0 {
		wantWorstBox(t, yardText(y), n, most)
	} else {
		wantNoWorstBox(t, y)
	}
	for i, stack := range y.Stacks {
		wantEarliest(t, y, i, earliestBySorting(stack))
	}
}

// wantArrived compares what the functions say that take arrivals with the oracles, and returns
// how many placements are equally good.
func wantArrived(t *testing.T, a arrivingYard) int {
	t.Helper()
	if z, placement, ok := placedByRule(a.yard, a.list); ok {
		wantPlaced(t, a.yard, a.list, yardText(z), placement...)
	} else {
		wantNoPlaced(t, a.yard, a.list)
	}
	best, fewest, count := bestOfAllPlacements(a.yard, a.list)
	if count == 0 {
		wantNoBestPlaced(t, a.yard, a.list)
	} else {
		wantBestPlaced(t, a.yard, a.list, fewest, best...)
	}
	return count
}

func TestLimitOfArrivals(t *testing.T) {
	if impl.MaxArrivals != 5 {
		t.Errorf("the limit is %d", impl.MaxArrivals)
	}
}

func TestBadlyPlaced(t *testing.T) {
	wantBad(t, "5 7,2,9 4 8", 7, 8)
	wantBad(t, "1 2", 2)
	wantBad(t, "2 1")
	wantBad(t, "1,2")
	// A smaller number that is not directly below counts, too.
	wantBad(t, "2 1 3", 3)
	wantBad(t, "1 4 3", 3, 4)
	wantBad(t, "1 4 3 2", 2, 3, 4)
	wantBad(t, "50 60 55 51", 51, 55, 60)
	wantBad(t, "3 9 1 2", 2, 9)
	wantBad(t, "5 9 4 3", 9)
	wantBad(t, "5 4 3 9", 9)
	wantBad(t, "98 99", 99)
	wantBad(t, "99 98 97 96")
	// The numbers of all stacks are in one order.
	wantBad(t, "10 90,20 80,30 70", 70, 80, 90)
	wantBad(t, "1 99,,2 3 4 5,6 98 7", 3, 4, 5, 7, 98, 99)
}

func TestYardsWithoutANumberAreSorted(t *testing.T) {
	for stacks := 1; stacks <= 6; stacks++ {
		y := impl.Yard{Stacks: make([][]int, stacks)}
		all := []int{0, 1, 2, 3, 4, 5}[:stacks]
		wantBad(t, yardText(y))
		wantSorted(t, yardText(y), all...)
		wantNoWorstBox(t, y)
		for _, i := range all {
			wantEarliest(t, y, i, 100)
		}
		for _, i := range noStacks(stacks) {
			wantNoEarliest(t, y, i)
		}
		for n := 1; n <= 99; n++ {
			wantChosen(t, y, n, 0)
		}
	}
}

func TestEarliestOf(t *testing.T) {
	y := yardFrom("5 7,2,9 4 8,,99,98 97 96 1,1")
	y.Stacks = y.Stacks[:6]
	for stack, want := range []int{5, 2, 4, 100, 99, 1} {
		wantEarliest(t, y, stack, want)
	}
	wantEarliest(t, yardFrom("3 2 1"), 0, 1)
	wantEarliest(t, yardFrom("1 2 3"), 0, 1)
	wantEarliest(t, yardFrom("2 1 3"), 0, 1)
	wantEarliest(t, impl.Yard{Stacks: make([][]int, 6)}, 5, 100)
	for _, y := range sampleYards() {
		for _, stack := range noStacks(len(y.Stacks)) {
			wantNoEarliest(t, y, stack)
		}
	}
}

func TestChooseStack(t *testing.T) {
	y := yardFrom("5 7,2,9 4 8")
	wantChosen(t, y, 1, 1)
	wantChosen(t, y, 3, 2)
	wantChosen(t, y, 6, 0)
	wantChosen(t, y, 99, 0)
	// Smaller than every earliest number.
	wantChosen(t, yardFrom("30,10,20"), 9, 1)
	wantChosen(t, yardFrom("10 80,30,20"), 1, 0)
	// Greater than every earliest number.
	wantChosen(t, yardFrom("10,30,20"), 31, 1)
	wantChosen(t, yardFrom("10,20,30 5"), 99, 1)
	// Between them.
	wantChosen(t, yardFrom("10,40,20,30"), 15, 2)
	wantChosen(t, yardFrom("10,40,20,30"), 25, 3)
	wantChosen(t, yardFrom("10,40,20,30"), 35, 1)
	wantChosen(t, yardFrom("40,30,20,10"), 25, 1)
	// The smallest number of a stack counts, not its top or its lowest one.
	wantChosen(t, yardFrom("50 10 60,20"), 15, 1)
	wantChosen(t, yardFrom("90 30 80,60 50 70"), 40, 1)
	// An empty stack has the greatest earliest number, and of several the first one is chosen.
	wantChosen(t, yardFrom(",10"), 20, 0)
	wantChosen(t, yardFrom("10,"), 20, 1)
	wantChosen(t, yardFrom(",10"), 5, 1)
	wantChosen(t, yardFrom(",99"), 98, 1)
	wantChosen(t, yardFrom("98,"), 99, 1)
	wantChosen(t, yardFrom("10,,,"), 20, 1)
	wantChosen(t, yardFrom("10,,5,"), 99, 1)
	wantChosen(t, yardFrom(",,,,,"), 1, 0)
	wantChosen(t, yardFrom(""), 99, 0)
}

func TestChooseStackSkipsFullStacks(t *testing.T) {
	wantChosen(t, yardFrom("9 8 7 6,10"), 5, 1)
	wantChosen(t, yardFrom("9 8 7 6,"), 5, 1)
	wantChosen(t, yardFrom("9 8 7 6,4"), 5, 1)
	wantChosen(t, yardFrom("9 8 7 6,1,2"), 5, 2)
	wantChosen(t, yardFrom("9 8 7,1,2"), 5, 0)
	wantChosen(t, yardFrom("1 2 3 4,,10 20 30 40,11 12 13 14"), 5, 1)
	wantChosen(t, yardFrom("1 2 3 4,5 6 7 8,9 10 11"), 12, 2)
	for stacks := 1; stacks <= 6; stacks++ {
		for n := -1; n <= 101; n++ {
			wantNoChosen(t, fullYard(stacks), n)
		}
		for i := range stacks {
			y := fullYard(stacks)
			y.Stacks[i] = y.Stacks[i][:3]
			for n := 1; n <= 99; n++ {
				if !slices.Contains(numbersOf(y), n) {
					wantChosen(t, y, n, i)
				}
			}
		}
	}
}

func TestChooseStackForEveryNumber(t *testing.T) {
	yards := append(sampleYards(), spreadYards()...)
	for _, a := range arrivalSamples(61, 200, 6, 0) {
		yards = append(yards, a.yard)
	}
	for _, y := range yards {
		for _, n := range numbersAround() {
			if stack := chosenByRule(y, n); stack >= 0 && arrivesByRule(y, []int{n}) {
				wantChosen(t, y, n, stack)
			} else {
				wantNoChosen(t, y, n)
			}
		}
	}
}

func TestPlaceAll(t *testing.T) {
	y := yardFrom("5 7,2,9 4 8")
	wantPlaced(t, y, orderFrom("3 1"), "5 7,2 1,9 4 8 3", 2, 1)
	wantPlaced(t, y, orderFrom("1 3"), "5 7,2 1,9 4 8 3", 1, 2)
	wantPlaced(t, y, orderFrom("6"), "5 7 6,2,9 4 8", 0)
	// Each number changes what the next ones find.
	wantPlaced(t, yardFrom(",,"), orderFrom("3 2 1"), "3 2 1,,", 0, 0, 0)
	wantPlaced(t, yardFrom(",,"), orderFrom("1 2 3"), "1,2,3", 0, 1, 2)
	wantPlaced(t, yardFrom(",,"), orderFrom("2 1 3"), "2 1,3,", 0, 0, 1)
	wantPlaced(t, yardFrom(","), orderFrom("10 20 30 15"), "10,20 30 15", 0, 1, 1, 1)
	wantPlaced(t, yardFrom(",,,,,"), orderFrom("95 96 97 98 99"), "95,96,97,98,99,", 0, 1, 2, 3, 4)
	wantPlaced(t, yardFrom("50,60"), orderFrom("55 45 70 52 1"), "50 45 1,60 55 70 52", 1, 0, 1, 1, 0)
}

func TestArrivalsFillStacks(t *testing.T) {
	wantPlaced(t, yardFrom("9 8 7,"), orderFrom("6 5 4"), "9 8 7 6,5 4", 0, 1, 1)
	wantPlaced(t, yardFrom("9 8,"), orderFrom("5 4 3 2 1"), "9 8 5 4,3 2 1", 0, 0, 1, 1, 1)
	wantPlaced(t, yardFrom(","), orderFrom("5 4 3 2 1"), "5 4 3 2,1", 0, 0, 0, 0, 1)
	wantPlaced(t, yardFrom("1 2 3,4 5 6"), orderFrom("7 8"), "1 2 3 8,4 5 6 7", 1, 0)
	wantPlaced(t, yardFrom("1 2 3,4 5 6,7 8 9"), orderFrom("99 98 97"), "1 2 3 97,4 5 6 98,7 8 9 99", 2, 1, 0)
	wantPlaced(t, yardFrom("9 8 7,20 19 18"), orderFrom("6 5"), "9 8 7 6,20 19 18 5", 0, 1)
	wantNoPlaced(t, yardFrom("9 8 7,20 19 18"), orderFrom("6 5 4"))
	wantNoBestPlaced(t, yardFrom("9 8 7,20 19 18"), orderFrom("6 5 4"))
	wantBestPlaced(t, yardFrom("9 8 7,20 19 18"), orderFrom("10 5"), 0, 1, 0)
	wantBestPlaced(t, yardFrom("9 8 7,20 19 18"), orderFrom("5 10"), 0, 0, 1)
	wantBestPlaced(t, yardFrom("50 40 30,"), orderFrom("25 60 24"), 0, 0, 1, 1)
	wantBestPlaced(t, yardFrom(""), orderFrom("1 2 3 4"), 3, 0, 0, 0, 0)
	wantBestPlaced(t, yardFrom(""), orderFrom("4 3 2 1"), 0, 0, 0, 0, 0)
	wantNoBestPlaced(t, yardFrom(""), orderFrom("5 4 3 2 1"))
	wantNoPlaced(t, yardFrom(""), orderFrom("5 4 3 2 1"))
}

// Whether there is a placement depends on the free places alone.
func TestRoomForArrivals(t *testing.T) {
	for stacks := 1; stacks <= 6; stacks++ {
		for free := range 8 {
			for arriving := range 6 {
				y := fullYard(stacks)
				list := []int{}
				for i := range min(free, 4*stacks) {
					k := i % stacks
					y.Stacks[k] = y.Stacks[k][:len(y.Stacks[k])-1]
				}
				for n := 99; len(list) < arriving; n-- {
					if !slices.Contains(numbersOf(y), n) {
						list = append(list, n)
					}
				}
				_, placement, ok := impl.PlaceAll(y, list)
				best, _, fine := impl.BestPlacement(y, list)
				fits := arriving <= min(free, 4*stacks)
				if ok != fits || fine != fits || fits && (len(placement) != arriving || len(best) != arriving) {
					t.Errorf("%v arriving at %s: %v, %v and %v, %v", list, yardText(y), placement, ok, best, fine)
				}
				if !fits {
					wantNoPlaced(t, y, list)
					wantNoBestPlaced(t, y, list)
				}
			}
		}
	}
}

func TestNoArrivals(t *testing.T) {
	for _, y := range append(sampleYards(), fullYard(6), yardFrom("")) {
		for _, list := range [][]int{nil, {}} {
			wantPlaced(t, y, list, yardText(y))
			wantApplied(t, y, list, nil, yardText(y))
			wantApplied(t, y, list, []int{}, yardText(y))
			wantBestPlaced(t, y, list, len(badByPairs(y)))
			wantNoApplied(t, y, list, []int{0})
		}
	}
}

func TestFiveArrivalsAndOneMore(t *testing.T) {
	wantPlaced(t, yardFrom(",,,,,"), orderFrom("1 2 3 4 5"), "1,2,3,4,5,", 0, 1, 2, 3, 4)
	wantNoArrival(t, yardFrom(",,,,,"), orderFrom("1 2 3 4 5 6"))
	wantBestPlaced(t, yardFrom(",,,,,"), orderFrom("1 2 3 4 5"), 0, 0, 1, 2, 3, 4)
	wantBestPlaced(t, yardFrom(","), orderFrom("1 2 3 4 5"), 3, 0, 0, 0, 0, 1)
	wantNoArrival(t, yardFrom(","), orderFrom("6 5 4 3 2 1"))
	wantApplied(t, yardFrom(","), orderFrom("1 2 3 4 5"), []int{0, 1, 0, 1, 0}, "1 3 5,2 4")
	wantNoApplied(t, yardFrom(","), orderFrom("1 2 3 4 5 6"), []int{0, 1, 0, 1, 0, 1})
	for length := range 12 {
		list := yardNumbers()[:length]
		if length > 5 {
			wantNoArrival(t, yardFrom(",,,,,"), list)
			continue
		}
		wantArrived(t, arrivingYard{yardFrom(",,,"), list})
	}
	wantNoArrival(t, yardFrom(",,,,,"), slices.Repeat(yardNumbers(), 1<<8))
}

// invalidArrivals has lists that are no arrivals for the yard "1 2 3,4 5 6,7 8 9,".
func invalidArrivals() map[string][]int {
	all := map[string][]int{
		"a number twice":                     {10, 10},
		"a number twice with others":         {10, 20, 30, 10},
		"a number twice at the end":          {10, 20, 30, 40, 40},
		"five times a number":                {10, 10, 10, 10, 10},
		"a top":                              {3},
		"a lowest number":                    {7},
		"a number in the middle":             {10, 5, 20},
		"a last number that stands there":    {10, 20, 30, 40, 9},
		"a first number that stands there":   {1, 10, 20},
		"a number of the yard twice":         {1, 1},
		"six numbers":                        {10, 20, 30, 40, 50, 60},
		"six numbers, the last one twice":    {10, 20, 30, 40, 50, 50},
		"six numbers, the last one standing": {10, 20, 30, 40, 50, 1},
	}
	for _, n := range []int{0, -1, -10, 100, 101, 256, 1<<32 + 10, -1 << 32, math.MaxInt, math.MinInt} {
		all[fmt.Sprint("only ", n)] = []int{n}
		all[fmt.Sprint("at the end ", n)] = []int{10, 20, 30, 40, n}
		all[fmt.Sprint("at the beginning ", n)] = []int{n, 10, 20}
		all[fmt.Sprint("in the middle ", n)] = []int{10, n, 20}
	}
	return all
}

func TestInvalidArrivals(t *testing.T) {
	for _, list := range invalidArrivals() {
		wantNoArrival(t, yardFrom("1 2 3,4 5 6,7 8 9,"), list)
		wantNoArrival(t, yardFrom("1,2 3,4,5 6,7 8,9"), list)
		for _, placement := range listsOf(min(len(list), 3), 4) {
			wantNoApplied(t, yardFrom("1 2 3,4 5 6,7 8 9,"), list, placement)
		}
	}
	for n := 1; n <= 9; n++ {
		wantNoChosen(t, yardFrom("1 2 3,4 5 6,7 8 9,"), n)
	}
	for _, n := range []int{0, -1, 100, 101, 256, 1<<32 + 10, math.MaxInt, math.MinInt} {
		wantNoChosen(t, yardFrom("1 2 3,4 5 6,7 8 9,"), n)
		wantNoChosen(t, yardFrom(""), n)
	}
}

// A single arrival of every number, valid or not.
func TestEveryNumberArriving(t *testing.T) {
	for _, yard := range []string{"", ",", "50", "98 1,99", "10 20 30 40,50 60 70 80,1 2 3", ",,5 4,9,,77"} {
		y := yardFrom(yard)
		for _, n := range numbersAround() {
			list := []int{n}
			if !arrivesByRule(y, list) {
				wantNoArrival(t, y, list)
				continue
			}
			wantArrived(t, arrivingYard{y, list})
			for stack := range y.Stacks {
				if z, ok := placedByHand(y, list, []int{stack}); ok {
					wantApplied(t, y, list, []int{stack}, yardText(z))
				} else {
					wantNoApplied(t, y, list, []int{stack})
				}
			}
		}
	}
}

func TestApplyPlacement(t *testing.T) {
	y := yardFrom("5 7,2,9 4 8")
	wantApplied(t, y, orderFrom("3 1"), []int{1, 1}, "5 7,2 3 1,9 4 8")
	wantApplied(t, y, orderFrom("1 3"), []int{1, 1}, "5 7,2 1 3,9 4 8")
	wantApplied(t, y, orderFrom("3 1"), []int{0, 2}, "5 7 3,2,9 4 8 1")
	wantApplied(t, y, orderFrom("3 1"), []int{2, 0}, "5 7 1,2,9 4 8 3")
	wantApplied(t, y, orderFrom("10 99"), []int{0, 0}, "5 7 10 99,2,9 4 8")
	wantApplied(t, y, orderFrom("10 11 12 13 14"), []int{1, 0, 1, 0, 1}, "5 7 11 13,2 10 12 14,9 4 8")
	wantApplied(t, yardFrom(",,,,,"), orderFrom("99"), []int{5}, ",,,,,99")
	wantApplied(t, yardFrom("1 2 3 4,"), orderFrom("5 6 7 8"), []int{1, 1, 1, 1}, "1 2 3 4,5 6 7 8")
}

func TestInvalidPlacements(t *testing.T) {
	y, list := yardFrom("5 7,2,9 4 8"), orderFrom("3 1")
	for _, placement := range [][]int{
		nil, {}, {0}, {1}, {0, 0, 0}, {0, 1, 2}, {0, 1, 7}, {0, 0, 0, 0, 0, 0},
		{3, 0}, {0, 3}, {-1, 0}, {0, -1}, {6, 6}, {0, 100}, {math.MaxInt, 0}, {0, math.MinInt}, {1 << 32, 0}, {0, 1<<32 + 1},
		// The first arrival makes stack 2 full.
		{2, 2},
	} {
		wantNoApplied(t, y, list, placement)
	}
	wantNoApplied(t, yardFrom("1 2 3 4,"), orderFrom("5"), []int{0})
	wantNoApplied(t, yardFrom("1 2 3 4,"), orderFrom("5 6"), []int{1, 0})
	wantNoApplied(t, yardFrom("1 2 3,"), orderFrom("5 6 7"), []int{0, 1, 0})
	wantNoApplied(t, yardFrom("1 2 3,"), orderFrom("5 6 7"), []int{1, 0, 0})
	wantNoApplied(t, yardFrom(","), orderFrom("1 2 3 4 5"), []int{1, 1, 1, 1, 1})
	wantNoApplied(t, yardFrom(""), orderFrom("1 2 3 4 5"), []int{0, 0, 0, 0, 0})
	wantNoApplied(t, fullYard(6), orderFrom("99"), []int{0})
	for _, many := range [][]int{make([]int, 1<<16), slices.Repeat([]int{1}, 6)} {
		wantNoApplied(t, y, list, many)
		wantNoApplied(t, y, nil, many)
	}
	for _, stack := range noStacks(3) {
		wantNoApplied(t, y, []int{3}, []int{stack})
		wantNoApplied(t, y, list, []int{stack, 0})
		wantNoApplied(t, y, list, []int{0, stack})
	}
}

// All lists of stacks of up to one more than there are, and of all lengths around the right one.
func TestApplyPlacementOfAllLists(t *testing.T) {
	for _, yard := range []string{"", "10 20", ",", "30 10 20,", "10 20 30 40,", "10,20,30", "40 30 20,,10", "10 20 30,40 50 60,70 80 90"} {
		y := yardFrom(yard)
		for _, list := range [][]int{{}, {15}, {35, 5}, {5, 15, 25}, {99, 1, 98}} {
			for length := range len(list) + 2 {
				for _, placement := range listsOf(length, len(y.Stacks)+1) {
					if z, ok := placedByHand(y, list, placement); ok {
						wantApplied(t, y, list, placement, yardText(z))
					} else {
						wantNoApplied(t, y, list, placement)
					}
				}
			}
		}
	}
}

func TestBestPlacement(t *testing.T) {
	y := yardFrom("5 7,2,9 4 8")
	wantBestPlaced(t, y, orderFrom("3 1"), 2, 0, 0)
	wantBestPlaced(t, y, orderFrom("1 3"), 2, 0, 2)
	wantBestPlaced(t, y, orderFrom("6"), 3, 0)
	wantBestPlaced(t, y, orderFrom("1"), 2, 0)
	// Several placements are equally good.
	wantBestPlaced(t, yardFrom(",,"), orderFrom("3 2 1"), 0, 0, 0, 0)
	wantBestPlaced(t, yardFrom(",,"), orderFrom("1 2 3"), 0, 0, 1, 2)
	wantBestPlaced(t, yardFrom(",,"), orderFrom("2 3 1"), 0, 0, 1, 0)
	wantBestPlaced(t, yardFrom("1,2,3"), orderFrom("9 8 7 6"), 4, 0, 0, 0, 1)
	wantBestPlaced(t, yardFrom("1,2,3"), orderFrom("6 7 8 9"), 4, 0, 0, 0, 1)
	wantBestPlaced(t, yardFrom(","), orderFrom("1 2 3"), 1, 0, 0, 1)
	wantBestPlaced(t, yardFrom("99,98,97"), orderFrom("1 2 3"), 0, 0, 1, 2)
	wantBestPlaced(t, yardFrom("1 2 3 4,,"), orderFrom("5 6 7"), 4, 1, 1, 2)
	// A full stack and one that becomes full.
	wantBestPlaced(t, yardFrom("9 8 7 6,20 19 18,1"), orderFrom("5 4"), 1, 1, 2)
	wantBestPlaced(t, yardFrom("5,"), orderFrom("10 9 8 7 6"), 1, 0, 1, 1, 1, 1)
}

func TestPlaceAllIsNotAlwaysTheBest(t *testing.T) {
	// 30 is badly placed on both stacks, but only one of them is of use for 15.
	y, list := yardFrom("10 9 8,20 19 18"), orderFrom("30 15")
	wantPlaced(t, y, list, "10 9 8 15,20 19 18 30", 1, 0)
	wantBestPlaced(t, y, list, 1, 0, 1)
	better, equal := 0, 0
	for _, a := range arrivalSamples(67, 600, 4, 5) {
		z, _, ok := impl.PlaceAll(a.yard, a.list)
		_, fewest, fine := impl.BestPlacement(a.yard, a.list)
		bad, _ := impl.BadlyPlaced(z)
		if ok != fine || ok && len(bad) < fewest {
			t.Errorf("%v: the rule leaves %v badly placed, %v, the best placement %d, %v", a, bad, ok, fewest, fine)
		}
		switch {
		case ok && fewest < len(bad):
			better++
		case ok:
			equal++
		}
	}
	if better < 5 || equal < 100 {
		t.Errorf("only %d better and %d equally good placements are found", better, equal)
	}
}

// All lists of arrivals between the numbers of all small yards.
func TestArrivalsAtAllSmallYards(t *testing.T) {
	lists := ordersOf(yardFrom("5 15 25 35"), 3)
	ties := 0
	for _, y := range spreadYards() {
		wantJudged(t, y)
		for _, list := range lists {
			if wantArrived(t, arrivingYard{y, list}) > 1 {
				ties++
			}
		}
	}
	if ties < 1000 {
		t.Errorf("only %d lists have several best placements", ties)
	}
}

func TestArrivalsAtManyYards(t *testing.T) {
	ties, single, without := 0, 0, 0
	for _, a := range arrivalSamples(71, 1500, 4, 4) {
		wantJudged(t, a.yard)
		switch count := wantArrived(t, a); {
		case count > 1:
			ties++
		case count == 1:
			single++
		default:
			without++
		}
	}
	if ties < 100 || single < 100 || without < 100 {
		t.Errorf("%d, %d and %d lists have several, one and no best placement", ties, single, without)
	}
}

// Greatest yards and longest lists, with all their placements.
func TestFiveArrivalsAtSixStacks(t *testing.T) {
	next := dice(73)
	for i := range 24 {
		wantArrived(t, mixedArrival(next, 6, i, 5))
	}
	wantArrived(t, arrivingYard{yardFrom("1,2,3,4,5,6"), orderFrom("7 8 9 10 11")})
	wantArrived(t, arrivingYard{yardFrom("94,95,96,97,98,99"), orderFrom("1 2 3 4 5")})
	wantArrived(t, arrivingYard{yardFrom("10 20 30,11 21 31,12 22 32,13 23 33,14 24 34,15 25"), orderFrom("99 98 97 96 95")})
}

// No placement leaves fewer numbers badly placed than the best one, whose number is right.
func TestNoPlacementIsBetterThanTheBest(t *testing.T) {
	for _, a := range arrivalSamples(79, 400, 5, 3) {
		best, fewest, ok := impl.BestPlacement(a.yard, a.list)
		z, fits := impl.ApplyPlacement(a.yard, a.list, best)
		bad, fine := impl.BadlyPlaced(z)
		if ok && (!fits || !fine || len(bad) != fewest) {
			t.Errorf("%v: the best placement %v with %d leaves %v badly placed, %v", a, best, fewest, bad, fits)
		}
		for _, placement := range listsOf(len(a.list), len(a.yard.Stacks)) {
			z, fits := impl.ApplyPlacement(a.yard, a.list, placement)
			if !fits {
				continue
			}
			bad, _ := impl.BadlyPlaced(z)
			if !ok || len(bad) < fewest || len(bad) == fewest && slices.Compare(placement, best) < 0 {
				t.Errorf("%v: the best placement is %v with %d, but %v leaves %v badly placed", a, best, fewest, placement, bad)
			}
		}
	}
}

func TestThePlacementOfPlaceAllGivesItsYard(t *testing.T) {
	placed := 0
	for _, a := range arrivalSamples(83, 3000, 6, 5) {
		z, placement, ok := impl.PlaceAll(a.yard, a.list)
		if !ok {
			continue
		}
		placed++
		wantApplied(t, a.yard, a.list, placement, yardText(z))
		y := a.yard
		for i, n := range a.list {
			wantChosen(t, y, n, placement[i])
			y, _ = impl.PutBox(y, placement[i], n)
		}
		if yardText(y) != yardText(z) || !impl.IsValidYard(z) {
			t.Errorf("PlaceAll of %v = %s, one after the other %s", a, yardText(z), yardText(y))
		}
	}
	if placed < 1000 {
		t.Errorf("only %d lists are placed", placed)
	}
}

func TestWorstBox(t *testing.T) {
	wantWorstBox(t, "1 2 3", 3, 2)
	wantWorstBox(t, "1 2 3 4", 4, 3)
	wantWorstBox(t, "1 2", 2, 1)
	wantWorstBox(t, "3 1 2", 2, 1)
	wantWorstBox(t, "2 1 3", 3, 2)
	wantWorstBox(t, "2 1 4 3", 3, 2)
	wantWorstBox(t, "5 7,2,9 4 8", 7, 1)
	wantWorstBox(t, "9 4 8,2,5 7", 7, 1)
	// Smaller numbers count, wherever they stand below.
	wantWorstBox(t, "1 9 2 3", 3, 2)
	wantWorstBox(t, "1 90 2 91,5 6 7 50", 50, 3)
	wantWorstBox(t, "5 6 7 91,1 90 2 50", 91, 3)
	// The smallest one on ties, whatever its stack and tier.
	wantWorstBox(t, "1 50,2 40,3 60", 40, 1)
	wantWorstBox(t, "3 60,2 40,1 50", 40, 1)
	wantWorstBox(t, "1 9 8 7", 7, 1)
	wantWorstBox(t, "1 7 6,2 5", 5, 1)
	wantWorstBox(t, "98 99", 99, 1)
	for _, yard := range []string{"", "1", ",,,,,", "4 3 2 1", "2 1,4 3", "99,98,97", "3,2 1,"} {
		wantNoWorstBox(t, yardFrom(yard))
	}
}

func TestSortedStacks(t *testing.T) {
	wantSorted(t, "5 7,2,9 4 8", 1)
	wantSorted(t, "2 1,3,,7 6 5 4", 0, 1, 2, 3)
	wantSorted(t, "1 2,3 4,5 6")
	wantSorted(t, "1 2")
	wantSorted(t, "2 1", 0)
	wantSorted(t, "4 3 1 2")
	wantSorted(t, "4 1 3 2,9", 1)
	wantSorted(t, "1 4 3 2,,9 8", 1, 2)
	wantSorted(t, "1,2,3,4,5,6", 0, 1, 2, 3, 4, 5)
	wantSorted(t, "1 2,4 3,5 6,8 7,9 10,12 11", 1, 3, 5)
}

// A stack is sorted exactly if none of its numbers is badly placed, and the worst box is badly
// placed.
func TestSortedStacksHaveNoBadlyPlacedNumber(t *testing.T) {
	allSorted, noneSorted := 0, 0
	yards := spreadYards()
	for _, a := range arrivalSamples(89, 3000, 6, 0) {
		yards = append(yards, a.yard)
	}
	for _, y := range append(yards, sampleYards()...) {
		wantJudged(t, y)
		bad, _ := impl.BadlyPlaced(y)
		sorted, _ := impl.SortedStacks(y)
		for i, stack := range y.Stacks {
			isBad := slices.ContainsFunc(stack, func(n int) bool { return slices.Contains(bad, n) })
			if slices.Contains(sorted, i) == isBad {
				t.Errorf("SortedStacks of %s = %v, but %v are badly placed", yardText(y), sorted, bad)
			}
		}
		worst, _, ok := impl.WorstBox(y)
		if ok != (len(bad) > 0) || ok && !slices.Contains(bad, worst) {
			t.Errorf("WorstBox of %s = %d, %v, but %v are badly placed", yardText(y), worst, ok, bad)
		}
		switch len(sorted) {
		case 0:
			noneSorted++
		case len(y.Stacks):
			allSorted++
		}
	}
	if allSorted < 100 || noneSorted < 100 {
		t.Errorf("only %d yards are sorted and %d not at all", allSorted, noneSorted)
	}
}

// A number that is put on a stack is badly placed exactly if the earliest one there is smaller.
func TestEarliestNumbersTellWhoIsBadlyPlaced(t *testing.T) {
	for _, a := range arrivalSamples(97, 1000, 6, 1) {
		for _, n := range a.list {
			for stack := range a.yard.Stacks {
				z, ok := impl.PutBox(a.yard, stack, n)
				if !ok {
					continue
				}
				earliest, _ := impl.EarliestOf(a.yard, stack)
				before, _ := impl.BadlyPlaced(a.yard)
				after, _ := impl.BadlyPlaced(z)
				if slices.Contains(after, n) != (earliest < n) || len(after) > len(before)+1 {
					t.Errorf("%d on stack %d of %s: %d is the earliest, %v are badly placed", n, stack, yardText(a.yard), earliest, after)
				}
				wantEarliest(t, z, stack, min(n, earliest))
			}
		}
	}
}

func TestInvalidYardsTakeNoArrivals(t *testing.T) {
	for name, y := range invalidYards() {
		if bad, ok := impl.BadlyPlaced(y); ok || len(bad) != 0 {
			t.Errorf("%s: BadlyPlaced = %v, %v", name, bad, ok)
		}
		if sorted, ok := impl.SortedStacks(y); ok || len(sorted) != 0 {
			t.Errorf("%s: SortedStacks = %v, %v", name, sorted, ok)
		}
		wantNoWorstBox(t, y)
		for stack := -1; stack <= 7; stack++ {
			wantNoEarliest(t, y, stack)
		}
		for _, n := range []int{-1, 0, 1, 2, 5, 50, 77, 99, 100} {
			wantNoChosen(t, y, n)
			wantNoArrival(t, y, []int{n})
		}
		for _, list := range [][]int{nil, {}, {77, 78}, {99, 98, 97, 96, 95}, {77, 77}} {
			wantNoArrival(t, y, list)
		}
	}
	// The other stacks are valid, or would be.
	wantNoEarliest(t, yardFrom("1,2 2"), 0)
	wantNoEarliest(t, yardFrom("1 2 3 4 5,"), 1)
	wantNoChosen(t, yardFrom("1 2 3 4 5,"), 9)
	wantNoArrival(t, yardFrom("1,1,"), []int{9})
	wantNoArrival(t, yardFrom(",,,,,,"), []int{9})
}

// placingAnswers has what every function of chapter 8 says.
func placingAnswers(y impl.Yard, list []int, placements [][]int) []string {
	var all []string
	add := func(parts ...any) { all = append(all, fmt.Sprintln(parts...)) }
	bad, ok := impl.BadlyPlaced(y)
	add("bad", bad, ok)
	sorted, ok := impl.SortedStacks(y)
	add("sorted", sorted, ok)
	worst, most, ok := impl.WorstBox(y)
	add("worst", worst, most, ok)
	for stack := -1; stack <= min(len(y.Stacks), 7); stack++ {
		n, ok := impl.EarliestOf(y, stack)
		add("earliest", stack, n, ok)
	}
	for _, n := range []int{0, 1, 20, 50, 77, 88, 99, 100} {
		stack, ok := impl.ChooseStack(y, n)
		add("choose", n, stack, ok)
	}
	z, placement, ok := impl.PlaceAll(y, list)
	add("all", yardText(z), placement, ok)
	best, fewest, ok := impl.BestPlacement(y, list)
	add("best", best, fewest, ok)
	for _, placement := range placements {
		z, ok := impl.ApplyPlacement(y, list, placement)
		add("apply", placement, yardText(z), ok)
	}
	return all
}

// placementsToAsk has placements, and a list that is too short and one that is too long.
func placementsToAsk(a arrivingYard) [][]int {
	_, placement, _ := impl.PlaceAll(a.yard, a.list)
	best, _, _ := impl.BestPlacement(a.yard, a.list)
	zeros := make([]int, len(a.list))
	return [][]int{placement, best, zeros, zeros[:len(zeros)/2], append(slices.Clone(best), 0)}
}

// Arguments in arrays with something behind them are answered like separate ones, and none of
// them is changed.
func TestPlacingLeavesItsArgumentsAlone(t *testing.T) {
	for _, a := range arrivalSamples(103, 200, 6, 5) {
		placements := placementsToAsk(a)
		want := placingAnswers(a.yard, a.list, placements)
		list, listArray := withRoom(a.list, 88)
		var packed, arrays [][]int
		for _, placement := range placements {
			part, array := withRoom(placement, 0)
			packed, arrays = append(packed, part), append(arrays, array)
		}
		for _, p := range packedYards(a.yard) {
			array, rows := slices.Clone(p.array), slices.Clone(p.rows)
			if got := placingAnswers(p.yard, list, packed); !slices.Equal(got, want) {
				t.Errorf("the answers about %v in the array %v are others", a, array)
			}
			if !slices.Equal(p.array, array) || !slices.EqualFunc(p.rows, rows, sameMemory) {
				t.Fatalf("the yard of %v is changed to %v", a, p.array)
			}
		}
		if !slices.Equal(listArray, append(slices.Clone(a.list), 88, 88, 88)) {
			t.Errorf("the list of %v is changed to %v", a, listArray)
		}
		for i, array := range arrays {
			if !slices.Equal(array, append(slices.Clone(placements[i]), 0, 0, 0)) {
				t.Errorf("the placement %v is changed to %v", placements[i], array)
			}
		}
	}
}

func TestInvalidArrivalsAreLeftAlone(t *testing.T) {
	for name, y := range invalidYards() {
		before, rows := copyOfYard(y), slices.Clone(y.Stacks)
		placingAnswers(y, []int{77, 78}, [][]int{{0, 0}})
		if yardText(y) != yardText(before) || !slices.EqualFunc(y.Stacks, rows, sameMemory) {
			t.Errorf("%s: the yard is changed", name)
		}
	}
	for name, list := range invalidArrivals() {
		y, before, placement := yardFrom("1 2 3,4 5 6,7 8 9,"), slices.Clone(list), make([]int, len(list))
		placingAnswers(y, list, [][]int{placement})
		if yardText(y) != "1 2 3,4 5 6,7 8 9," || !slices.Equal(list, before) || slices.Max(placement) != 0 {
			t.Errorf("%s: an argument is changed", name)
		}
	}
	y, list, placement := yardFrom("1 2 3,"), []int{9, 8}, []int{0, 0}
	wantNoApplied(t, y, list, placement)
	if yardText(y) != "1 2 3," || !slices.Equal(list, []int{9, 8}) || !slices.Equal(placement, []int{0, 0}) {
		t.Error("an argument is changed when a stack becomes full")
	}
}

// The same memory may be a list and a placement, or a stack and a placement.
func TestPlacementsInTheMemoryOfOtherArguments(t *testing.T) {
	array := []int{1, 2, 0, 9, 8}
	both := array[:2]
	wantApplied(t, yardFrom(",,"), both, both, ",1,2")
	y := impl.Yard{Stacks: [][]int{both, array[3:], array[2:2]}}
	wantApplied(t, y, []int{5, 6}, both, "1 2,9 8 5,6")
	wantApplied(t, y, []int{5, 6, 7}, array[:3], "1 2 7,9 8 5,6")
	wantApplied(t, impl.Yard{Stacks: [][]int{array[:1], array[1:2], nil}}, array[3:], both, "1,2 9,8")
	wantPlaced(t, impl.Yard{Stacks: [][]int{array[:0], array[:1]}}, array[3:], "9 8,1", 0, 0)
	wantBestPlaced(t, impl.Yard{Stacks: [][]int{array[:1], array[1:1]}}, array[3:], 0, 1, 1)
	wantNoPlaced(t, y, both)
	if !slices.Equal(array, []int{1, 2, 0, 9, 8}) {
		t.Errorf("the array is changed to %v", array)
	}
}

// newPlacings calls every function of chapter 8 that returns slices and returns all of them, the
// lists of stacks apart.
func newPlacings(y impl.Yard, list []int, placements [][]int) ([][]int, [][][]int) {
	bad, _ := impl.BadlyPlaced(y)
	sorted, _ := impl.SortedStacks(y)
	z, placement, _ := impl.PlaceAll(y, list)
	best, _, _ := impl.BestPlacement(y, list)
	lists, rows := append([][]int{bad, sorted, placement, best}, z.Stacks...), [][][]int{z.Stacks}
	for _, placement := range placements {
		z, _ := impl.ApplyPlacement(y, list, placement)
		lists, rows = append(lists, z.Stacks...), append(rows, z.Stacks)
	}
	return lists, rows
}

func TestResultsOfPlacingAreNew(t *testing.T) {
	for _, a := range arrivalSamples(107, 200, 6, 5) {
		placements := placementsToAsk(a)[:3]
		for _, p := range packedYards(a.yard) {
			lists, rows := newPlacings(p.yard, a.list, placements)
			again, rowsAgain := newPlacings(p.yard, a.list, placements)
			if sharesElement(slices.Concat(lists, again, placements, [][]int{a.list, p.array})...) {
				t.Fatalf("results for %v share numbers", a)
			}
			if sharesElement(append(slices.Concat(rows, rowsAgain), p.rows)...) {
				t.Fatalf("results for %v share lists of stacks", a)
			}
		}
	}
}

func TestResultsOfPlacingStayWhenArgumentsChange(t *testing.T) {
	for _, a := range arrivalSamples(109, 200, 6, 5) {
		for _, p := range packedYards(a.yard) {
			list, placements := slices.Clone(a.list), placementsToAsk(a)
			lists, _ := newPlacings(p.yard, list, placements)
			want := copyOfYard(impl.Yard{Stacks: lists}).Stacks
			spoil(p.array)
			clear(p.rows)
			spoil(list)
			for _, placement := range placements {
				spoil(placement)
			}
			if !slices.EqualFunc(lists, want, slices.Equal[[]int]) {
				t.Fatalf("a change of %v changes a result", a)
			}
		}
	}
}

// A result that is changed does not change what is said later.
func TestChangedResultsOfPlacingChangeNoOther(t *testing.T) {
	for _, a := range arrivalSamples(113, 200, 6, 5) {
		placements := placementsToAsk(a)
		want := placingAnswers(a.yard, a.list, placements)
		lists, rows := newPlacings(a.yard, a.list, placements)
		for _, list := range lists {
			spoil(list)
		}
		for _, row := range rows {
			clear(row)
		}
		if got := placingAnswers(a.yard, a.list, placements); !slices.Equal(got, want) {
			t.Fatalf("the answers about %v are others the second time", a)
		}
	}
}
