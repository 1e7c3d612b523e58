package tests

import (
	"fmt"
	"math"
	"math/big"
	"slices"
	"testing"

	"loop.example/g00906/impl"
)

// loads reads a Weight, an Across and a Height for every load.
func loads(numbers ...int) []impl.Load {
	list := []impl.Load{}
	for part := range slices.Chunk(numbers, 3) {
		list = append(list, impl.Load{Weight: part[0], Across: part[1], Height: part[2]})
	}
	return list
}

// loadsAcross reads a Weight and an Across for every load.
func loadsAcross(numbers ...int) []impl.Load {
	list := []impl.Load{}
	for part := range slices.Chunk(numbers, 2) {
		list = append(list, impl.Load{Weight: part[0], Across: part[1], Height: len(list)})
	}
	return list
}

func manyLoads(count int, x impl.Load) []impl.Load { return slices.Repeat([]impl.Load{x}, count) }

// isBetween is an oracle for numbers in a range.
func isBetween(n int, least int, most int) bool { return n >= least && n <= most }

// areLoadsByRule is an oracle.
func areLoadsByRule(list []impl.Load) bool {
	for _, x := range list {
		if !isBetween(x.Weight, 1, 32000) || !isBetween(x.Across, -200, 200) || !isBetween(x.Height, 0, 400) {
			return false
		}
	}
	return len(list) < 21
}

// summed adds a number of every load, as an oracle.
func summed(list []impl.Load, number func(x impl.Load) int) int {
	if len(list) == 0 {
		return 0
	}
	return number(list[len(list)-1]) + summed(list[:len(list)-1], number)
}

func weightsOf(list []impl.Load) int {
	return summed(list, func(x impl.Load) int { return x.Weight })
}

func acrossOf(list []impl.Load) int {
	return summed(list, func(x impl.Load) int { return x.Weight * x.Across })
}

func upOf(list []impl.Load) int {
	return summed(list, func(x impl.Load) int { return x.Weight * x.Height })
}

func withoutSign(n int) int {
	if n < 0 {
		return -n
	}
	return n
}

func fraction(num int, den int) *big.Rat { return big.NewRat(int64(num), int64(den)) }

func whole(n int) *big.Rat { return fraction(n, 1) }

// centerByRat is an oracle for lists that are not empty.
func centerByRat(list []impl.Load) *big.Rat { return fraction(acrossOf(list), weightsOf(list)) }

// heightByRat takes the mean of the heights by their shares of the weight, as an oracle.
func heightByRat(list []impl.Load, ship int, height int) *big.Rat {
	all := ship + weightsOf(list)
	mean := new(big.Rat).Mul(fraction(ship, all), whole(height))
	for _, x := range list {
		mean.Add(mean, new(big.Rat).Mul(fraction(x.Weight, all), whole(x.Height)))
	}
	return mean
}

func marginByRat(list []impl.Load, ship int, height int, metacenter int) *big.Rat {
	return new(big.Rat).Sub(whole(metacenter), heightByRat(list, ship, height))
}

// momentWith returns the absolute value of the moment with ballast on the opposite side.
func momentWith(moment int, arm int, weight int) int {
	if moment > 0 {
		return withoutSign(moment - weight*arm)
	}
	return withoutSign(moment + weight*arm)
}

// ballastByTrying tries all weights, as an oracle.
func ballastByTrying(list []impl.Load, arm int, most int) int {
	best, moment := 0, acrossOf(list)
	if moment == 0 {
		return best
	}
	for weight := 1; weight <= most; weight++ {
		if momentWith(moment, arm, weight) < momentWith(moment, arm, best) {
			best = weight
		}
	}
	return best
}

// swappedPlaces exchanges the places of two loads.
func swappedPlaces(list []impl.Load, i int, k int) []impl.Load {
	other := slices.Clone(list)
	other[i].Across, other[k].Across = list[k].Across, list[i].Across
	other[i].Height, other[k].Height = list[k].Height, list[i].Height
	return other
}

// allSwaps has the moment and the indices of every swap, the best one first.
func allSwaps(list []impl.Load) [][]int {
	all := [][]int{}
	for k := range list {
		for i := range k {
			all = append(all, []int{withoutSign(acrossOf(swappedPlaces(list, i, k))), i, k})
		}
	}
	slices.SortFunc(all, slices.Compare[[]int])
	return all
}

// mirrorByHand is an oracle.
func mirrorByHand(list []impl.Load) []impl.Load {
	other := slices.Clone(list)
	for i := range other {
		other[i].Across *= -1
	}
	return other
}

// aboveByTaking takes away what is not above a height, as an oracle.
func aboveByTaking(list []impl.Load, height int) int {
	weight := weightsOf(list)
	for _, x := range list {
		if x.Height <= height {
			weight -= x.Weight
		}
	}
	return weight
}

// isUprightByRat is an oracle.
func isUprightByRat(list []impl.Load, limit int) bool {
	if len(list) == 0 {
		return true
	}
	center := centerByRat(list)
	return center.Abs(center).Cmp(whole(limit)) <= 0
}

// smallLoads has all lists of up to a number of loads with small moments.
func smallLoads(most int) [][]impl.Load {
	var all [][]impl.Load
	for count := 0; count <= most; count++ {
		for _, kinds := range listsOf(count, 15) {
			list := []impl.Load{}
			for i, kind := range kinds {
				list = append(list, impl.Load{Weight: kind/5 + 1, Across: kind%5 - 2, Height: (kind + i) % 3})
			}
			all = append(all, list)
		}
	}
	return all
}

// mixedLoad has small numbers, any numbers or numbers at their limits.
func mixedLoad(next func(n int) int, kind int) impl.Load {
	switch kind {
	case 0:
		return impl.Load{Weight: 1 + next(9), Across: next(11) - 5, Height: next(10)}
	case 1:
		return impl.Load{Weight: 1 + next(32000), Across: next(401) - 200, Height: next(401)}
	}
	weights, places, heights := []int{1, 2, 31999, 32000}, []int{-200, -199, -1, 0, 1, 199, 200}, []int{0, 1, 399, 400}
	return impl.Load{Weight: weights[next(4)], Across: places[next(7)], Height: heights[next(4)]}
}

// mixedLoads has 0..20 loads.
func mixedLoads(next func(n int) int) []impl.Load {
	list, kind := []impl.Load{}, next(3)
	for range next(21) {
		list = append(list, mixedLoad(next, kind))
	}
	return list
}

func loadSamples(seed int, count int) [][]impl.Load {
	next := dice(seed)
	var all [][]impl.Load
	for range count {
		all = append(all, mixedLoads(next))
	}
	return all
}

// outsideOf has numbers that are not in a range.
func outsideOf(least int, most int) []int {
	return []int{
		least - 1, least - 2, least - 1000, most + 1, most + 2, most + 1000, 1<<32 + most, 1<<32 + least, -1 << 32, 1 << 62,
		math.MaxInt, math.MinInt, math.MinInt + 1,
	}
}

// badLoads has loads with one number out of range.
func badLoads() map[string]impl.Load {
	all := map[string]impl.Load{}
	for _, n := range outsideOf(1, 32000) {
		all[fmt.Sprint("the weight ", n)] = impl.Load{Weight: n, Across: 3, Height: 4}
	}
	for _, n := range outsideOf(-200, 200) {
		all[fmt.Sprint("the distance ", n)] = impl.Load{Weight: 5, Across: n, Height: 4}
	}
	for _, n := range outsideOf(0, 400) {
		all[fmt.Sprint("the height ", n)] = impl.Load{Weight: 5, Across: 3, Height: n}
	}
	return all
}

// badLoadLists has lists whose other loads are valid.
func badLoadLists() map[string][]impl.Load {
	good := impl.Load{Weight: 5, Across: 3, Height: 4}
	all := map[string][]impl.Load{
		"nothing in a load": {{}},
		"one too many":      manyLoads(21, good),
		"two too many":      manyLoads(22, good),
		"very many":         manyLoads(1<<16, good),
		"many and bad ones": append(manyLoads(20, good), impl.Load{}),
		"only bad ones":     manyLoads(20, impl.Load{Weight: 1, Across: 201}),
	}
	for name, x := range badLoads() {
		all["only "+name] = []impl.Load{x}
		all["first "+name] = append([]impl.Load{x}, manyLoads(2, good)...)
		all["in the middle "+name] = []impl.Load{good, x, good}
		all["last "+name] = append(manyLoads(2, good), x)
		all["last of 20 "+name] = append(manyLoads(19, good), x)
	}
	return all
}

func wantFraction(t *testing.T, name string, num int, den int, ok bool, want *big.Rat) {
	t.Helper()
	if !ok || !want.Num().IsInt64() || int64(num) != want.Num().Int64() || int64(den) != want.Denom().Int64() {
		t.Errorf("%s = %d, %d, %v, want %v", name, num, den, ok, want)
	}
}

func wantMoments(t *testing.T, list []impl.Load, weight int, across int, up int) {
	t.Helper()
	if a, b, c, ok := impl.LoadMoments(list); !ok || a != weight || b != across || c != up {
		t.Errorf("LoadMoments of %v = %d, %d, %d, %v, want %d, %d, %d", list, a, b, c, ok, weight, across, up)
	}
}

func wantCenterAcross(t *testing.T, list []impl.Load, num int, den int) {
	t.Helper()
	if a, b, ok := impl.CenterAcross(list); !ok || a != num || b != den {
		t.Errorf("CenterAcross of %v = %d, %d, %v, want %d, %d", list, a, b, ok, num, den)
	}
}

func wantNoCenterAcross(t *testing.T, list []impl.Load) {
	t.Helper()
	if a, b, ok := impl.CenterAcross(list); ok || a != 0 || b != 0 {
		t.Errorf("CenterAcross of %.99s = %d, %d, %v", fmt.Sprint(list), a, b, ok)
	}
}

func wantCenterHeight(t *testing.T, list []impl.Load, ship int, height int, num int, den int) {
	t.Helper()
	if a, b, ok := impl.CenterHeight(list, ship, height); !ok || a != num || b != den {
		t.Errorf("CenterHeight of %v, %d, %d = %d, %d, %v, want %d, %d", list, ship, height, a, b, ok, num, den)
	}
}

func wantNoCenterHeight(t *testing.T, list []impl.Load, ship int, height int) {
	t.Helper()
	if a, b, ok := impl.CenterHeight(list, ship, height); ok || a != 0 || b != 0 {
		t.Errorf("CenterHeight of %.99s, %d, %d = %d, %d, %v", fmt.Sprint(list), ship, height, a, b, ok)
	}
}

func wantMargin(t *testing.T, list []impl.Load, ship int, height int, metacenter int, num int, den int) {
	t.Helper()
	if a, b, ok := impl.StabilityMargin(list, ship, height, metacenter); !ok || a != num || b != den {
		t.Errorf("StabilityMargin of %v, %d, %d, %d = %d, %d, %v, want %d, %d", list, ship, height, metacenter, a, b, ok, num, den)
	}
}

func wantNoMargin(t *testing.T, list []impl.Load, ship int, height int, metacenter int) {
	t.Helper()
	if a, b, ok := impl.StabilityMargin(list, ship, height, metacenter); ok || a != 0 || b != 0 {
		t.Errorf("StabilityMargin of %.99s, %d, %d, %d = %d, %d, %v", fmt.Sprint(list), ship, height, metacenter, a, b, ok)
	}
}

func wantBallast(t *testing.T, list []impl.Load, arm int, most int, want int) {
	t.Helper()
	if got, ok := impl.BallastFor(list, arm, most); !ok || got != want {
		t.Errorf("BallastFor of %v, %d, %d = %d, %v, want %d", list, arm, most, got, ok, want)
	}
}

func wantNoBallast(t *testing.T, list []impl.Load, arm int, most int) {
	t.Helper()
	if got, ok := impl.BallastFor(list, arm, most); ok || got != 0 {
		t.Errorf("BallastFor of %.99s, %d, %d = %d, %v", fmt.Sprint(list), arm, most, got, ok)
	}
}

func wantSwap(t *testing.T, list []impl.Load, i int, k int, moment int) {
	t.Helper()
	if pair, n, ok := impl.BestSwap(list); !ok || n != moment || !slices.Equal(pair, []int{i, k}) {
		t.Errorf("BestSwap of %v = %v, %d, %v, want %d, %d with %d", list, pair, n, ok, i, k, moment)
	}
}

func wantNoSwap(t *testing.T, list []impl.Load) {
	t.Helper()
	if pair, n, ok := impl.BestSwap(list); ok || n != 0 || len(pair) != 0 {
		t.Errorf("BestSwap of %.99s = %v, %d, %v", fmt.Sprint(list), pair, n, ok)
	}
}

func wantMirror(t *testing.T, list []impl.Load, want []impl.Load) {
	t.Helper()
	if got, ok := impl.MirrorLoads(list); !ok || !slices.Equal(got, want) {
		t.Errorf("MirrorLoads of %v = %v, %v, want %v", list, got, ok, want)
	}
}

func wantAbove(t *testing.T, list []impl.Load, height int, want int) {
	t.Helper()
	if got, ok := impl.WeightAbove(list, height); !ok || got != want {
		t.Errorf("WeightAbove of %v, %d = %d, %v, want %d", list, height, got, ok, want)
	}
}

func wantNoAbove(t *testing.T, list []impl.Load, height int) {
	t.Helper()
	if got, ok := impl.WeightAbove(list, height); ok || got != 0 {
		t.Errorf("WeightAbove of %.99s, %d = %d, %v", fmt.Sprint(list), height, got, ok)
	}
}

func wantUpright(t *testing.T, list []impl.Load, limit int, want bool) {
	t.Helper()
	if got, ok := impl.IsUpright(list, limit); !ok || got != want {
		t.Errorf("IsUpright of %v, %d = %v, %v, want %v", list, limit, got, ok, want)
	}
}

func wantNoUpright(t *testing.T, list []impl.Load, limit int) {
	t.Helper()
	if got, ok := impl.IsUpright(list, limit); ok || got {
		t.Errorf("IsUpright of %.99s, %d = %v, %v", fmt.Sprint(list), limit, got, ok)
	}
}

// wantWeighed compares what the functions say that need little more than a valid list with the
// oracles.
func wantWeighed(t *testing.T, list []impl.Load) {
	t.Helper()
	if !impl.IsValidLoads(list) {
		t.Errorf("%v is not valid", list)
	}
	wantMoments(t, list, weightsOf(list), acrossOf(list), upOf(list))
	wantMirror(t, list, mirrorByHand(list))
	if len(list) == 0 {
		wantNoCenterAcross(t, list)
	} else {
		num, den, ok := impl.CenterAcross(list)
		wantFraction(t, fmt.Sprint("CenterAcross of ", list), num, den, ok, centerByRat(list))
	}
	for _, height := range []int{0, 1, 2, 200, 399, 400} {
		wantAbove(t, list, height, aboveByTaking(list, height))
	}
	for _, x := range list {
		wantAbove(t, list, x.Height, aboveByTaking(list, x.Height))
	}
	for _, limit := range []int{0, 1, 2, 5, 20, 199, 200} {
		wantUpright(t, list, limit, isUprightByRat(list, limit))
	}
	wantSwapOfAll(t, list)
}

// wantSwapOfAll compares the best swap with all swaps, and returns the number of equally good
// ones.
func wantSwapOfAll(t *testing.T, list []impl.Load) int {
	t.Helper()
	all := allSwaps(list)
	if len(all) == 0 {
		wantNoSwap(t, list)
		return 0
	}
	best := all[0]
	wantSwap(t, list, best[1], best[2], best[0])
	others := slices.IndexFunc(all, func(swap []int) bool { return swap[0] > best[0] })
	if others < 0 {
		return len(all)
	}
	return others
}

// wantHeights compares the center and the margin of a ship with the oracles.
func wantHeights(t *testing.T, list []impl.Load, ship int, height int, metacenter int) {
	t.Helper()
	num, den, ok := impl.CenterHeight(list, ship, height)
	wantFraction(t, fmt.Sprint("CenterHeight of ", list, ship, height), num, den, ok, heightByRat(list, ship, height))
	num, den, ok = impl.StabilityMargin(list, ship, height, metacenter)
	name := fmt.Sprint("StabilityMargin of ", list, ship, height, metacenter)
	wantFraction(t, name, num, den, ok, marginByRat(list, ship, height, metacenter))
}

// wantNothingLoaded wants zero values of every function for an invalid list.
func wantNothingLoaded(t *testing.T, list []impl.Load) {
	t.Helper()
	label := fmt.Sprintf("%.99s", fmt.Sprint(list))
	if impl.IsValidLoads(list) {
		t.Errorf("%s is valid", label)
	}
	if a, b, c, ok := impl.LoadMoments(list); ok || a != 0 || b != 0 || c != 0 {
		t.Errorf("LoadMoments of %s = %d, %d, %d, %v", label, a, b, c, ok)
	}
	if mirror, ok := impl.MirrorLoads(list); ok || len(mirror) != 0 {
		t.Errorf("MirrorLoads of %s = %v, %v", label, mirror, ok)
	}
	wantNoCenterAcross(t, list)
	wantNoSwap(t, list)
	for _, n := range []int{0, 1, 50, 200} {
		wantNoCenterHeight(t, list, n+1, n)
		wantNoMargin(t, list, n+1, n, 400)
		wantNoBallast(t, list, n, n)
		wantNoBallast(t, list, 10, n)
		wantNoAbove(t, list, n)
		wantNoUpright(t, list, n)
	}
}

func TestLimitOfLoads(t *testing.T) {
	if impl.MaxLoads != 20 {
		t.Errorf("the limit is %d", impl.MaxLoads)
	}
}

func TestValidLoads(t *testing.T) {
	for _, list := range [][]impl.Load{
		nil, {}, loads(1, 0, 0), loads(32000, 200, 400), loads(32000, -200, 400), loads(1, -200, 0), loads(1, 200, 0), loads(1, 0, 400),
		loads(2, 199, 1), loads(31999, -199, 399), manyLoads(20, impl.Load{Weight: 1}), manyLoads(19, impl.Load{Weight: 32000, Across: 7}),
		manyLoads(20, impl.Load{Weight: 32000, Across: 200, Height: 400}), loads(5, 3, 4, 5, 3, 4), loads(7, 0, 1, 6, -5, 4, 3, 2, 0),
	} {
		if !areLoadsByRule(list) {
			t.Errorf("%v is no valid list", list)
		}
		wantWeighed(t, list)
		wantHeights(t, list, 1, 0, 400)
		wantBallast(t, list, 7, 30, ballastByTrying(list, 7, 30))
	}
	for _, list := range append(smallLoads(2), loadSamples(313, 2000)...) {
		wantWeighed(t, list)
	}
}

func TestInvalidLoadsYieldNothing(t *testing.T) {
	for name, list := range badLoadLists() {
		if areLoadsByRule(list) {
			t.Errorf("%s: %v is no invalid list", name, list)
		}
		wantNothingLoaded(t, list)
	}
}

func TestListsOfAllLengths(t *testing.T) {
	for count := range 45 {
		list := manyLoads(count, impl.Load{Weight: 3, Across: -7, Height: 11})
		if count <= 20 {
			wantWeighed(t, list)
			wantMoments(t, list, 3*count, -21*count, 33*count)
			wantBallast(t, list, 7, 1000, 3*count)
		} else {
			wantNothingLoaded(t, list)
		}
	}
}

// Every number in and around its range, at the beginning, in the middle and at the end.
func TestLoadsWithEveryNumberAtEveryPlace(t *testing.T) {
	numbers := append(outsideOf(1, 32000), 0, 1, 2, 400, 401, 31999, 32000)
	for n := -210; n <= 410; n++ {
		numbers = append(numbers, n)
	}
	valid, invalid := 0, 0
	for _, n := range numbers {
		for place := range 3 {
			for field := range 3 {
				list := loads(9, -8, 7, 6, 5, 4, 3, -2, 1)
				*[]*int{&list[place].Weight, &list[place].Across, &list[place].Height}[field] = n
				if areLoadsByRule(list) {
					valid++
					wantMoments(t, list, weightsOf(list), acrossOf(list), upOf(list))
					wantMirror(t, list, mirrorByHand(list))
				} else {
					invalid++
					wantNothingLoaded(t, list)
				}
			}
		}
	}
	if valid < 3*(410+401+401) || invalid < 3*(210+200+200) {
		t.Errorf("%d lists are valid and %d are not", valid, invalid)
	}
}

func TestLoadMoments(t *testing.T) {
	wantMoments(t, nil, 0, 0, 0)
	wantMoments(t, loads(1000, 50, 20), 1000, 50000, 20000)
	wantMoments(t, loads(1000, 50, 20, 3000, -10, 40), 4000, 20000, 140000)
	wantMoments(t, loads(1000, -50, 20, 3000, 10, 40), 4000, -20000, 140000)
	wantMoments(t, loads(7, 0, 0), 7, 0, 0)
	// Moments of 0 of loads that are not in the middle.
	wantMoments(t, loads(10, 5, 3, 5, -10, 6), 15, 0, 60)
	wantMoments(t, loads(2, 100, 0, 1, -200, 0), 3, 0, 0)
	wantMoments(t, loads(1, 1, 1, 1, -1, 1, 1, 0, 1), 3, 0, 3)
	// The greatest numbers that are allowed.
	wantMoments(t, manyLoads(20, impl.Load{Weight: 32000, Across: 200, Height: 400}), 640000, 128000000, 256000000)
	wantMoments(t, manyLoads(20, impl.Load{Weight: 32000, Across: -200, Height: 400}), 640000, -128000000, 256000000)
}

// The moments do not depend on the order, and those of two lists together are the sums.
func TestMomentsAreSums(t *testing.T) {
	next := dice(317)
	for _, list := range loadSamples(331, 1000) {
		cut := next(len(list) + 1)
		a, b, c, _ := impl.LoadMoments(list[:cut])
		d, e, f, _ := impl.LoadMoments(list[cut:])
		wantMoments(t, list, a+d, b+e, c+f)
		turned := slices.Concat(list[cut:], list[:cut])
		wantMoments(t, turned, a+d, b+e, c+f)
		slices.Reverse(turned)
		wantMoments(t, turned, a+d, b+e, c+f)
	}
}

func TestCenterAcross(t *testing.T) {
	wantNoCenterAcross(t, nil)
	wantNoCenterAcross(t, []impl.Load{})
	// Whole numbers.
	wantCenterAcross(t, loads(1000, 50, 20, 3000, -10, 40), 5, 1)
	wantCenterAcross(t, loads(1000, -50, 20, 3000, 10, 40), -5, 1)
	wantCenterAcross(t, loads(1, 200, 0), 200, 1)
	wantCenterAcross(t, loads(32000, -200, 0), -200, 1)
	wantCenterAcross(t, loads(1, 1, 0), 1, 1)
	wantCenterAcross(t, loads(6, 5, 0, 6, 7, 0), 6, 1)
	// Moments of 0.
	wantCenterAcross(t, loads(1, 0, 0), 0, 1)
	wantCenterAcross(t, loads(32000, 0, 400, 12, 0, 7), 0, 1)
	wantCenterAcross(t, loads(10, 5, 3, 5, -10, 6), 0, 1)
	wantCenterAcross(t, loads(31999, 200, 3, 31999, -200, 6), 0, 1)
	// Fractions that can be reduced, and others.
	wantCenterAcross(t, loads(2, 1, 0, 2, 0, 0), 1, 2)
	wantCenterAcross(t, loads(2, -1, 0, 2, 0, 0), -1, 2)
	wantCenterAcross(t, loads(6, 5, 0, 4, 0, 0), 3, 1)
	wantCenterAcross(t, loads(6, 5, 0, 6, 0, 0), 5, 2)
	wantCenterAcross(t, loads(6, -5, 0, 3, 0, 0, 3, 0, 0), -5, 2)
	wantCenterAcross(t, loads(1, 1, 0, 2, 0, 0), 1, 3)
	wantCenterAcross(t, loads(1, -1, 0, 2, 0, 0), -1, 3)
	wantCenterAcross(t, loads(4, 9, 0, 5, 9, 0, 6, 0, 0), 27, 5)
	wantCenterAcross(t, loads(17, 199, 0, 1, 0, 0), 3383, 18)
	wantCenterAcross(t, loads(17, -199, 0, 1, 0, 0), -3383, 18)
	wantCenterAcross(t, loads(1, 1, 0, 31999, 0, 0), 1, 32000)
	// The greatest numbers that are allowed.
	greatest := manyLoads(20, impl.Load{Weight: 32000, Across: 200, Height: 400})
	wantCenterAcross(t, greatest, 200, 1)
	wantCenterAcross(t, mirrorByHand(greatest), -200, 1)
	greatest[7].Across = 199
	wantCenterAcross(t, greatest, 3999, 20)
	greatest[7].Weight = 31999
	wantCenterAcross(t, greatest, 32000*200*19+31999*199, 639999)
	wantCenterAcross(t, mirrorByHand(greatest), -32000*200*19-31999*199, 639999)
}

// The center is compared with a fraction that divides by every common divisor.
func TestCentersAreReduced(t *testing.T) {
	zero, one, others := 0, 0, 0
	for _, list := range smallLoads(3)[1:] {
		num, den := acrossOf(list), weightsOf(list)
		for divisor := 9; divisor > 1; divisor-- {
			for num%divisor == 0 && den%divisor == 0 {
				num, den = num/divisor, den/divisor
			}
		}
		wantCenterAcross(t, list, num, den)
		switch {
		case num == 0:
			zero++
		case den == 1:
			one++
		default:
			others++
		}
	}
	if zero < 100 || one < 100 || others < 100 {
		t.Errorf("%d centers are 0, %d other ones whole and %d not", zero, one, others)
	}
}

func TestCenterHeight(t *testing.T) {
	l := loads(1000, 50, 20, 3000, -10, 40)
	wantCenterHeight(t, l, 6000, 10, 20, 1)
	wantCenterHeight(t, l, 6000, 0, 14, 1)
	wantCenterHeight(t, l, 4000, 0, 35, 2)
	wantCenterHeight(t, l, 1, 0, 140000, 4001)
	wantCenterHeight(t, l, 1, 400, 140400, 4001)
	wantCenterHeight(t, l, 10000000, 0, 35, 2501)
	// Without loads the center stays where it is.
	for _, height := range []int{0, 1, 7, 399, 400} {
		for _, ship := range []int{1, 2, 12, 9999999, 10000000} {
			wantCenterHeight(t, nil, ship, height, height, 1)
			wantCenterHeight(t, loads(5, 3, height), ship, height, height, 1)
		}
	}
	// Everything on the keel.
	wantCenterHeight(t, loads(5, 3, 0, 32000, -100, 0), 77, 0, 0, 1)
	// Fractions that can be reduced, and others.
	wantCenterHeight(t, loads(2, 0, 1), 2, 0, 1, 2)
	wantCenterHeight(t, loads(2, 0, 0), 4, 1, 2, 3)
	wantCenterHeight(t, loads(3, 0, 10), 3, 5, 15, 2)
	wantCenterHeight(t, loads(3, 0, 10), 2, 5, 8, 1)
	wantCenterHeight(t, loads(32000, 0, 400), 1, 0, 12800000, 32001)
	// The greatest numbers that are allowed.
	greatest := manyLoads(20, impl.Load{Weight: 32000, Across: 200, Height: 400})
	wantCenterHeight(t, greatest, 10000000, 400, 400, 1)
	wantCenterHeight(t, greatest, 10000000, 0, 3200, 133)
	wantCenterHeight(t, greatest, 10000000, 399, 53075, 133)
	greatest[11].Weight = 31999
	wantCenterHeight(t, greatest, 10000000, 399, 399*10000000+400*639999, 10639999)
}

func TestNumbersOutOfRangeOfTheShip(t *testing.T) {
	for _, list := range [][]impl.Load{nil, loads(1000, 50, 20, 3000, -10, 40), manyLoads(20, impl.Load{Weight: 32000, Height: 400})} {
		for _, ship := range outsideOf(1, 10000000) {
			for _, height := range []int{0, 10, 400} {
				wantNoCenterHeight(t, list, ship, height)
				wantNoMargin(t, list, ship, height, 30)
			}
		}
		for _, n := range outsideOf(0, 400) {
			for _, ship := range []int{1, 6000, 10000000} {
				wantNoCenterHeight(t, list, ship, n)
				wantNoMargin(t, list, ship, n, 30)
				wantNoMargin(t, list, ship, 10, n)
				wantNoMargin(t, list, ship, n, n)
			}
			wantNoMargin(t, list, 0, n, n)
		}
	}
}

func TestStabilityMargin(t *testing.T) {
	l := loads(1000, 50, 20, 3000, -10, 40)
	wantMargin(t, l, 6000, 10, 30, 10, 1)
	wantMargin(t, l, 6000, 10, 400, 380, 1)
	// A margin of 0 and negative ones.
	wantMargin(t, l, 6000, 10, 20, 0, 1)
	wantMargin(t, l, 6000, 10, 19, -1, 1)
	wantMargin(t, l, 6000, 10, 0, -20, 1)
	wantMargin(t, nil, 1, 0, 0, 0, 1)
	wantMargin(t, nil, 10000000, 400, 400, 0, 1)
	wantMargin(t, nil, 10000000, 400, 0, -400, 1)
	wantMargin(t, nil, 10000000, 0, 400, 400, 1)
	wantMargin(t, nil, 12, 7, 8, 1, 1)
	// Fractions.
	wantMargin(t, l, 4000, 0, 17, -1, 2)
	wantMargin(t, l, 4000, 0, 18, 1, 2)
	wantMargin(t, l, 4000, 0, 0, -35, 2)
	wantMargin(t, l, 1, 0, 400, 400*4001-140000, 4001)
	wantMargin(t, l, 1, 400, 0, -140400, 4001)
	wantMargin(t, loads(2, 0, 0), 4, 1, 1, 1, 3)
	wantMargin(t, loads(2, 0, 0), 4, 1, 0, -2, 3)
	// The greatest numbers that are allowed.
	greatest := manyLoads(20, impl.Load{Weight: 32000, Across: 200, Height: 400})
	wantMargin(t, greatest, 10000000, 400, 400, 0, 1)
	wantMargin(t, greatest, 10000000, 400, 0, -400, 1)
	wantMargin(t, greatest, 10000000, 0, 400, 50000, 133)
	greatest[11].Weight = 31999
	wantMargin(t, greatest, 10000000, 399, 400, 10000000, 10639999)
	wantMargin(t, greatest, 10000000, 399, 0, -399*10000000-400*639999, 10639999)
}

func TestCentersAndMarginsOfMixedShips(t *testing.T) {
	next := dice(337)
	for _, list := range append(smallLoads(2), loadSamples(347, 3000)...) {
		wantHeights(t, list, 1+next(10), next(5), next(5))
		wantHeights(t, list, 1+next(10000000), next(401), next(401))
		wantHeights(t, list, []int{1, 2, 9999999, 10000000}[next(4)], 400*next(2), 400*next(2))
	}
}

// Promise 11, its first part, with the answers of the program alone.
func TestTheMarginIsTheMetacenterMinusTheCenter(t *testing.T) {
	next := dice(349)
	negative, zero, positive := 0, 0, 0
	for _, list := range append(smallLoads(2), loadSamples(353, 3000)...) {
		ship, height, metacenter := 1+next(100000), next(401), next(401)
		if next(3) == 0 {
			ship, height, metacenter = 1+next(5), next(3), next(3)
		}
		num, den, ok := impl.CenterHeight(list, ship, height)
		a, b, fine := impl.StabilityMargin(list, ship, height, metacenter)
		if !ok || !fine || b != den || a+num != metacenter*den {
			t.Errorf("%v, %d, %d, %d: the center is %d / %d, %v, the margin %d / %d, %v", list, ship, height, metacenter, num, den, ok, a, b, fine)
		}
		switch {
		case a < 0:
			negative++
		case a == 0:
			zero++
		default:
			positive++
		}
	}
	if negative < 100 || zero < 20 || positive < 100 {
		t.Errorf("%d margins are negative, %d are 0 and %d positive", negative, zero, positive)
	}
}

func TestBallastFor(t *testing.T) {
	l := loads(1000, 50, 20, 3000, -10, 40)
	for _, list := range [][]impl.Load{l, mirrorByHand(l)} {
		wantBallast(t, list, 30, 10000, 667)
		wantBallast(t, list, 30, 100, 100)
		wantBallast(t, list, 30, 667, 667)
		wantBallast(t, list, 30, 666, 666)
		wantBallast(t, list, 30, 668, 667)
		wantBallast(t, list, 30, 0, 0)
		wantBallast(t, list, 7, 1000000, 2857)
		wantBallast(t, list, 1, 1000000, 20000)
		wantBallast(t, list, 200, 1000000, 100)
		wantBallast(t, list, 199, 1000000, 101)
		// Ballast that exactly takes the moment away.
		wantBallast(t, list, 20, 1000, 1000)
		wantBallast(t, list, 20, 999, 999)
		wantBallast(t, list, 20, 1001, 1000)
		wantBallast(t, list, 20, 1000000, 1000)
	}
}

func TestBallastForTheMomentZero(t *testing.T) {
	for _, list := range [][]impl.Load{
		nil, {}, loads(1, 0, 0), loads(32000, 0, 400, 7, 0, 3), loads(10, 5, 3, 5, -10, 6), loads(1, 200, 0, 1, -200, 0),
		manyLoads(20, impl.Load{Weight: 32000, Height: 400}),
	} {
		for _, arm := range []int{1, 2, 3, 100, 199, 200} {
			for _, most := range []int{0, 1, 2, 50, 999999, 1000000} {
				wantBallast(t, list, arm, most, 0)
			}
		}
	}
}

// Two weights are equally good where the rest is half of the arm.
func TestBallastBetweenTwoWeights(t *testing.T) {
	for _, sign := range []int{1, -1} {
		wantBallast(t, loads(1, 5*sign, 0), 10, 100, 0)
		wantBallast(t, loads(1, 4*sign, 0), 10, 100, 0)
		wantBallast(t, loads(1, 6*sign, 0), 10, 100, 1)
		wantBallast(t, loads(1, 6*sign, 0), 10, 1, 1)
		wantBallast(t, loads(1, 6*sign, 0), 10, 0, 0)
		wantBallast(t, loads(1, 15*sign, 0), 10, 100, 1)
		wantBallast(t, loads(1, 14*sign, 0), 10, 100, 1)
		wantBallast(t, loads(1, 16*sign, 0), 10, 100, 2)
		wantBallast(t, loads(1, 16*sign, 0), 10, 1, 1)
		wantBallast(t, loads(1, 100*sign, 0), 200, 100, 0)
		wantBallast(t, loads(1, 101*sign, 0), 200, 100, 1)
		wantBallast(t, loads(1, 99*sign, 0), 200, 100, 0)
		wantBallast(t, loads(3, 100*sign, 0), 200, 100, 1)
		wantBallast(t, loads(1, 1*sign, 0), 2, 100, 0)
		wantBallast(t, loads(1, 3*sign, 0), 2, 100, 1)
		// With an odd arm no two are.
		wantBallast(t, loads(1, 1*sign, 0), 3, 100, 0)
		wantBallast(t, loads(1, 2*sign, 0), 3, 100, 1)
		wantBallast(t, loads(1, 100*sign, 0), 199, 100, 1)
		wantBallast(t, loads(1, 99*sign, 0), 199, 100, 0)
		wantBallast(t, loads(1, 1*sign, 0), 1, 100, 1)
	}
}

func TestBallastAtItsLimit(t *testing.T) {
	exact, more := loads(5000, 200, 0), loads(5000, 200, 0, 1, 1, 0)
	greatest := manyLoads(20, impl.Load{Weight: 32000, Across: 200, Height: 400})
	for _, turn := range []func(list []impl.Load) []impl.Load{slices.Clone[[]impl.Load], mirrorByHand} {
		wantBallast(t, turn(exact), 1, 1000000, 1000000)
		wantBallast(t, turn(exact), 1, 999999, 999999)
		wantBallast(t, turn(more), 1, 1000000, 1000000)
		wantBallast(t, turn(greatest), 1, 1000000, 1000000)
		wantBallast(t, turn(greatest), 1, 0, 0)
		wantBallast(t, turn(greatest), 1, 1, 1)
		wantBallast(t, turn(greatest), 127, 1000000, 1000000)
		wantBallast(t, turn(greatest), 128, 1000000, 1000000)
		wantBallast(t, turn(greatest), 128, 999999, 999999)
		wantBallast(t, turn(greatest), 129, 1000000, 992248)
		wantBallast(t, turn(greatest), 200, 1000000, 640000)
		wantBallast(t, turn(greatest), 200, 639999, 639999)
		wantBallast(t, turn(greatest), 200, 640001, 640000)
		// The next weight is equally good, or better and not allowed.
		wantBallast(t, turn(loads(1, 200, 0, 1, 100, 0)), 200, 1, 1)
		wantBallast(t, turn(loads(1, 200, 0, 1, 101, 0)), 200, 1, 1)
		wantBallast(t, turn(loads(1, 200, 0, 1, 101, 0)), 200, 2, 2)
		wantBallast(t, turn(loads(1, 200, 0, 1, 100, 0)), 200, 2, 1)
	}
}

func TestBallastOutOfRange(t *testing.T) {
	for _, list := range [][]impl.Load{nil, loads(1, 0, 0), loads(1000, 50, 20, 3000, -10, 40), loads(32000, -200, 0)} {
		for _, arm := range outsideOf(1, 200) {
			for _, most := range []int{0, 1, 1000000, -1, 1000001} {
				wantNoBallast(t, list, arm, most)
			}
		}
		for _, most := range outsideOf(0, 1000000) {
			for _, arm := range []int{1, 30, 200, 0, 201} {
				wantNoBallast(t, list, arm, most)
			}
		}
	}
}

func TestBallastOfAllSmallLoads(t *testing.T) {
	ties, limited := 0, 0
	for _, list := range smallLoads(3) {
		for _, arm := range []int{1, 2, 3, 4, 5, 6, 10, 200} {
			for _, most := range []int{0, 1, 2, 3, 20} {
				want := ballastByTrying(list, arm, most)
				wantBallast(t, list, arm, most, want)
				moment := acrossOf(list)
				switch change := momentWith(moment, arm, want+1) - momentWith(moment, arm, want); {
				case change == 0 && moment != 0:
					ties++
				case change < 0:
					limited++
				}
			}
		}
	}
	if ties < 1000 || limited < 1000 {
		t.Errorf("two weights are equally good %d times, and a greater weight is better %d times", ties, limited)
	}
}

func TestBallastOfMixedLoads(t *testing.T) {
	next := dice(359)
	for _, list := range loadSamples(367, 2000) {
		arm, most := 1+next(200), next(1500)
		wantBallast(t, list, arm, most, ballastByTrying(list, arm, most))
		arm, most = 200-next(9), 1000-next(9)
		wantBallast(t, list, arm, most, ballastByTrying(list, arm, most))
	}
	// All weights that are allowed.
	for _, list := range loadSamples(373, 12) {
		for _, arm := range []int{1, 2, 1 + next(200), 200} {
			wantBallast(t, list, arm, 1000000, ballastByTrying(list, arm, 1000000))
		}
	}
}

// withBallast has the ballast as loads, opposite to the moment across.
func withBallast(list []impl.Load, arm int, weight int) []impl.Load {
	if acrossOf(list) > 0 {
		arm = -arm
	}
	other := slices.Clone(list)
	for weight > 0 {
		part := min(weight, 32000)
		other = append(other, impl.Load{Weight: part, Across: arm})
		weight -= part
	}
	return other
}

// Promise 11, its second part, with the answers of the program alone: the ballast is loaded.
func TestOneKilogramOfBallastMoreIsNeverBetter(t *testing.T) {
	next := dice(379)
	exact, ties, limited := 0, 0, 0
	for _, list := range append(smallLoads(2), loadSamples(383, 6000)...) {
		if len(list) > 12 {
			continue
		}
		arm, most := 1+next(200), next(250000)
		if next(2) == 0 {
			arm, most = 2*(1+next(9)), next(30)
		}
		weight, ok := impl.BallastFor(list, arm, most)
		if !ok || weight < 0 || weight > most {
			t.Fatalf("BallastFor of %v, %d, %d = %d, %v", list, arm, most, weight, ok)
		}
		left := func(weight int) int {
			_, across, _, ok := impl.LoadMoments(withBallast(list, arm, weight))
			if !ok {
				t.Fatalf("LoadMoments of %v fails", withBallast(list, arm, weight))
			}
			return withoutSign(across)
		}
		if weight < most && left(weight+1) < left(weight) {
			t.Errorf("%v, %d, %d: one kilogram more than %d is better", list, arm, most, weight)
		}
		if weight > 0 && left(weight-1) <= left(weight) {
			t.Errorf("%v, %d, %d: one kilogram less than %d is not worse", list, arm, most, weight)
		}
		switch {
		case weight > 0 && left(weight) == 0:
			exact++
		case left(weight+1) == left(weight):
			ties++
		case weight == most && left(weight+1) < left(weight):
			limited++
		}
	}
	if exact < 50 || ties < 50 || limited < 500 {
		t.Errorf("%d moments are taken away, %d times two weights are equally good, and %d times there is too little", exact, ties, limited)
	}
}

func TestBestSwap(t *testing.T) {
	// Fewer than two loads.
	wantNoSwap(t, nil)
	wantNoSwap(t, []impl.Load{})
	wantNoSwap(t, loads(1000, 50, 20))
	wantNoSwap(t, loads(1, 0, 0))
	// The only swap, although it makes the moment greater.
	wantSwap(t, loads(1000, 50, 20, 3000, -10, 40), 0, 1, 140000)
	wantSwap(t, loads(1000, -50, 20, 3000, 10, 40), 0, 1, 140000)
	wantSwap(t, loads(3000, 50, 20, 1000, -10, 40), 0, 1, 20000)
	wantSwap(t, loads(32000, 200, 0, 1, -200, 0), 0, 1, 31999*200)
	// It takes the moment away, or makes it smaller.
	wantSwap(t, loadsAcross(1, 3, 2, -3, 1, 0), 1, 2, 0)
	wantSwap(t, loadsAcross(2, 3, 1, 0), 0, 1, 3)
	wantSwap(t, loadsAcross(3, 1, 1, -1), 0, 1, 2)
	wantSwap(t, loadsAcross(4, 3, 2, -3, 1, 0), 0, 2, 3)
	// It changes the sign of the moment.
	wantSwap(t, loadsAcross(5, 3, 2, -3), 0, 1, 9)
	wantSwap(t, loadsAcross(2, 2, 4, 1, 1, -5), 0, 2, 4)
	wantSwap(t, loadsAcross(2, -2, 4, -1, 1, 5), 0, 2, 4)
	// Two equal loads, equal weights and equal places.
	wantSwap(t, loads(7, 3, 1, 7, 3, 1), 0, 1, 42)
	wantSwap(t, loads(7, 3, 1, 7, -5, 2), 0, 1, 14)
	wantSwap(t, loads(7, 3, 1, 2, 3, 1), 0, 1, 27)
	wantSwap(t, loads(7, -3, 1, 2, -3, 9), 0, 1, 27)
	wantSwap(t, loads(7, 0, 1, 2, 0, 9), 0, 1, 0)
	// The heights do not count.
	wantSwap(t, loads(1, 3, 400, 2, -3, 0, 1, 0, 17), 1, 2, 0)
	wantSwap(t, loads(1, 3, 0, 2, -3, 400, 1, 0, 0), 1, 2, 0)
}

func TestBestSwapOfSeveral(t *testing.T) {
	// The lexicographically smallest pair.
	wantSwap(t, loadsAcross(5, 5, 5, 5, 5, 5), 0, 1, 75)
	wantSwap(t, manyLoads(20, impl.Load{Weight: 32000, Across: 200, Height: 400}), 0, 1, 128000000)
	wantSwap(t, manyLoads(20, impl.Load{Weight: 32000, Across: -200, Height: 400}), 0, 1, 128000000)
	wantSwap(t, manyLoads(20, impl.Load{Weight: 1}), 0, 1, 0)
	wantSwap(t, loadsAcross(1, -2, 1, -1, 2, 2, 2, 1), 0, 3, 0)
	wantSwap(t, loadsAcross(1, -2, 1, 1, 2, 2, 2, -1), 0, 3, 0)
	wantSwap(t, loadsAcross(1, -2, 1, -1, 3, 2, 3, 1), 0, 3, 0)
	wantSwap(t, loadsAcross(3, -2, 1, 2, 1, 2), 1, 2, 2)
	wantSwap(t, loadsAcross(1, 2, 1, 2, 3, -2), 0, 1, 2)
	wantSwap(t, loadsAcross(1, 2, 3, -2, 1, 2), 0, 2, 2)
	// Every swap makes the moment greater.
	wantSwap(t, loadsAcross(1, -2, 2, 2, 3, -1), 1, 2, 2)
	wantSwap(t, loadsAcross(1, 2, 2, -2, 3, 1), 1, 2, 2)
	wantSwap(t, loadsAcross(2, 1, 1, -2, 7, 0), 0, 1, 3)
	wantSwap(t, loadsAcross(1, 100, 2, -50), 0, 1, 150)
	// The first and the last, and the last two of all that are allowed.
	list := manyLoads(20, impl.Load{Weight: 10, Across: 10})
	list[19] = impl.Load{Weight: 100, Across: 20}
	wantSwap(t, list, 0, 19, 19*100+2000-900)
	list[18], list[19] = impl.Load{Weight: 1, Across: -100}, impl.Load{Weight: 10, Across: 100}
	wantSwap(t, list, 18, 19, 1800+100-1000)
	wantSwapOfAll(t, list)
}

func TestBestSwapOfAllSmallLoads(t *testing.T) {
	ties, better, greater := 0, 0, 0
	for _, list := range smallLoads(3) {
		if wantSwapOfAll(t, list) > 1 {
			ties++
		}
		_, moment, ok := impl.BestSwap(list)
		switch before := withoutSign(acrossOf(list)); {
		case ok && moment < before:
			better++
		case ok && moment > before:
			greater++
		}
	}
	if ties < 500 || better < 500 || greater < 100 {
		t.Errorf("%d lists have several best swaps, %d become better and %d worse", ties, better, greater)
	}
}

// No swap is better than the best one, whose number is that of the swapped list.
func TestNoSwapIsBetterThanTheBest(t *testing.T) {
	for _, list := range loadSamples(389, 3000) {
		wantSwapOfAll(t, list)
		pair, moment, ok := impl.BestSwap(list)
		if ok != (len(list) >= 2) {
			t.Errorf("BestSwap of %v = %v, %d, %v", list, pair, moment, ok)
		}
		if !ok {
			continue
		}
		_, across, _, fine := impl.LoadMoments(swappedPlaces(list, pair[0], pair[1]))
		if !fine || withoutSign(across) != moment || pair[0] >= pair[1] {
			t.Errorf("BestSwap of %v = %v, %d, but the moment becomes %d", list, pair, moment, across)
		}
		for k := range list {
			for i := range k {
				if _, other, _, _ := impl.LoadMoments(swappedPlaces(list, i, k)); withoutSign(other) < moment {
					t.Errorf("BestSwap of %v = %v, %d, but %d, %d has %d", list, pair, moment, i, k, other)
				}
			}
		}
	}
}

func TestMirrorLoads(t *testing.T) {
	wantMirror(t, nil, nil)
	wantMirror(t, []impl.Load{}, nil)
	wantMirror(t, loads(1000, 50, 20, 3000, -10, 40), loads(1000, -50, 20, 3000, 10, 40))
	wantMirror(t, loads(1, 200, 0, 2, -200, 400), loads(1, -200, 0, 2, 200, 400))
	wantMirror(t, loads(3, 1, 5, 3, -1, 5), loads(3, -1, 5, 3, 1, 5))
	// Loads in the middle stay.
	wantMirror(t, loads(7, 0, 9), loads(7, 0, 9))
	wantMirror(t, loads(7, 0, 9, 8, 1, 10, 9, 0, 11), loads(7, 0, 9, 8, -1, 10, 9, 0, 11))
	for n := -200; n <= 200; n++ {
		wantMirror(t, loads(n+201, n, n+200), loads(n+201, -n, n+200))
	}
	wantMirror(t, manyLoads(20, impl.Load{Weight: 32000, Across: 200, Height: 400}), manyLoads(20, impl.Load{Weight: 32000, Across: -200, Height: 400}))
}

// The mirror of the mirror is the list, the center across changes its sign, and the rest stays.
func TestTheMirrorChangesSidesOnly(t *testing.T) {
	next := dice(397)
	for _, list := range append(smallLoads(2), loadSamples(401, 2000)...) {
		mirror, ok := impl.MirrorLoads(list)
		if !ok || !impl.IsValidLoads(mirror) {
			t.Fatalf("MirrorLoads of %v = %v, %v", list, mirror, ok)
		}
		wantMirror(t, mirror, list)
		weight, across, up, _ := impl.LoadMoments(list)
		wantMoments(t, mirror, weight, -across, up)
		if num, den, ok := impl.CenterAcross(list); ok {
			wantCenterAcross(t, mirror, -num, den)
		}
		ship, height, arm := 1+next(100000), next(401), 1+next(200)
		num, den, _ := impl.CenterHeight(list, ship, height)
		wantCenterHeight(t, mirror, ship, height, num, den)
		ballast, _ := impl.BallastFor(list, arm, 100*height)
		wantBallast(t, mirror, arm, 100*height, ballast)
		if pair, moment, ok := impl.BestSwap(list); ok {
			wantSwap(t, mirror, pair[0], pair[1], moment)
		}
		above, _ := impl.WeightAbove(list, height)
		wantAbove(t, mirror, height, above)
		upright, _ := impl.IsUpright(list, arm)
		wantUpright(t, mirror, arm, upright)
	}
}

func TestWeightAbove(t *testing.T) {
	l := loads(1000, 50, 20, 3000, -10, 40)
	wantAbove(t, l, 0, 4000)
	wantAbove(t, l, 19, 4000)
	wantAbove(t, l, 20, 3000)
	wantAbove(t, l, 21, 3000)
	wantAbove(t, l, 39, 3000)
	wantAbove(t, l, 40, 0)
	wantAbove(t, l, 41, 0)
	wantAbove(t, l, 400, 0)
	wantAbove(t, loads(5, 0, 0, 6, 0, 1, 7, 0, 400), 0, 13)
	wantAbove(t, loads(5, 0, 0, 6, 0, 1, 7, 0, 400), 1, 7)
	wantAbove(t, loads(5, 0, 0, 6, 0, 1, 7, 0, 400), 399, 7)
	wantAbove(t, loads(5, 0, 0, 6, 0, 1, 7, 0, 400), 400, 0)
	wantAbove(t, loads(5, 0, 8, 6, 0, 8, 7, 0, 8), 8, 0)
	wantAbove(t, loads(5, 0, 8, 6, 0, 8, 7, 0, 8), 7, 18)
	wantAbove(t, manyLoads(20, impl.Load{Weight: 32000, Across: 200, Height: 400}), 399, 640000)
	for height := range 401 {
		wantAbove(t, nil, height, 0)
		wantAbove(t, loads(9, -1, 200), height, aboveByTaking(loads(9, -1, 200), height))
	}
	for _, height := range outsideOf(0, 400) {
		wantNoAbove(t, nil, height)
		wantNoAbove(t, l, height)
		wantNoAbove(t, loads(1, 0, 0, 1, 0, 400), height)
	}
}

// What is above a height, and by how much at every height, is the moment up.
func TestWeightsAboveAllHeightsAreTheMomentUp(t *testing.T) {
	for _, list := range loadSamples(409, 300) {
		sum := 0
		for height := range 401 {
			weight, ok := impl.WeightAbove(list, height)
			if !ok {
				t.Fatalf("WeightAbove of %v, %d fails", list, height)
			}
			sum += weight
		}
		wantMoments(t, list, weightsOf(list), acrossOf(list), sum)
	}
}

func TestIsUpright(t *testing.T) {
	l := loads(1000, 50, 20, 3000, -10, 40)
	for _, list := range [][]impl.Load{l, mirrorByHand(l)} {
		wantUpright(t, list, 5, true)
		wantUpright(t, list, 4, false)
		wantUpright(t, list, 6, true)
		wantUpright(t, list, 0, false)
		wantUpright(t, list, 200, true)
	}
	// An absolute value exactly at the limit, a bit less and a bit more, on both sides.
	for _, sign := range []int{1, -1} {
		for limit := 1; limit < 200; limit++ {
			wantUpright(t, loads(7, sign*limit, 0), limit, true)
			wantUpright(t, loads(7, sign*limit, 0), limit-1, false)
			wantUpright(t, loads(31999, sign*limit, 0, 1, sign*(limit+1), 0), limit, false)
			wantUpright(t, loads(31999, sign*limit, 0, 1, sign*(limit-1), 0), limit, true)
			wantUpright(t, loads(31999, sign*limit, 0, 1, sign*(limit-1), 0), limit-1, false)
			wantUpright(t, loads(5, sign*(limit+1), 0, 5, sign*(limit-1), 0), limit, true)
		}
		wantUpright(t, loads(32000, sign*200, 0), 200, true)
		wantUpright(t, loads(32000, sign*200, 0), 199, false)
		wantUpright(t, loads(1, sign, 0), 0, false)
		wantUpright(t, loads(1, sign, 0, 32000, 0, 0), 0, false)
		wantUpright(t, loads(1, sign, 0, 32000, 0, 0), 1, true)
	}
	// No load, and moments of 0.
	for limit := range 201 {
		wantUpright(t, nil, limit, true)
		wantUpright(t, []impl.Load{}, limit, true)
		wantUpright(t, loads(9, 0, 4), limit, true)
		wantUpright(t, loads(10, 5, 3, 5, -10, 6), limit, true)
	}
	greatest := manyLoads(20, impl.Load{Weight: 32000, Across: 200, Height: 400})
	wantUpright(t, greatest, 200, true)
	wantUpright(t, greatest, 199, false)
	for _, limit := range outsideOf(0, 200) {
		for _, list := range [][]impl.Load{nil, {}, loads(9, 0, 4), l, greatest} {
			wantNoUpright(t, list, limit)
		}
	}
}

// A list is upright exactly from the first whole number on that its center does not exceed.
func TestIsUprightAtAllLimits(t *testing.T) {
	for _, list := range append(smallLoads(2), loadSamples(419, 300)...) {
		num, den, ok := impl.CenterAcross(list)
		for limit := range 201 {
			wantUpright(t, list, limit, !ok || withoutSign(num) <= limit*den)
		}
	}
}

// loadAnswers has what every function of chapter 11 says.
func loadAnswers(list []impl.Load) []string {
	var all []string
	add := func(parts ...any) { all = append(all, fmt.Sprintln(parts...)) }
	add("valid", impl.IsValidLoads(list))
	weight, across, up, ok := impl.LoadMoments(list)
	add("moments", weight, across, up, ok)
	num, den, ok := impl.CenterAcross(list)
	add("across", num, den, ok)
	pair, moment, ok := impl.BestSwap(list)
	add("swap", pair, moment, ok)
	mirror, ok := impl.MirrorLoads(list)
	add("mirror", mirror, ok)
	for _, n := range []int{-1, 0, 1, 7, 200, 201, 400, 401} {
		num, den, ok := impl.CenterHeight(list, 1000*n, 20)
		add("height", n, num, den, ok)
		num, den, ok = impl.StabilityMargin(list, 5000, n, 30)
		add("margin", n, num, den, ok)
		ballast, ok := impl.BallastFor(list, n, 1000)
		add("ballast", n, ballast, ok)
		above, ok := impl.WeightAbove(list, n)
		add("above", n, above, ok)
		upright, ok := impl.IsUpright(list, n)
		add("upright", n, upright, ok)
	}
	return all
}

// Lists in arrays with something behind them are answered like separate ones, and none of them
// is changed.
func TestLoadsAreLeftAlone(t *testing.T) {
	for _, list := range append(smallLoads(2), loadSamples(421, 500)...) {
		want := loadAnswers(list)
		for _, filler := range []impl.Load{{}, {Weight: 1, Across: 1, Height: 1}, {Weight: 32000, Across: -200, Height: 400}, {Weight: -1}} {
			part, array := withRoom(list, filler)
			if got := loadAnswers(part); !slices.Equal(got, want) {
				t.Errorf("the answers about %v with %v behind are others", list, filler)
			}
			if !slices.Equal(array, append(slices.Clone(list), filler, filler, filler)) {
				t.Errorf("the list %v is changed to %v", list, array)
			}
		}
	}
	for name, list := range badLoadLists() {
		before := slices.Clone(list)
		loadAnswers(list)
		if !slices.Equal(list, before) {
			t.Errorf("%s: the list is changed", name)
		}
	}
}

// A result that is changed changes neither the list nor what is said later, and a changed list
// changes no result.
func TestResultsAboutLoadsAreNew(t *testing.T) {
	for _, list := range append(smallLoads(2), loadSamples(431, 500)...) {
		other := slices.Clone(list)
		want := loadAnswers(other)
		mirror, _ := impl.MirrorLoads(other)
		mirrorAgain, _ := impl.MirrorLoads(other)
		pair, _, _ := impl.BestSwap(other)
		pairAgain, _, _ := impl.BestSwap(other)
		if sharesElement(other, mirror, mirrorAgain) || sharesElement(pair, pairAgain) {
			t.Fatalf("results for %v share memory", list)
		}
		spoilAll(mirror, impl.Load{Weight: -7})
		spoil(pair)
		if got := loadAnswers(other); !slices.Equal(got, want) || !slices.Equal(other, list) {
			t.Fatalf("the answers about %v are others the second time", list)
		}
		pairWanted := slices.Clone(pairAgain)
		spoilAll(other, impl.Load{Weight: -7})
		if !slices.Equal(mirrorAgain, mirrorByHand(list)) || !slices.Equal(pairAgain, pairWanted) {
			t.Fatalf("a change of %v changes a result", list)
		}
	}
}
