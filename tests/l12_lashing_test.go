package tests

import (
	"fmt"
	"math"
	"slices"
	"testing"

	"loop.example/g00906/impl"
)

// lashedColumn is a column with the rules for it.
type lashedColumn struct {
	column []int
	x      impl.LashRules
}

func stacked(weights ...int) []int { return weights }

func lashRules(limit int, tilt int, strength int) impl.LashRules {
	return impl.LashRules{Limit: limit, Tilt: tilt, Strength: strength}
}

func equalWeights(count int, weight int) []int { return slices.Repeat([]int{weight}, count) }

// areWeightsByRule is an oracle.
func areWeightsByRule(weights []int) bool {
	return !slices.ContainsFunc(weights, func(n int) bool { return !isBetween(n, 1, 32000) })
}

// isColumnByRule is an oracle.
func isColumnByRule(column []int) bool { return areWeightsByRule(column) && len(column) < 5 }

// areLashRulesByRule is an oracle.
func areLashRulesByRule(x impl.LashRules) bool {
	return isBetween(x.Limit, 1, 200000) && isBetween(x.Tilt, 0, 100) && isBetween(x.Strength, 1, 100000)
}

// added is the sum of numbers, as an oracle.
func added(numbers []int) int {
	if len(numbers) == 0 {
		return 0
	}
	return numbers[0] + added(numbers[1:])
}

// forcesFromAbove adds the weights from the top, as an oracle.
func forcesFromAbove(column []int, x impl.LashRules) []int {
	forces, above := []int{}, 0
	for _, weight := range slices.Backward(column) {
		above += weight
		force := x.Tilt * above / 100
		if force*100 < x.Tilt*above {
			force++
		}
		forces = append([]int{force}, forces...)
	}
	return forces
}

// lashingsByCounting ties one lashing after the other until they hold, as an oracle.
func lashingsByCounting(column []int, x impl.LashRules) ([]int, bool) {
	needed := []int{}
	for _, force := range forcesFromAbove(column, x) {
		count := 0
		for count*x.Strength < force {
			count++
		}
		if count > 4 {
			return nil, false
		}
		needed = append(needed, count)
	}
	return needed, true
}

// ordersByInserting has all orders of the weights, those of equal weights several times.
func ordersByInserting(weights []int) [][]int {
	if len(weights) == 0 {
		return [][]int{{}}
	}
	var all [][]int
	for _, order := range ordersByInserting(weights[1:]) {
		for i := 0; i <= len(order); i++ {
			all = append(all, slices.Insert(slices.Clone(order), i, weights[0]))
		}
	}
	return all
}

// lightestOfAll compares all orders, as an oracle. It also returns how many different orders are
// best.
func lightestOfAll(column []int, x impl.LashRules) ([]int, int, int) {
	var all [][]int
	for _, order := range ordersByInserting(column) {
		all = append(all, append([]int{added(forcesFromAbove(order, x))}, order...))
	}
	slices.SortFunc(all, slices.Compare[[]int])
	all = slices.CompactFunc(all, slices.Equal[[]int])
	count := 0
	for _, order := range all {
		if order[0] == all[0][0] {
			count++
		}
	}
	return all[0][1:], all[0][0], count
}

// divided puts every weight into its column.
func divided(weights []int, n int, list []int) [][]int {
	columns := make([][]int, n)
	for i, c := range list {
		columns[c] = append(columns[c], weights[i])
	}
	return columns
}

func greatestSum(columns [][]int) int {
	greatest := 0
	for _, column := range columns {
		greatest = max(greatest, added(column))
	}
	return greatest
}

// divisionsOf has the lists of column numbers of all divisions, in lexicographic order.
func divisionsOf(count int, n int) [][]int {
	return slices.DeleteFunc(listsOf(count, n), func(list []int) bool {
		for c := range n {
			if len(list)-len(slices.DeleteFunc(slices.Clone(list), func(k int) bool { return k == c })) > 4 {
				return true
			}
		}
		return false
	})
}

// bestOfDivisions compares all divisions, as an oracle. It also returns how many are best.
func bestOfDivisions(weights []int, n int, lists [][]int) ([][]int, int, int) {
	var best []int
	smallest, count := 0, 0
	for _, list := range lists {
		sums := make([]int, n)
		for i, c := range list {
			sums[c] += weights[i]
		}
		greatest := slices.Max(sums)
		switch {
		case count == 0 || greatest < smallest:
			best, smallest, count = list, greatest, 1
		case greatest == smallest:
			count++
			if slices.Compare(list, best) < 0 {
				best = list
			}
		}
	}
	return divided(weights, n, best), smallest, count
}

// carries is an oracle for AddOnTop.
func carries(column []int, weight int, x impl.LashRules) bool {
	if len(column) > 3 || weight < 1 || weight > 32000 || added(column)+weight > x.Limit {
		return false
	}
	_, ok := lashingsByCounting(append(slices.Clone(column), weight), x)
	return ok
}

// roomByRest takes what the column has away from what it may have, as an oracle.
func roomByRest(column []int, x impl.LashRules) int {
	if len(column) == 4 {
		return 0
	}
	most := x.Limit
	if x.Tilt > 0 {
		most = min(most, 4*x.Strength*100/x.Tilt)
	}
	return min(max(most-added(column), 0), 32000)
}

// smallColumns has all columns of up to a number of some weights.
func smallColumns(most int, weights ...int) [][]int {
	var all [][]int
	for count := 0; count <= most; count++ {
		for _, list := range listsOf(count, len(weights)) {
			column := []int{}
			for _, i := range list {
				column = append(column, weights[i])
			}
			all = append(all, column)
		}
	}
	return all
}

// smallLashed has small columns with rules that change what they may do.
func smallLashed(most int) []lashedColumn {
	var all []lashedColumn
	for _, column := range smallColumns(most, 1, 2, 3, 50) {
		for _, limit := range []int{1, 5, 54, 200000} {
			for _, tilt := range []int{0, 1, 33, 50, 100} {
				for _, strength := range []int{1, 2, 100000} {
					all = append(all, lashedColumn{column, lashRules(limit, tilt, strength)})
				}
			}
		}
	}
	return all
}

// mixedWeights has small numbers, any numbers, numbers near each other or numbers at their
// limits.
func mixedWeights(next func(n int) int, count int) []int {
	weights, kind, base := []int{}, next(4), 1+next(31900)
	for range count {
		weights = append(weights, []int{1 + next(9), 1 + next(32000), base + next(3), []int{1, 2, 31999, 32000}[next(4)]}[kind])
	}
	return weights
}

// mixedLashed has columns with rules that they just keep, just break, or are far from.
func mixedLashed(next func(n int) int) lashedColumn {
	column := mixedWeights(next, next(5))
	x := lashRules(1+next(200000), next(101), 1+next(100000))
	if next(3) == 0 {
		x.Tilt = []int{0, 1, 50, 99, 100}[next(5)]
	}
	// The rules are near to those that allow some weight more.
	sum := added(column) + next(40000)
	if next(2) == 0 {
		x.Limit = max(1, sum-1+next(3))
	}
	if next(2) == 0 {
		x.Strength = min(max(1, x.Tilt*sum/(100*(1+next(5)))-1+next(3)), 100000)
	}
	return lashedColumn{column, x}
}

func lashedSamples(seed int, count int) []lashedColumn {
	next := dice(seed)
	var all []lashedColumn
	for range count {
		all = append(all, mixedLashed(next))
	}
	return all
}

// badColumns has columns that are not valid, and names for them.
func badColumns() map[string][]int {
	all := map[string][]int{
		"five":           {1, 2, 3, 4, 5},
		"five equal":     equalWeights(5, 32000),
		"six":            equalWeights(6, 1),
		"eight":          equalWeights(8, 1),
		"very many":      equalWeights(1<<16, 1),
		"five bad ones":  equalWeights(5, 0),
		"only zeros":     equalWeights(4, 0),
		"a sum of zero":  {5, -5},
		"a small sum":    {32001, -32000},
		"overflowing":    {math.MaxInt, math.MaxInt, 2},
		"both too great": {32001, 32001},
	}
	for _, n := range outsideOf(1, 32000) {
		all[fmt.Sprint("only ", n)] = []int{n}
		all[fmt.Sprint("first ", n)] = []int{n, 7, 9}
		all[fmt.Sprint("in the middle ", n)] = []int{7, n, 9}
		all[fmt.Sprint("last ", n)] = []int{7, 9, n}
		all[fmt.Sprint("last of four ", n)] = []int{7, 8, 9, n}
	}
	return all
}

// badLashRules has rules with one number out of range, and rules with several.
func badLashRules() []impl.LashRules {
	all := []impl.LashRules{{}, lashRules(-1, -1, -1), lashRules(200001, 101, 100001), lashRules(0, 0, 1), lashRules(1, 0, 0)}
	for _, n := range outsideOf(1, 200000) {
		all = append(all, lashRules(n, 15, 1000))
	}
	for _, n := range outsideOf(0, 100) {
		all = append(all, lashRules(20000, n, 1000))
	}
	for _, n := range outsideOf(1, 100000) {
		all = append(all, lashRules(20000, 15, n), lashRules(20000, 0, n))
	}
	return all
}

func wantColumnWeight(t *testing.T, column []int, x impl.LashRules, weight int, light bool) {
	t.Helper()
	if n, yes, ok := impl.ColumnWeight(column, x); !ok || n != weight || yes != light {
		t.Errorf("ColumnWeight of %v, %v = %d, %v, %v, want %d, %v", column, x, n, yes, ok, weight, light)
	}
}

func wantForces(t *testing.T, column []int, x impl.LashRules, want ...int) {
	t.Helper()
	if got, ok := impl.LashForces(column, x); !ok || !slices.Equal(got, want) {
		t.Errorf("LashForces of %v, %v = %v, %v, want %v", column, x, got, ok, want)
	}
}

func wantLashings(t *testing.T, column []int, x impl.LashRules, want ...int) {
	t.Helper()
	if got, ok := impl.LashingsNeeded(column, x); !ok || !slices.Equal(got, want) {
		t.Errorf("LashingsNeeded of %v, %v = %v, %v, want %v", column, x, got, ok, want)
	}
}

func wantNoLashings(t *testing.T, column []int, x impl.LashRules) {
	t.Helper()
	if got, ok := impl.LashingsNeeded(column, x); ok || len(got) != 0 {
		t.Errorf("LashingsNeeded of %.99s, %v = %v, %v", fmt.Sprint(column), x, got, ok)
	}
}

func wantHeavyFirst(t *testing.T, column []int, want ...int) {
	t.Helper()
	if got, ok := impl.HeavyFirst(column); !ok || !slices.Equal(got, want) {
		t.Errorf("HeavyFirst of %v = %v, %v, want %v", column, got, ok, want)
	}
}

func wantLightest(t *testing.T, column []int, x impl.LashRules, sum int, want ...int) {
	t.Helper()
	if got, n, ok := impl.LightestForce(column, x); !ok || n != sum || !slices.Equal(got, want) {
		t.Errorf("LightestForce of %v, %v = %v, %d, %v, want %v, %d", column, x, got, n, ok, want, sum)
	}
}

// wantDivided takes the columns as yardText shows stacks.
func wantDivided(t *testing.T, weights []int, n int, greatest int, columns string) {
	t.Helper()
	got, sum, ok := impl.SplitColumns(weights, n)
	if text := yardText(impl.Yard{Stacks: got}); !ok || sum != greatest || text != columns {
		t.Errorf("SplitColumns of %v, %d = %s, %d, %v, want %s, %d", weights, n, text, sum, ok, columns, greatest)
	}
}

func wantNotDivided(t *testing.T, weights []int, n int) {
	t.Helper()
	if got, sum, ok := impl.SplitColumns(weights, n); ok || sum != 0 || len(got) != 0 {
		t.Errorf("SplitColumns of %.99s, %d = %v, %d, %v", fmt.Sprint(weights), n, got, sum, ok)
	}
}

func wantOnTop(t *testing.T, column []int, weight int, x impl.LashRules) {
	t.Helper()
	got, ok := impl.AddOnTop(column, weight, x)
	if !ok || len(got) != len(column)+1 || !slices.Equal(got[:len(column)], column) || got[len(column)] != weight {
		t.Errorf("AddOnTop of %v, %d, %v = %v, %v", column, weight, x, got, ok)
	}
}

func wantNotOnTop(t *testing.T, column []int, weight int, x impl.LashRules) {
	t.Helper()
	if got, ok := impl.AddOnTop(column, weight, x); ok || len(got) != 0 {
		t.Errorf("AddOnTop of %.99s, %d, %v = %v, %v", fmt.Sprint(column), weight, x, got, ok)
	}
}

func wantRoom(t *testing.T, column []int, x impl.LashRules, want int) {
	t.Helper()
	if got, ok := impl.RoomFor(column, x); !ok || got != want {
		t.Errorf("RoomFor of %v, %v = %d, %v, want %d", column, x, got, ok, want)
	}
}

// wantLashed compares what the functions say of a column with the oracles.
func wantLashed(t *testing.T, c lashedColumn) {
	t.Helper()
	column, x := c.column, c.x
	if !impl.IsValidColumn(column) {
		t.Errorf("%v is not valid", column)
	}
	wantColumnWeight(t, column, x, added(column), added(column) <= x.Limit)
	wantForces(t, column, x, forcesFromAbove(column, x)...)
	if needed, ok := lashingsByCounting(column, x); ok {
		wantLashings(t, column, x, needed...)
	} else {
		wantNoLashings(t, column, x)
	}
	order, sum, _ := lightestOfAll(column, x)
	wantLightest(t, column, x, sum, order...)
	for _, weight := range []int{-1, 0, 1, 2, 17, 3000, 31999, 32000, 32001} {
		if carries(column, weight, x) {
			wantOnTop(t, column, weight, x)
		} else {
			wantNotOnTop(t, column, weight, x)
		}
	}
	wantRoom(t, column, x, roomByRest(column, x))
}

// wantNotLashed wants zero values of every function for an invalid column or invalid rules.
func wantNotLashed(t *testing.T, column []int, x impl.LashRules) {
	t.Helper()
	label := fmt.Sprintf("%.99s, %v", fmt.Sprint(column), x)
	if n, light, ok := impl.ColumnWeight(column, x); ok || light || n != 0 {
		t.Errorf("ColumnWeight of %s = %d, %v, %v", label, n, light, ok)
	}
	if forces, ok := impl.LashForces(column, x); ok || len(forces) != 0 {
		t.Errorf("LashForces of %s = %v, %v", label, forces, ok)
	}
	wantNoLashings(t, column, x)
	if order, sum, ok := impl.LightestForce(column, x); ok || sum != 0 || len(order) != 0 {
		t.Errorf("LightestForce of %s = %v, %d, %v", label, order, sum, ok)
	}
	for _, weight := range []int{-1, 0, 1, 1000, 32000, 32001} {
		wantNotOnTop(t, column, weight, x)
	}
	if room, ok := impl.RoomFor(column, x); ok || room != 0 {
		t.Errorf("RoomFor of %s = %d, %v", label, room, ok)
	}
}

func TestLimitOfLashings(t *testing.T) {
	if impl.MaxLashings != 4 {
		t.Errorf("the limit is %d", impl.MaxLashings)
	}
}

func TestValidColumns(t *testing.T) {
	for _, column := range [][]int{
		nil, {}, {1}, {2}, {31999}, {32000}, {8000, 3000}, {3000, 8000}, {7, 7}, {1, 2, 3}, {3, 2, 1}, {1, 2, 3, 4}, {4, 3, 2, 1}, {2, 4, 1, 3},
		equalWeights(3, 9), equalWeights(4, 1), equalWeights(4, 32000), {1, 32000, 1, 32000},
	} {
		if !isColumnByRule(column) {
			t.Errorf("%v is no valid column", column)
		}
		for _, x := range []impl.LashRules{lashRules(20000, 15, 1000), lashRules(1, 0, 1), lashRules(200000, 100, 100000), lashRules(1, 100, 1)} {
			wantLashed(t, lashedColumn{column, x})
		}
	}
	for _, c := range append(smallLashed(3), lashedSamples(433, 10000)...) {
		wantLashed(t, c)
	}
}

func TestInvalidColumnsYieldNothing(t *testing.T) {
	for name, column := range badColumns() {
		if isColumnByRule(column) || impl.IsValidColumn(column) {
			t.Errorf("%s: %.99s is valid", name, fmt.Sprint(column))
		}
		if order, ok := impl.HeavyFirst(column); ok || len(order) != 0 {
			t.Errorf("%s: HeavyFirst = %v, %v", name, order, ok)
		}
		for _, x := range []impl.LashRules{lashRules(20000, 15, 1000), lashRules(200000, 0, 1), lashRules(200000, 1, 100000), {}} {
			wantNotLashed(t, column, x)
		}
	}
}

func TestInvalidLashRulesYieldNothing(t *testing.T) {
	for _, x := range badLashRules() {
		if areLashRulesByRule(x) {
			t.Errorf("%v are valid", x)
		}
		for _, column := range [][]int{nil, {}, {1}, {32000}, {8000, 3000}, {1, 2, 3, 4}, {0}, {1, 2, 3, 4, 5}} {
			wantNotLashed(t, column, x)
		}
	}
}

func TestLashRulesAtTheirLimits(t *testing.T) {
	valid, invalid := 0, 0
	for _, limit := range []int{-1, 0, 1, 2, 32000, 199999, 200000, 200001} {
		for _, tilt := range []int{-1, 0, 1, 2, 50, 99, 100, 101} {
			for _, strength := range []int{-1, 0, 1, 2, 3200, 99999, 100000, 100001} {
				x := lashRules(limit, tilt, strength)
				for _, column := range [][]int{nil, {1}, {32000}, {8000, 3000}, equalWeights(4, 32000)} {
					if areLashRulesByRule(x) {
						wantLashed(t, lashedColumn{column, x})
						valid++
					} else {
						wantNotLashed(t, column, x)
						invalid++
					}
				}
			}
		}
	}
	if valid != 5*5*6*5 || invalid != 5*(8*8*8-5*6*5) {
		t.Errorf("%d columns with valid rules, %d with invalid ones", valid, invalid)
	}
}

// Every number of weights, up to more than SplitColumns may divide.
func TestColumnsOfAllLengths(t *testing.T) {
	for count := range 30 {
		x, column := lashRules(20000, 15, 1000), equalWeights(count, 13)
		if count <= 4 {
			wantLashed(t, lashedColumn{column, x})
			wantColumnWeight(t, column, x, 13*count, true)
			wantHeavyFirst(t, column, column...)
		} else {
			wantNotLashed(t, column, x)
			if order, ok := impl.HeavyFirst(column); impl.IsValidColumn(column) || ok || len(order) != 0 {
				t.Errorf("%d weights are a column, or HeavyFirst = %v, %v", count, order, ok)
			}
		}
	}
}

// Every weight in and around its range, below, in the middle and on top.
func TestColumnsWithEveryWeightAtEveryTier(t *testing.T) {
	numbers := append(outsideOf(1, 32000), 15999, 16000, 31998, 31999, 32000)
	for n := -30; n <= 300; n++ {
		numbers = append(numbers, n)
	}
	valid, invalid := 0, 0
	for _, n := range numbers {
		for tier := range 4 {
			column := stacked(9, 8, 7, 6)
			column[tier] = n
			x := lashRules(32010, 11, 900)
			if isColumnByRule(column) {
				valid++
				wantLashed(t, lashedColumn{column, x})
			} else {
				invalid++
				wantNotLashed(t, column, x)
			}
		}
	}
	if valid != 4*(300+5) || invalid < 4*(31+13) {
		t.Errorf("%d columns are valid and %d are not", valid, invalid)
	}
}

func TestColumnWeight(t *testing.T) {
	c := stacked(8000, 3000)
	wantColumnWeight(t, c, lashRules(20000, 15, 1000), 11000, true)
	// Exactly at the limit, one more and one less; what the lashings hold does not count.
	for _, strength := range []int{1, 100000} {
		wantColumnWeight(t, c, lashRules(11000, 100, strength), 11000, true)
		wantColumnWeight(t, c, lashRules(10999, 100, strength), 11000, false)
		wantColumnWeight(t, c, lashRules(11001, 100, strength), 11000, true)
	}
	wantColumnWeight(t, nil, lashRules(1, 0, 1), 0, true)
	wantColumnWeight(t, []int{}, lashRules(200000, 100, 100000), 0, true)
	wantColumnWeight(t, stacked(1), lashRules(1, 0, 1), 1, true)
	wantColumnWeight(t, stacked(2), lashRules(1, 0, 1), 2, false)
	wantColumnWeight(t, stacked(1, 1), lashRules(1, 0, 1), 2, false)
	wantColumnWeight(t, equalWeights(4, 32000), lashRules(128000, 0, 1), 128000, true)
	wantColumnWeight(t, equalWeights(4, 32000), lashRules(127999, 0, 1), 128000, false)
	wantColumnWeight(t, equalWeights(4, 32000), lashRules(1, 0, 1), 128000, false)
	wantColumnWeight(t, equalWeights(4, 32000), lashRules(200000, 0, 1), 128000, true)
}

func TestLashForces(t *testing.T) {
	wantForces(t, stacked(8000, 3000), lashRules(20000, 15, 1000), 1650, 450)
	wantForces(t, nil, lashRules(20000, 15, 1000))
	wantForces(t, []int{}, lashRules(1, 100, 1))
	// Whole percents.
	wantForces(t, stacked(100), lashRules(1, 7, 1), 7)
	wantForces(t, stacked(100, 200, 300, 400), lashRules(1, 1, 1), 10, 9, 7, 4)
	wantForces(t, stacked(20, 20), lashRules(1, 5, 1), 2, 1)
	wantForces(t, stacked(4, 3, 2, 1), lashRules(1, 100, 1), 10, 6, 3, 1)
	wantForces(t, equalWeights(4, 32000), lashRules(1, 100, 1), 128000, 96000, 64000, 32000)
	// Forces that are rounded up.
	wantForces(t, stacked(1), lashRules(1, 1, 1), 1)
	wantForces(t, stacked(99), lashRules(1, 1, 1), 1)
	wantForces(t, stacked(101), lashRules(1, 1, 1), 2)
	wantForces(t, stacked(1), lashRules(1, 99, 1), 1)
	wantForces(t, stacked(1, 1), lashRules(1, 99, 1), 2, 1)
	wantForces(t, stacked(1, 1), lashRules(1, 50, 1), 1, 1)
	wantForces(t, stacked(1, 1), lashRules(1, 51, 1), 2, 1)
	wantForces(t, stacked(50, 50, 1), lashRules(1, 1, 1), 2, 1, 1)
	// The sum is rounded up, not its parts.
	wantForces(t, stacked(1, 1, 1, 1), lashRules(1, 1, 1), 1, 1, 1, 1)
	wantForces(t, stacked(33, 33, 33), lashRules(1, 10, 1), 10, 7, 4)
	wantForces(t, equalWeights(4, 31999), lashRules(1, 33, 1), 42239, 31680, 21120, 10560)
	// Without tilt there is no force.
	wantForces(t, stacked(1), lashRules(1, 0, 1), 0)
	wantForces(t, equalWeights(4, 32000), lashRules(1, 0, 1), 0, 0, 0, 0)
}

func TestForcesNeverRiseTowardsTheTop(t *testing.T) {
	falling, equal := 0, 0
	for _, c := range append(smallLashed(4), lashedSamples(439, 5000)...) {
		forces, ok := impl.LashForces(c.column, c.x)
		if !ok || len(forces) != len(c.column) {
			t.Fatalf("LashForces of %v = %v, %v", c, forces, ok)
		}
		for tier := 1; tier < len(forces); tier++ {
			switch {
			case forces[tier] > forces[tier-1]:
				t.Errorf("LashForces of %v = %v", c, forces)
			case forces[tier] == forces[tier-1]:
				equal++
			default:
				falling++
			}
		}
		// The forces are those of the columns that stand on the feet.
		for tier := range c.column {
			wantForces(t, c.column[tier:], c.x, forces[tier:]...)
		}
	}
	if falling < 1000 || equal < 1000 {
		t.Errorf("%d forces are smaller than those below and %d equal", falling, equal)
	}
}

func TestLashingsNeeded(t *testing.T) {
	wantLashings(t, stacked(8000, 3000), lashRules(20000, 15, 1000), 2, 1)
	wantNoLashings(t, stacked(32000), lashRules(20000, 15, 1000))
	wantLashings(t, nil, lashRules(1, 100, 1))
	wantLashings(t, []int{}, lashRules(1, 0, 1))
	// Without a force no lashing is needed, however weak it is.
	wantLashings(t, equalWeights(4, 32000), lashRules(1, 0, 1), 0, 0, 0, 0)
	// Every number of lashings, with a force exactly at their strength, one more and one less.
	for count := 1; count <= 4; count++ {
		wantLashings(t, stacked(100*count), lashRules(1, 100, 100), count)
		wantLashings(t, stacked(100*count-1), lashRules(1, 100, 100), count)
		if count < 4 {
			wantLashings(t, stacked(100*count+1), lashRules(1, 100, 100), count+1)
		} else {
			wantNoLashings(t, stacked(100*count+1), lashRules(1, 100, 100))
		}
	}
	wantLashings(t, stacked(1), lashRules(1, 100, 1), 1)
	wantLashings(t, stacked(4), lashRules(1, 100, 1), 4)
	wantNoLashings(t, stacked(5), lashRules(1, 100, 1))
	wantLashings(t, stacked(1, 1, 1, 1), lashRules(1, 100, 1), 4, 3, 2, 1)
	wantNoLashings(t, stacked(1, 1, 1, 2), lashRules(1, 100, 1))
	wantNoLashings(t, stacked(2, 1, 1, 1), lashRules(1, 100, 1))
	wantLashings(t, stacked(1, 1, 1, 2), lashRules(1, 100, 2), 3, 2, 2, 1)
	wantLashings(t, equalWeights(4, 32000), lashRules(1, 100, 100000), 2, 1, 1, 1)
	wantLashings(t, equalWeights(4, 32000), lashRules(1, 100, 32000), 4, 3, 2, 1)
	wantNoLashings(t, equalWeights(4, 32000), lashRules(1, 100, 31999))
	// The force is rounded up before the lashings are counted.
	wantLashings(t, stacked(800), lashRules(1, 50, 100), 4)
	wantNoLashings(t, stacked(801), lashRules(1, 50, 100))
	wantLashings(t, stacked(799), lashRules(1, 50, 100), 4)
	wantLashings(t, stacked(600), lashRules(1, 50, 100), 3)
	wantLashings(t, stacked(601), lashRules(1, 50, 100), 4)
	// The limit does not count.
	wantLashings(t, stacked(8000, 3000), lashRules(1, 15, 1000), 2, 1)
	// One foot needs too many, the others do not.
	wantNoLashings(t, stacked(3000, 1000, 1000), lashRules(20000, 100, 1000))
	wantLashings(t, stacked(2000, 1000, 1000), lashRules(20000, 100, 1000), 4, 2, 1)
}

// With the answers of the program alone: the lashings hold, and one less would not.
func TestALashingLessWouldNotHold(t *testing.T) {
	var met [5]int
	exact, failed := 0, 0
	for _, c := range append(smallLashed(4), lashedSamples(443, 10000)...) {
		forces, ok := impl.LashForces(c.column, c.x)
		needed, fine := impl.LashingsNeeded(c.column, c.x)
		if !ok || fine && len(needed) != len(forces) {
			t.Fatalf("%v: LashForces = %v, %v and LashingsNeeded = %v, %v", c, forces, ok, needed, fine)
		}
		if !fine {
			failed++
			if len(needed) != 0 || len(forces) == 0 || slices.Max(forces) <= 4*c.x.Strength {
				t.Errorf("%v: the forces are %v, and LashingsNeeded = %v, %v", c, forces, needed, fine)
			}
			continue
		}
		for tier, count := range needed {
			if count < 0 || count > 4 || count*c.x.Strength < forces[tier] || count > 0 && (count-1)*c.x.Strength >= forces[tier] {
				t.Errorf("%v: the forces are %v and LashingsNeeded = %v", c, forces, needed)
				continue
			}
			met[count]++
			if forces[tier] == 4*c.x.Strength {
				exact++
			}
		}
	}
	if slices.Min(met[:]) < 300 || exact < 100 || failed < 1000 {
		t.Errorf("the numbers of lashings are met %v times, %d times they hold just so, and %d columns fail", met, exact, failed)
	}
}

func TestHeavyFirst(t *testing.T) {
	wantHeavyFirst(t, nil)
	wantHeavyFirst(t, []int{})
	wantHeavyFirst(t, stacked(1), 1)
	wantHeavyFirst(t, stacked(32000), 32000)
	wantHeavyFirst(t, stacked(3000, 8000), 8000, 3000)
	wantHeavyFirst(t, stacked(8000, 3000), 8000, 3000)
	wantHeavyFirst(t, stacked(5, 5), 5, 5)
	wantHeavyFirst(t, stacked(1, 2, 3, 4), 4, 3, 2, 1)
	wantHeavyFirst(t, stacked(4, 3, 2, 1), 4, 3, 2, 1)
	wantHeavyFirst(t, stacked(2, 9, 2, 9), 9, 9, 2, 2)
	wantHeavyFirst(t, stacked(10, 9, 100), 100, 10, 9)
	wantHeavyFirst(t, equalWeights(4, 32000), equalWeights(4, 32000)...)
	for _, order := range ordersByInserting(stacked(7, 5, 3, 1)) {
		wantHeavyFirst(t, order, 7, 5, 3, 1)
	}
	for _, c := range append(smallLashed(4), lashedSamples(449, 2000)...) {
		all := ordersByInserting(c.column)
		wantHeavyFirst(t, c.column, slices.MaxFunc(all, slices.Compare[[]int])...)
	}
}

func TestLightestForce(t *testing.T) {
	x := lashRules(20000, 15, 1000)
	wantLightest(t, stacked(3000, 8000), x, 2100, 8000, 3000)
	wantLightest(t, stacked(8000, 3000), x, 2100, 8000, 3000)
	wantLightest(t, nil, x, 0)
	wantLightest(t, []int{}, lashRules(1, 100, 1), 0)
	wantLightest(t, stacked(8000), x, 1200, 8000)
	wantLightest(t, stacked(1), lashRules(1, 1, 1), 1, 1)
	// Whole forces that all count: the heavy ones stand below.
	for _, order := range ordersByInserting(stacked(1, 2, 3, 4)) {
		wantLightest(t, order, lashRules(1, 100, 1), 20, 4, 3, 2, 1)
	}
	for _, order := range ordersByInserting(stacked(300, 100, 300, 200)) {
		wantLightest(t, order, lashRules(1, 1, 1), 19, 300, 300, 200, 100)
	}
	wantLightest(t, equalWeights(4, 32000), lashRules(1, 100, 1), 320000, equalWeights(4, 32000)...)
	// Neither the limit nor the lashings count.
	wantLightest(t, stacked(3000, 8000), lashRules(1, 15, 1), 2100, 8000, 3000)
}

// Where the sums tie because the forces are rounded up, the lexicographically smallest order
// shows.
func TestLightestForceOfSeveral(t *testing.T) {
	one := lashRules(1, 1, 1)
	for _, order := range ordersByInserting(stacked(50, 100)) {
		wantLightest(t, order, one, 3, 50, 100)
	}
	for _, order := range ordersByInserting(stacked(50, 101)) {
		wantLightest(t, order, one, 3, 101, 50)
	}
	for _, order := range ordersByInserting(stacked(3, 4)) {
		wantLightest(t, order, lashRules(1, 50, 1), 6, 3, 4)
	}
	// An order that neither rises nor falls.
	for _, order := range ordersByInserting(stacked(60, 50, 40)) {
		wantLightest(t, order, one, 4, 50, 40, 60)
	}
	for _, order := range ordersByInserting(stacked(1, 1, 2, 2)) {
		wantLightest(t, order, one, 4, 1, 1, 2, 2)
	}
	for _, order := range ordersByInserting(stacked(9, 10, 11, 100)) {
		wantLightest(t, order, one, 5, 100, 9, 10, 11)
	}
	// Numbers are compared, not texts.
	wantLightest(t, stacked(10, 9), one, 2, 9, 10)
	wantLightest(t, stacked(32000, 4000, 500), lashRules(1, 0, 1), 0, 500, 4000, 32000)
	// Without tilt all orders tie.
	for _, order := range ordersByInserting(stacked(32000, 7, 1, 300)) {
		wantLightest(t, order, lashRules(1, 0, 1), 0, 1, 7, 300, 32000)
	}
	wantLightest(t, stacked(2, 1, 2, 1), lashRules(1, 0, 1), 0, 1, 1, 2, 2)
}

// No order has a smaller sum of forces, nor an equal one and is lexicographically smaller; the
// sum is that of the forces of the order, and HeavyFirst has it, too.
func TestNoOrderHasASmallerSumOfForces(t *testing.T) {
	ties, single, between := 0, 0, 0
	for _, c := range append(smallLashed(4), lashedSamples(457, 5000)...) {
		order, sum, ok := impl.LightestForce(c.column, c.x)
		forces, fine := impl.LashForces(order, c.x)
		if !ok || !fine || added(forces) != sum {
			t.Fatalf("LightestForce of %v = %v, %d, %v, but the forces are %v, %v", c, order, sum, ok, forces, fine)
		}
		if !slices.Equal(slices.Sorted(slices.Values(order)), slices.Sorted(slices.Values(c.column))) {
			t.Errorf("LightestForce of %v = %v", c, order)
		}
		for _, other := range ordersByInserting(c.column) {
			forces, _ := impl.LashForces(other, c.x)
			if added(forces) < sum || added(forces) == sum && slices.Compare(other, order) < 0 {
				t.Errorf("LightestForce of %v = %v, %d, but %v has the forces %v", c, order, sum, other, forces)
			}
		}
		heavy, _ := impl.HeavyFirst(c.column)
		forces, _ = impl.LashForces(heavy, c.x)
		if added(forces) != sum {
			t.Errorf("LightestForce of %v = %v, %d, but %v has the forces %v", c, order, sum, heavy, forces)
		}
		switch _, _, count := lightestOfAll(c.column, c.x); {
		case count == 1:
			single++
		case slices.IsSorted(order):
			ties++
		default:
			between++
		}
	}
	if ties < 1000 || single < 1000 || between < 200 {
		t.Errorf("%d columns have one best order, %d tie and rise, and %d tie and do not rise", single, ties, between)
	}
}

func TestSplitColumns(t *testing.T) {
	wantDivided(t, stacked(5, 3, 4, 2), 2, 7, "5 2,3 4")
	wantDivided(t, stacked(5, 3, 4, 2), 1, 14, "5 3 4 2")
	wantDivided(t, stacked(5, 3, 4, 2), 3, 5, "5,3 2,4")
	// No weight, and one.
	for _, none := range [][]int{nil, {}} {
		wantDivided(t, none, 1, 0, "")
		wantDivided(t, none, 2, 0, ",")
		wantDivided(t, none, 3, 0, ",,")
	}
	wantDivided(t, stacked(32000), 1, 32000, "32000")
	wantDivided(t, stacked(32000), 2, 32000, "32000,")
	wantDivided(t, stacked(1), 3, 1, "1,,")
	// All columns are full.
	wantDivided(t, stacked(4, 1, 3, 2), 1, 10, "4 1 3 2")
	wantDivided(t, stacked(1, 2, 3, 4, 5, 6, 7, 8), 2, 18, "1 2 7 8,3 4 5 6")
	wantDivided(t, stacked(8, 7, 6, 5, 4, 3, 2, 1), 2, 18, "8 7 2 1,6 5 4 3")
	wantDivided(t, equalWeights(8, 32000), 2, 128000, "32000 32000 32000 32000,32000 32000 32000 32000")
	// A column has no room for the fifth light weight.
	wantDivided(t, stacked(10, 1, 1, 1, 1, 1), 2, 11, "10 1,1 1 1 1")
	wantDivided(t, stacked(1, 1, 1, 1, 1, 10), 2, 11, "1 1 1 1,1 10")
	wantDivided(t, stacked(100, 1, 1, 1, 1, 1, 1, 1), 2, 103, "100 1 1 1,1 1 1 1")
	wantDivided(t, stacked(100, 1, 1, 1, 1, 1, 1, 1), 3, 100, "100,1 1 1 1,1 1 1")
	// Eight weights in three columns.
	wantDivided(t, equalWeights(8, 1), 3, 3, "1 1 1,1 1 1,1 1")
	wantDivided(t, stacked(8, 7, 6, 5, 4, 3, 2, 1), 3, 12, "8 4,7 5,6 3 2 1")
	wantDivided(t, stacked(1, 2, 3, 4, 5, 6, 7, 8), 3, 12, "1 2 3 6,4 8,5 7")
	// The first free column is not the best one, and taking the heaviest first is not enough.
	wantDivided(t, stacked(3, 3, 2, 2, 2), 2, 6, "3 3,2 2 2")
	wantDivided(t, stacked(1, 2, 3), 2, 3, "1 2,3")
	wantDivided(t, stacked(5, 5, 4, 4, 3, 3, 3), 3, 9, "5 4,5 4,3 3 3")
}

// The lexicographically smallest list of column numbers shows, which may leave columns empty.
func TestSplitColumnsOfSeveral(t *testing.T) {
	wantDivided(t, stacked(1, 1), 2, 1, "1,1")
	wantDivided(t, stacked(1, 1), 3, 1, "1,1,")
	wantDivided(t, stacked(7, 9), 2, 9, "7,9")
	wantDivided(t, stacked(9, 7), 3, 9, "9,7,")
	wantDivided(t, stacked(2, 1, 1), 3, 2, "2,1 1,")
	wantDivided(t, stacked(1, 1, 2), 3, 2, "1 1,2,")
	wantDivided(t, stacked(1, 2, 1), 3, 2, "1 1,2,")
	wantDivided(t, stacked(1, 1, 9), 2, 9, "1 1,9")
	wantDivided(t, stacked(9, 1, 1), 2, 9, "9,1 1")
	wantDivided(t, stacked(1, 9, 1), 2, 9, "1 1,9")
	wantDivided(t, stacked(1, 1, 1, 1, 9), 3, 9, "1 1 1 1,9,")
	wantDivided(t, stacked(1, 1, 1, 1, 1, 9), 3, 9, "1 1 1 1,1,9")
	wantDivided(t, stacked(9, 1, 1, 1, 1), 3, 9, "9,1 1 1 1,")
	wantDivided(t, stacked(9, 1, 1, 1, 1, 1), 3, 9, "9,1 1 1 1,1")
	wantDivided(t, stacked(5, 5, 1, 1, 1), 3, 5, "5,5,1 1 1")
	wantDivided(t, stacked(5, 4, 1), 3, 5, "5,4 1,")
	wantDivided(t, stacked(4, 5, 1), 3, 5, "4 1,5,")
	wantDivided(t, stacked(2, 2, 2, 2), 2, 4, "2 2,2 2")
	wantDivided(t, stacked(2, 2, 2, 2), 3, 4, "2 2,2 2,")
	wantDivided(t, stacked(2, 2, 2), 2, 4, "2 2,2")
	wantDivided(t, stacked(3, 1, 2), 3, 3, "3,1 2,")
	wantDivided(t, equalWeights(7, 6), 2, 24, "6 6 6 6,6 6 6")
	wantDivided(t, equalWeights(6, 6), 3, 12, "6 6,6 6,6 6")
	wantDivided(t, equalWeights(5, 6), 3, 12, "6 6,6 6,6")
}

func TestSplitColumnsOutOfRange(t *testing.T) {
	for _, n := range append(outsideOf(1, 3), 5, 8, 1<<62, 1<<61+1, 1<<60) {
		for count := range 10 {
			wantNotDivided(t, equalWeights(count, 5), n)
		}
	}
	// More than n * MaxTiers weights, and more than 8.
	for n := 1; n <= 3; n++ {
		for count := range 40 {
			if count > min(8, 4*n) {
				wantNotDivided(t, equalWeights(count, 5), n)
			} else if got, _, ok := impl.SplitColumns(equalWeights(count, 5), n); !ok || len(got) != n || len(slices.Concat(got...)) != count {
				t.Errorf("SplitColumns of %d weights, %d = %v, %v", count, n, got, ok)
			}
		}
		wantNotDivided(t, equalWeights(1<<16, 1), n)
	}
	for _, weight := range outsideOf(1, 32000) {
		for n := 1; n <= 3; n++ {
			wantNotDivided(t, stacked(weight), n)
			wantNotDivided(t, stacked(weight, 3, 4), n)
			wantNotDivided(t, stacked(3, weight, 4), n)
			wantNotDivided(t, stacked(3, 4, weight), n)
			wantNotDivided(t, append(equalWeights(7, 9), weight), n)
			wantNotDivided(t, append(stacked(weight), equalWeights(7, 9)...), n)
			wantNotDivided(t, equalWeights(8, weight), n)
		}
	}
}

// wantBestDivision compares SplitColumns with all divisions, and returns how many are best.
func wantBestDivision(t *testing.T, weights []int, n int, lists [][]int) int {
	t.Helper()
	columns, greatest, count := bestOfDivisions(weights, n, lists)
	wantDivided(t, weights, n, greatest, yardText(impl.Yard{Stacks: columns}))
	return count
}

func TestSplitColumnsOfAllSmallWeights(t *testing.T) {
	ties, single, empty := 0, 0, 0
	for n := 1; n <= 3; n++ {
		for count := 0; count <= min(6, 4*n); count++ {
			lists := divisionsOf(count, n)
			for _, kinds := range listsOf(count, 3) {
				weights := []int{}
				for _, kind := range kinds {
					weights = append(weights, []int{1, 2, 5}[kind])
				}
				if wantBestDivision(t, weights, n, lists) > 1 {
					ties++
				} else {
					single++
				}
				columns, _, _ := impl.SplitColumns(weights, n)
				if slices.ContainsFunc(columns, func(column []int) bool { return len(column) == 0 }) && count >= n {
					empty++
				}
			}
		}
	}
	if ties < 500 || single < 50 || empty < 10 {
		t.Errorf("%d times divisions tie, %d times there is one, and %d times a column stays empty", ties, single, empty)
	}
}

// Promise 12, its first part: no division of the weights has a smaller greatest sum.
func TestNoDivisionHasASmallerGreatestSum(t *testing.T) {
	next := dice(461)
	for n := 1; n <= 3; n++ {
		for count := 0; count <= min(8, 4*n); count++ {
			lists := divisionsOf(count, n)
			for range 60 {
				weights := mixedWeights(next, count)
				wantBestDivision(t, weights, n, lists)
				columns, greatest, ok := impl.SplitColumns(weights, n)
				if !ok || len(columns) != n || greatestSum(columns) != greatest {
					t.Fatalf("SplitColumns of %v, %d = %v, %d, %v", weights, n, columns, greatest, ok)
				}
				for _, column := range columns {
					if weight, light, ok := impl.ColumnWeight(column, lashRules(max(1, greatest), 0, 1)); !ok || !light || weight > greatest {
						t.Errorf("SplitColumns of %v, %d: the column %v weighs %d, %v, %v", weights, n, column, weight, light, ok)
					}
				}
				for _, list := range lists {
					if other := divided(weights, n, list); greatestSum(other) < greatest {
						t.Fatalf("SplitColumns of %v, %d = %v, %d, but %v is better", weights, n, columns, greatest, other)
					}
				}
			}
		}
	}
}

// A column more never makes the greatest sum greater, and the order of the weights does not
// matter to it.
func TestGreatestSumsOfOtherDivisions(t *testing.T) {
	next := dice(463)
	for range 600 {
		weights := mixedWeights(next, next(9))
		columns, greatest, ok := impl.SplitColumns(weights, 3)
		_, of2, fine := impl.SplitColumns(weights, 2)
		if !ok || !fine || greatest > of2 || 3*greatest < added(weights) {
			t.Errorf("SplitColumns of %v = %v, %d, %v, and %d, %v for two columns", weights, columns, greatest, ok, of2, fine)
		}
		if _, of1, fine := impl.SplitColumns(weights, 1); fine != (len(weights) <= 4) || fine && (of1 < of2 || of1 != added(weights)) {
			t.Errorf("SplitColumns of %v: %d for one column, %d for two", weights, of1, of2)
		}
		slices.Sort(weights)
		if _, other, _ := impl.SplitColumns(weights, 3); other != greatest {
			t.Errorf("SplitColumns of %v has the greatest sum %d, in another order %d", weights, other, greatest)
		}
	}
}

func TestAddOnTop(t *testing.T) {
	x := lashRules(20000, 15, 1000)
	wantOnTop(t, stacked(8000), 3000, x)
	wantNotOnTop(t, stacked(8000), 13000, x)
	// Any weight on any column that is not full.
	free := lashRules(200000, 0, 1)
	for _, column := range [][]int{nil, {}, {1}, {32000}, {1, 2}, {2, 1}, {5, 5}, {1, 2, 3}, equalWeights(3, 32000)} {
		for _, weight := range []int{1, 2, 31999, 32000} {
			wantOnTop(t, column, weight, free)
		}
		for _, weight := range outsideOf(1, 32000) {
			wantNotOnTop(t, column, weight, free)
			wantNotOnTop(t, column, weight, lashRules(20000, 15, 1000))
		}
	}
	// A full column.
	for _, weight := range []int{-1, 0, 1, 32000, 32001} {
		wantNotOnTop(t, stacked(1, 1, 1, 1), weight, free)
		wantNotOnTop(t, equalWeights(4, 32000), weight, free)
	}
	// Exactly at the limit, one more and one less.
	wantOnTop(t, stacked(8000), 12000, x)
	wantNotOnTop(t, stacked(8000), 12001, x)
	wantOnTop(t, stacked(8000), 11999, x)
	wantOnTop(t, nil, 20000, x)
	wantNotOnTop(t, nil, 20001, x)
	wantOnTop(t, nil, 1, lashRules(1, 0, 1))
	wantNotOnTop(t, nil, 2, lashRules(1, 0, 1))
	wantNotOnTop(t, stacked(1), 1, lashRules(1, 0, 1))
	wantOnTop(t, equalWeights(3, 32000), 32000, lashRules(128000, 0, 1))
	wantNotOnTop(t, equalWeights(3, 32000), 32000, lashRules(127999, 0, 1))
	// The column is too heavy before, or needs too many lashings.
	wantNotOnTop(t, stacked(8000, 3000), 1, lashRules(10999, 0, 1))
	wantNotOnTop(t, stacked(8000, 3000), 1, lashRules(11000, 0, 1))
	wantOnTop(t, stacked(8000, 3000), 1, lashRules(11001, 0, 1))
	wantNotOnTop(t, stacked(32000), 1, lashRules(200000, 15, 1000))
	// As many lashings as there may be, and one more.
	wantOnTop(t, stacked(1000), 3000, lashRules(200000, 10, 100))
	wantNotOnTop(t, stacked(1000), 3001, lashRules(200000, 10, 100))
	wantOnTop(t, nil, 4000, lashRules(200000, 10, 100))
	wantNotOnTop(t, nil, 4001, lashRules(200000, 10, 100))
	wantOnTop(t, stacked(1, 1, 1), 1, lashRules(4, 100, 1))
	wantNotOnTop(t, stacked(1, 1, 1), 2, lashRules(5, 100, 1))
	wantNotOnTop(t, stacked(1, 1, 1), 1, lashRules(3, 100, 1))
}

func TestRoomFor(t *testing.T) {
	wantRoom(t, stacked(8000), lashRules(10000, 0, 1000), 2000)
	// Room for any weight.
	free := lashRules(200000, 0, 1)
	for _, column := range [][]int{nil, {}, {1}, {32000}, {1, 2}, equalWeights(3, 1), equalWeights(3, 32000)} {
		wantRoom(t, column, free, 32000)
		wantRoom(t, column, lashRules(200000, 100, 100000), 32000)
		wantRoom(t, column, lashRules(added(column)+32000, 0, 1), 32000)
		wantRoom(t, column, lashRules(added(column)+32001, 0, 1), 32000)
	}
	// Room bounded by the limit.
	for _, column := range [][]int{nil, {1}, {32000}, {8000, 3000}, {1, 2, 3}, equalWeights(3, 32000)} {
		for _, room := range []int{1, 2, 17, 31998, 31999} {
			wantRoom(t, column, lashRules(added(column)+room, 0, 1), room)
			wantRoom(t, column, lashRules(added(column)+room, 1, 100000), room)
		}
	}
	// Room bounded by the lashings.
	wantRoom(t, stacked(1000), lashRules(200000, 10, 100), 3000)
	wantRoom(t, nil, lashRules(200000, 10, 100), 4000)
	wantRoom(t, stacked(1000, 2000), lashRules(200000, 10, 100), 1000)
	wantRoom(t, stacked(1000, 2000), lashRules(200000, 7, 100), 2714)
	wantRoom(t, nil, lashRules(200000, 100, 1), 4)
	wantRoom(t, nil, lashRules(200000, 1, 1), 400)
	wantRoom(t, nil, lashRules(200000, 3, 1), 133)
	wantRoom(t, nil, lashRules(200000, 1, 80), 32000)
	wantRoom(t, nil, lashRules(200000, 1, 79), 31600)
	wantRoom(t, nil, lashRules(200000, 99, 7919), 31995)
	// Both are as narrow, and each a bit narrower.
	wantRoom(t, stacked(1000), lashRules(4000, 10, 100), 3000)
	wantRoom(t, stacked(1000), lashRules(3999, 10, 100), 2999)
	wantRoom(t, stacked(1000), lashRules(4001, 10, 100), 3000)
}

func TestNoRoom(t *testing.T) {
	free := lashRules(200000, 0, 1)
	// A full column.
	wantRoom(t, stacked(1, 1, 1, 1), free, 0)
	wantRoom(t, stacked(1, 1, 1, 1), lashRules(200000, 100, 100000), 0)
	wantRoom(t, equalWeights(4, 32000), free, 0)
	// A column exactly at the limit, or above it.
	wantRoom(t, stacked(8000), lashRules(8000, 0, 1000), 0)
	wantRoom(t, stacked(8000), lashRules(7999, 0, 1000), 0)
	wantRoom(t, stacked(8000), lashRules(1, 0, 1000), 0)
	wantRoom(t, stacked(1), lashRules(1, 0, 1), 0)
	wantRoom(t, equalWeights(3, 32000), lashRules(1, 0, 1), 0)
	// A column with as many lashings as there may be, or that needs more.
	wantRoom(t, stacked(4000), lashRules(200000, 10, 100), 0)
	wantRoom(t, stacked(3999), lashRules(200000, 10, 100), 1)
	wantRoom(t, stacked(4001), lashRules(200000, 10, 100), 0)
	wantRoom(t, stacked(32000, 32000), lashRules(200000, 100, 1), 0)
	wantRoom(t, stacked(1, 1, 2), lashRules(200000, 100, 1), 0)
	wantRoom(t, stacked(1, 1, 1), lashRules(200000, 100, 1), 1)
}

// Promise 12, its second part, with the answers of the program alone: what there is room for
// can be added, and after that nothing more than it.
func TestNoRoomForAKilogramMoreIsLeft(t *testing.T) {
	next := dice(467)
	none, all, limited, lashed := 0, 0, 0, 0
	for _, c := range append(smallLashed(4), lashedSamples(479, 10000)...) {
		room, ok := impl.RoomFor(c.column, c.x)
		if !ok || room < 0 || room > 32000 {
			t.Fatalf("RoomFor of %v = %d, %v", c, room, ok)
		}
		if room > 0 {
			wantOnTop(t, c.column, room, c.x)
			wantOnTop(t, c.column, 1+next(room), c.x)
		}
		wantNotOnTop(t, c.column, room+1, c.x)
		wantNotOnTop(t, c.column, room+1+next(32001-min(room, 32000)), c.x)
		wantNotOnTop(t, c.column, 32001, c.x)
		switch weight, light, _ := impl.ColumnWeight(append(slices.Clone(c.column), room+1), c.x); {
		case room == 0:
			none++
		case room == 32000:
			all++
		case weight > 0 && !light:
			limited++
		default:
			lashed++
		}
	}
	if none < 1000 || all < 300 || limited < 300 || lashed < 300 {
		t.Errorf("room: none %d times, for all %d times, bounded by the limit %d times, by the lashings %d times", none, all, limited, lashed)
	}
}

// Every weight is tried.
func TestRoomIsForAllWeightsUpToIt(t *testing.T) {
	samples := lashedSamples(487, 25)
	samples = append(samples, lashedColumn{nil, lashRules(20000, 15, 700)}, lashedColumn{stacked(1), lashRules(200000, 0, 1)})
	samples = append(samples, lashedColumn{stacked(9, 9, 9, 9), lashRules(200000, 0, 1)}, lashedColumn{stacked(40), lashRules(39, 0, 1)})
	for _, c := range samples {
		room, ok := impl.RoomFor(c.column, c.x)
		for weight := range 32002 {
			if got, fine := impl.AddOnTop(c.column, weight, c.x); fine != (weight > 0 && weight <= room) || fine != (len(got) > 0) {
				t.Fatalf("RoomFor of %v = %d, %v, but AddOnTop of %d = %v, %v", c, room, ok, weight, got, fine)
			}
		}
	}
}

// The column with all that there is room for has room for nothing, unless there was room for
// MaxWeight.
func TestFilledColumnsHaveNoRoom(t *testing.T) {
	for _, c := range lashedSamples(491, 3000) {
		column := c.column
		for {
			room, ok := impl.RoomFor(column, c.x)
			if !ok {
				t.Fatalf("RoomFor of %v, %v fails", column, c.x)
			}
			if room == 0 {
				break
			}
			higher, ok := impl.AddOnTop(column, room, c.x)
			if !ok || len(higher) != len(column)+1 {
				t.Fatalf("AddOnTop of %v, %d, %v = %v, %v", column, room, c.x, higher, ok)
			}
			if room < 32000 {
				wantRoom(t, higher, c.x, 0)
			}
			column = higher
		}
	}
}

// lashingAnswers has what every function of chapter 12 says.
func lashingAnswers(weights []int, x impl.LashRules) []string {
	var all []string
	add := func(parts ...any) { all = append(all, fmt.Sprintln(parts...)) }
	add("valid", impl.IsValidColumn(weights))
	weight, light, ok := impl.ColumnWeight(weights, x)
	add("weight", weight, light, ok)
	forces, ok := impl.LashForces(weights, x)
	add("forces", forces, ok)
	needed, ok := impl.LashingsNeeded(weights, x)
	add("lashings", needed, ok)
	heavy, ok := impl.HeavyFirst(weights)
	add("heavy", heavy, ok)
	lightest, sum, ok := impl.LightestForce(weights, x)
	add("lightest", lightest, sum, ok)
	for n := range 5 {
		columns, greatest, ok := impl.SplitColumns(weights, n)
		add("split", n, yardText(impl.Yard{Stacks: columns}), greatest, ok)
	}
	for _, weight := range []int{0, 1, 3000, 32000, 32001} {
		higher, ok := impl.AddOnTop(weights, weight, x)
		add("higher", higher, ok)
	}
	room, ok := impl.RoomFor(weights, x)
	add("room", room, ok)
	return all
}

// weightsToAsk has weights for columns and some that can only be divided.
func weightsToAsk(seed int) []lashedColumn {
	all := append(smallLashed(2), lashedSamples(seed, 1000)...)
	next := dice(seed)
	for range 100 {
		all = append(all, lashedColumn{mixedWeights(next, 5+next(5)), lashRules(200000, 1, 100000)})
	}
	return all
}

// Weights in arrays with something behind them are answered like separate ones, and none of
// them is changed.
func TestColumnsAreLeftAlone(t *testing.T) {
	for _, c := range weightsToAsk(499) {
		want := lashingAnswers(c.column, c.x)
		for _, filler := range []int{-7, 0, 1, 32000} {
			part, array := withRoom(c.column, filler)
			if got := lashingAnswers(part, c.x); !slices.Equal(got, want) {
				t.Errorf("the answers about %v with %d behind are others", c, filler)
			}
			if !slices.Equal(array, append(slices.Clone(c.column), filler, filler, filler)) {
				t.Errorf("the weights %v are changed to %v", c.column, array)
			}
		}
	}
	for name, column := range badColumns() {
		before := slices.Clone(column)
		lashingAnswers(column, lashRules(20000, 15, 1000))
		if !slices.Equal(column, before) {
			t.Errorf("%s: the weights are changed", name)
		}
	}
}

// newLashingLists calls every function of chapter 12 that returns slices and returns all of
// them, the lists of columns apart.
func newLashingLists(weights []int, x impl.LashRules) ([][]int, [][][]int) {
	forces, _ := impl.LashForces(weights, x)
	needed, _ := impl.LashingsNeeded(weights, x)
	heavy, _ := impl.HeavyFirst(weights)
	lightest, _, _ := impl.LightestForce(weights, x)
	higher, _ := impl.AddOnTop(weights, 7, x)
	lists, divisions := [][]int{forces, needed, heavy, lightest, higher}, [][][]int{}
	for n := range 5 {
		columns, _, _ := impl.SplitColumns(weights, n)
		lists, divisions = append(lists, columns...), append(divisions, columns)
	}
	return lists, divisions
}

func TestResultsAboutColumnsAreNew(t *testing.T) {
	for _, c := range weightsToAsk(503) {
		weights := slices.Clone(c.column)
		want := lashingAnswers(weights, c.x)
		lists, divisions := newLashingLists(weights, c.x)
		again, divisionsAgain := newLashingLists(weights, c.x)
		if sharesElement(append(slices.Concat(lists, again), weights)...) {
			t.Fatalf("results for %v share numbers", c)
		}
		if sharesElement(slices.Concat(divisions, divisionsAgain)...) {
			t.Fatalf("results for %v share lists of columns", c)
		}
		for _, list := range lists {
			spoil(list)
		}
		for _, columns := range divisions {
			clear(columns)
		}
		if got := lashingAnswers(weights, c.x); !slices.Equal(got, want) || !slices.Equal(weights, c.column) {
			t.Fatalf("the answers about %v are others the second time", c)
		}
	}
}

func TestResultsAboutColumnsStayWhenArgumentsChange(t *testing.T) {
	for _, c := range weightsToAsk(509) {
		weights, _ := withRoom(c.column, 5)
		lists, _ := newLashingLists(weights, c.x)
		want := copyOfYard(impl.Yard{Stacks: lists}).Stacks
		spoil(weights)
		if !slices.EqualFunc(lists, want, slices.Equal[[]int]) {
			t.Fatalf("a change of %v changes a result", c)
		}
	}
}
