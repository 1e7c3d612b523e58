package tests

import (
	"fmt"
	"maps"
	"math"
	"math/big"
	"slices"
	"testing"

	"loop.example/g00906/impl"
)

// tides reads an Hour and a Height for every tide.
func tides(numbers ...int) []impl.Tide {
	list := []impl.Tide{}
	for part := range slices.Chunk(numbers, 2) {
		list = append(list, impl.Tide{Hour: part[0], Height: part[1]})
	}
	return list
}

// tideWindows reads a From and a To for every window.
func tideWindows(numbers ...int) []impl.Window {
	list := []impl.Window{}
	for part := range slices.Chunk(numbers, 2) {
		list = append(list, impl.Window{From: part[0], To: part[1]})
	}
	return list
}

// steadyTides has so many tides at an equal distance, low and high in turn.
func steadyTides(count int, hour int, hours int, low int, high int) []impl.Tide {
	list := []impl.Tide{}
	for i := range count {
		list = append(list, impl.Tide{Hour: hour + hours*i, Height: []int{low, high}[i%2]})
	}
	return list
}

// areTidesByRule is an oracle.
func areTidesByRule(list []impl.Tide) bool {
	if !isBetween(len(list), 2, 20) {
		return false
	}
	for i, x := range list {
		if !isBetween(x.Hour, 0, 240) || !isBetween(x.Height, 0, 2000) {
			return false
		}
		if i > 0 && (list[i-1].Hour >= x.Hour || list[i-1].Height == x.Height) {
			return false
		}
		// A middle one of three heights is the greatest or the smallest of them.
		if i > 1 && isBetween(list[i-1].Height, min(list[i-2].Height, x.Height), max(list[i-2].Height, x.Height)) {
			return false
		}
	}
	return true
}

func firstTide(list []impl.Tide) int { return list[0].Hour }

func lastTide(list []impl.Tide) int { return list[len(list)-1].Hour }

// tideByRat weighs the two tides around an hour by the time to the other one, as an oracle for
// hours at which a table holds.
func tideByRat(list []impl.Tide, hour int) *big.Rat {
	after := slices.IndexFunc(list, func(x impl.Tide) bool { return x.Hour >= hour })
	b := list[after]
	if b.Hour == hour {
		return whole(b.Height)
	}
	a := list[after-1]
	early := new(big.Rat).Mul(whole(a.Height), fraction(b.Hour-hour, b.Hour-a.Hour))
	late := new(big.Rat).Mul(whole(b.Height), fraction(hour-a.Hour, b.Hour-a.Hour))
	return early.Add(early, late)
}

// tideHeights has the heights at all hours of a table.
func tideHeights(list []impl.Tide) map[int]*big.Rat {
	heights := map[int]*big.Rat{}
	for hour := firstTide(list); hour <= lastTide(list); hour++ {
		heights[hour] = tideByRat(list, hour)
	}
	return heights
}

// isDeepByRat is an oracle for all hours, also for those at which the table does not hold.
func isDeepByRat(heights map[int]*big.Rat, hour int, depth int) bool {
	height, ok := heights[hour]
	return ok && height.Cmp(whole(depth)) >= 0
}

// windowsByEnds finds the hours at which windows begin and those at which they end, as an oracle.
func windowsByEnds(heights map[int]*big.Rat, depth int) []impl.Window {
	var begins, ends []int
	for _, hour := range slices.Sorted(maps.Keys(heights)) {
		if !isDeepByRat(heights, hour, depth) {
			continue
		}
		if !isDeepByRat(heights, hour-1, depth) {
			begins = append(begins, hour)
		}
		if !isDeepByRat(heights, hour+1, depth) {
			ends = append(ends, hour)
		}
	}
	windows := []impl.Window{}
	for i := range begins {
		windows = append(windows, impl.Window{From: begins[i], To: ends[i]})
	}
	return windows
}

// shipByTrying tries every hour of the table as the beginning, as an oracle; it returns -1 if
// there is none.
func shipByTrying(list []impl.Tide, draft int, bottom int, from int, hours int) int {
	heights := tideHeights(list)
	for first := from; first <= lastTide(list); first++ {
		deep := true
		for hour := first; hour <= first+hours; hour++ {
			deep = deep && isDeepByRat(heights, hour, draft-bottom)
		}
		if deep {
			return first
		}
	}
	return -1
}

// draftByFloor rounds the smallest height down, as an oracle.
func draftByFloor(list []impl.Tide, bottom int, from int, to int) int {
	var smallest *big.Rat
	for hour := from; hour <= to; hour++ {
		if height := tideByRat(list, hour); smallest == nil || height.Cmp(smallest) < 0 {
			smallest = height
		}
	}
	return bottom + int(new(big.Int).Div(smallest.Num(), smallest.Denom()).Int64())
}

// turningByNeighbors is an oracle.
func turningByNeighbors(list []impl.Tide, rising bool) []int {
	hours := []int{}
	for i, x := range list {
		higher, lower := true, true
		for _, k := range []int{i - 1, i + 1} {
			if isBetween(k, 0, len(list)-1) {
				higher = higher && x.Height > list[k].Height
				lower = lower && x.Height < list[k].Height
			}
		}
		if rising && higher || !rising && lower {
			hours = append(hours, x.Hour)
		}
	}
	return hours
}

// meanByHours takes the mean over the halves of all hours, as an oracle: between two whole hours
// the height changes evenly.
func meanByHours(list []impl.Tide) *big.Rat {
	sum, count := new(big.Rat), 0
	for hour := firstTide(list); hour < lastTide(list); hour++ {
		sum.Add(sum, tideByRat(list, hour))
		sum.Add(sum, tideByRat(list, hour+1))
		count += 2
	}
	return sum.Quo(sum, whole(count))
}

// shiftedByHand is an oracle for sums that do not overflow.
func shiftedByHand(list []impl.Tide, hours int, height int) []impl.Tide {
	other := slices.Clone(list)
	for i := range other {
		other[i].Hour += hours
		other[i].Height += height
	}
	return other
}

// steepestByRat compares the heights after an hour with the tides, as an oracle. It also returns
// how many pairs have the greatest change.
func steepestByRat(list []impl.Tide) (*big.Rat, int, int) {
	var best *big.Rat
	index, count := 0, 0
	for i := range len(list) - 1 {
		change := tideByRat(list, list[i].Hour+1)
		change.Sub(change, whole(list[i].Height))
		change.Abs(change)
		switch {
		case best == nil || change.Cmp(best) > 0:
			best, index, count = change, i, 1
		case change.Cmp(best) == 0:
			count++
		}
	}
	return best, index, count
}

// smallTideLists has all lists of so many tides with Heights up to 3, whose Hours are up to 3
// apart; some of them are no tables.
func smallTideLists(count int) [][]impl.Tide {
	var all [][]impl.Tide
	for _, gaps := range listsOf(count-1, 3) {
		for _, heights := range listsOf(count, 4) {
			list, hour := []impl.Tide{}, heights[0]%2
			for i, height := range heights {
				if i > 0 {
					hour += gaps[i-1] + 1
				}
				list = append(list, impl.Tide{Hour: hour, Height: height})
			}
			all = append(all, list)
		}
	}
	return all
}

// smallTides has those of up to so many tides that are tables.
func smallTides(most int) [][]impl.Tide {
	var all [][]impl.Tide
	for count := 2; count <= most; count++ {
		for _, list := range smallTideLists(count) {
			if areTidesByRule(list) {
				all = append(all, list)
			}
		}
	}
	return all
}

// mixedTides has a table with small numbers, any numbers or numbers at their limits.
func mixedTides(next func(n int) int) []impl.Tide {
	count, kind := 2+next(19), next(4)
	longest, highest := []int{4, 12, 240 / count, 240 / count}[kind], []int{6, 500, 2000, 2000}[kind]
	gap := min(longest, 240/count)
	list, hour, high := []impl.Tide{}, next(240-(count-1)*gap), next(2)
	for i := range count {
		// High waters are above the middle, and low ones are below it.
		height := next(highest / 2)
		if i%2 == high {
			height = highest - next(highest/2)
		}
		if kind == 3 {
			height = []int{height, 0, 2000}[next(2)*(1+(i+high+1)%2)]
		}
		list = append(list, impl.Tide{Hour: hour, Height: height})
		hour += 1 + next(gap)
	}
	if kind == 3 {
		list[count-1].Hour = 240
	}
	return list
}

func tideSamples(seed int, count int) [][]impl.Tide {
	next := dice(seed)
	var all [][]impl.Tide
	for range count {
		all = append(all, mixedTides(next))
	}
	return all
}

// badTides has tides with one number out of range.
func badTides() map[string]impl.Tide {
	all := map[string]impl.Tide{}
	for _, n := range outsideOf(0, 240) {
		all[fmt.Sprint("the hour ", n)] = impl.Tide{Hour: n, Height: 4}
	}
	for _, n := range outsideOf(0, 2000) {
		all[fmt.Sprint("the height ", n)] = impl.Tide{Hour: 5, Height: n}
	}
	return all
}

// badTideLists has lists that are no tables.
func badTideLists() map[string][]impl.Tide {
	all := map[string][]impl.Tide{
		"nil": nil, "none": {}, "one": tides(3, 4), "one at 0": tides(0, 0), "one at the limits": tides(240, 2000),
		"21": steadyTides(21, 0, 6, 3, 9), "22": steadyTides(22, 0, 6, 3, 9), "very many": steadyTides(1<<16, 0, 1, 3, 9),
		"equal hours": tides(5, 3, 5, 9), "later equal hours": tides(1, 9, 5, 3, 5, 9), "last equal hours": tides(1, 3, 5, 9, 9, 3, 9, 9),
		"descending hours": tides(6, 3, 5, 9), "later descending hours": tides(1, 9, 6, 3, 5, 9), "all descending hours": tides(9, 3, 6, 9, 3, 3),
		"back to the first hour": tides(1, 3, 6, 9, 1, 3), "from the last hour to the first one": tides(240, 3, 0, 9),
		"equal heights": tides(5, 3, 6, 3), "later equal heights": tides(1, 9, 5, 3, 6, 3), "first equal heights": tides(1, 3, 5, 3, 6, 9),
		"heights of 0": tides(5, 0, 6, 0), "greatest heights": tides(5, 2000, 6, 2000), "equal high waters": tides(1, 3, 5, 9, 6, 9, 7, 3),
		"rising on": tides(0, 1, 1, 2, 2, 3), "falling on": tides(0, 3, 1, 2, 2, 1), "rising on from 0 to the limit": tides(0, 0, 5, 1000, 6, 2000),
		"rising on later": tides(0, 2, 1, 1, 2, 3, 3, 4), "falling on later": tides(0, 2, 1, 4, 2, 3, 3, 1),
		"rising on at last": tides(0, 5, 1, 1, 2, 9, 3, 1, 4, 2, 5, 3), "falling on at last": tides(0, 1, 1, 5, 2, 1, 3, 9, 4, 5, 5, 4),
		"rising on in the middle": tides(0, 5, 1, 1, 2, 3, 3, 9, 4, 2), "falling on in the middle": tides(0, 1, 1, 9, 2, 3, 3, 1, 4, 2),
		"two equal tides": tides(5, 3, 5, 3), "two zeros": {{}, {}}, "three zeros": {{}, {}, {}},
	}
	for name, x := range badTides() {
		all["only "+name] = []impl.Tide{x}
		all["first "+name] = []impl.Tide{x, {Hour: 8, Height: 9}, {Hour: 12, Height: 3}}
		all["in the middle "+name] = []impl.Tide{{Hour: 1, Height: 9}, x, {Hour: 12, Height: 8}}
		all["last "+name] = []impl.Tide{{Hour: 1, Height: 3}, {Hour: 2, Height: 9}, x}
		all["last of 20 "+name] = append(steadyTides(19, 0, 1, 3, 9), x)
	}
	return all
}

func tideLabel(list []impl.Tide) string { return fmt.Sprintf("%.199s", fmt.Sprint(list)) }

// wantReduced wants a fraction in lowest terms.
func wantReduced(t *testing.T, name string, num int, den int) {
	t.Helper()
	if den < 1 || new(big.Int).GCD(nil, nil, big.NewInt(int64(withoutSign(num))), big.NewInt(int64(den))).Int64() != 1 {
		t.Errorf("%s = %d / %d is not reduced", name, num, den)
	}
}

func wantHeight(t *testing.T, list []impl.Tide, hour int, num int, den int) {
	t.Helper()
	if a, b, ok := impl.HeightAt(list, hour); !ok || a != num || b != den {
		t.Errorf("HeightAt of %v, %d = %d, %d, %v, want %d, %d", list, hour, a, b, ok, num, den)
	}
}

func wantNoHeight(t *testing.T, list []impl.Tide, hour int) {
	t.Helper()
	if a, b, ok := impl.HeightAt(list, hour); ok || a != 0 || b != 0 {
		t.Errorf("HeightAt of %s, %d = %d, %d, %v", tideLabel(list), hour, a, b, ok)
	}
}

func wantWindows(t *testing.T, list []impl.Tide, depth int, want []impl.Window) {
	t.Helper()
	if got, ok := impl.DeepWindows(list, depth); !ok || !slices.Equal(got, want) {
		t.Errorf("DeepWindows of %v, %d = %v, %v, want %v", list, depth, got, ok, want)
	}
}

func wantNoWindows(t *testing.T, list []impl.Tide, depth int) {
	t.Helper()
	if got, ok := impl.DeepWindows(list, depth); ok || len(got) != 0 {
		t.Errorf("DeepWindows of %s, %d = %v, %v", tideLabel(list), depth, got, ok)
	}
}

func wantShip(t *testing.T, list []impl.Tide, draft int, bottom int, from int, hours int, want int) {
	t.Helper()
	if got, ok := impl.ShipWindow(list, draft, bottom, from, hours); !ok || got != want {
		t.Errorf("ShipWindow of %v, %d, %d, %d, %d = %d, %v, want %d", list, draft, bottom, from, hours, got, ok, want)
	}
}

func wantNoShip(t *testing.T, list []impl.Tide, draft int, bottom int, from int, hours int) {
	t.Helper()
	if got, ok := impl.ShipWindow(list, draft, bottom, from, hours); ok || got != 0 {
		t.Errorf("ShipWindow of %s, %d, %d, %d, %d = %d, %v", tideLabel(list), draft, bottom, from, hours, got, ok)
	}
}

// wantShipByTrying compares with the oracle, and returns whether there is such an hour.
func wantShipByTrying(t *testing.T, list []impl.Tide, draft int, bottom int, from int, hours int) bool {
	t.Helper()
	want := shipByTrying(list, draft, bottom, from, hours)
	if want < 0 {
		wantNoShip(t, list, draft, bottom, from, hours)
	} else {
		wantShip(t, list, draft, bottom, from, hours, want)
	}
	return want >= 0
}

func wantDraft(t *testing.T, list []impl.Tide, bottom int, from int, to int, want int) {
	t.Helper()
	if got, ok := impl.GreatestDraft(list, bottom, from, to); !ok || got != want {
		t.Errorf("GreatestDraft of %v, %d, %d, %d = %d, %v, want %d", list, bottom, from, to, got, ok, want)
	}
}

func wantNoDraft(t *testing.T, list []impl.Tide, bottom int, from int, to int) {
	t.Helper()
	if got, ok := impl.GreatestDraft(list, bottom, from, to); ok || got != 0 {
		t.Errorf("GreatestDraft of %s, %d, %d, %d = %d, %v", tideLabel(list), bottom, from, to, got, ok)
	}
}

func wantTurning(t *testing.T, list []impl.Tide, rising bool, want ...int) {
	t.Helper()
	if got, ok := impl.TurningHours(list, rising); !ok || !slices.Equal(got, want) {
		t.Errorf("TurningHours of %v, %v = %v, %v, want %v", list, rising, got, ok, want)
	}
}

func wantMean(t *testing.T, list []impl.Tide, num int, den int) {
	t.Helper()
	if a, b, ok := impl.MeanHeight(list); !ok || a != num || b != den {
		t.Errorf("MeanHeight of %v = %d, %d, %v, want %d, %d", list, a, b, ok, num, den)
	}
}

func wantTidesShifted(t *testing.T, list []impl.Tide, hours int, height int, want []impl.Tide) {
	t.Helper()
	if got, ok := impl.ShiftTides(list, hours, height); !ok || !slices.Equal(got, want) {
		t.Errorf("ShiftTides of %v, %d, %d = %v, %v, want %v", list, hours, height, got, ok, want)
	}
}

func wantTidesNotShifted(t *testing.T, list []impl.Tide, hours int, height int) {
	t.Helper()
	if got, ok := impl.ShiftTides(list, hours, height); ok || len(got) != 0 {
		t.Errorf("ShiftTides of %s, %d, %d = %v, %v", tideLabel(list), hours, height, got, ok)
	}
}

// wantTidesShiftedIfValid compares with the oracle, and returns whether the result is a table.
func wantTidesShiftedIfValid(t *testing.T, list []impl.Tide, hours int, height int) bool {
	t.Helper()
	want := shiftedByHand(list, hours, height)
	if !areTidesByRule(want) {
		wantTidesNotShifted(t, list, hours, height)
		return false
	}
	wantTidesShifted(t, list, hours, height, want)
	wantTidesShifted(t, want, -hours, -height, list)
	return true
}

func wantSteepest(t *testing.T, list []impl.Tide, num int, den int, index int) {
	t.Helper()
	if a, b, i, ok := impl.SteepestChange(list); !ok || a != num || b != den || i != index {
		t.Errorf("SteepestChange of %v = %d, %d, %d, %v, want %d, %d, %d", list, a, b, i, ok, num, den, index)
	}
}

// wantTide compares what the functions say of a table as a whole with the oracles.
func wantTide(t *testing.T, list []impl.Tide) {
	t.Helper()
	if !impl.IsValidTides(list) {
		t.Errorf("%v is not valid", list)
	}
	first, last := firstTide(list), lastTide(list)
	for hour := first; hour <= last; hour++ {
		num, den, ok := impl.HeightAt(list, hour)
		wantFraction(t, fmt.Sprint("HeightAt of ", list, hour), num, den, ok, tideByRat(list, hour))
		wantReduced(t, fmt.Sprint("HeightAt of ", list, hour), num, den)
	}
	for _, hour := range outsideOf(first, last) {
		wantNoHeight(t, list, hour)
	}
	wantTurning(t, list, true, turningByNeighbors(list, true)...)
	wantTurning(t, list, false, turningByNeighbors(list, false)...)
	num, den, ok := impl.MeanHeight(list)
	wantFraction(t, fmt.Sprint("MeanHeight of ", list), num, den, ok, meanByHours(list))
	wantReduced(t, fmt.Sprint("MeanHeight of ", list), num, den)
	steepest, index, _ := steepestByRat(list)
	num, den, i, ok := impl.SteepestChange(list)
	wantFraction(t, fmt.Sprint("SteepestChange of ", list), num, den, ok && i == index, steepest)
	wantReduced(t, fmt.Sprint("SteepestChange of ", list), num, den)
	wantTidesShifted(t, list, 0, 0, list)
}

// depthsOf has the depths at and beside the heights of all tides, and those between them.
func depthsOf(list []impl.Tide) []int {
	depths := []int{0, 1, 1000, 1999, 2000}
	for i, x := range list {
		depths = append(depths, x.Height-1, x.Height, x.Height+1, (x.Height+list[max(i-1, 0)].Height)/2)
	}
	slices.Sort(depths)
	return slices.DeleteFunc(slices.Compact(depths), func(n int) bool { return !isBetween(n, 0, 2000) })
}

// wantNoTide wants zero values of every function for an invalid table.
func wantNoTide(t *testing.T, list []impl.Tide) {
	t.Helper()
	label := tideLabel(list)
	if impl.IsValidTides(list) {
		t.Errorf("%s is valid", label)
	}
	for _, n := range []int{-1, 0, 1, 3, 5, 6, 12, 240, 241} {
		wantNoHeight(t, list, n)
		wantNoWindows(t, list, n)
		wantNoShip(t, list, 0, 3000, n, 0)
		wantNoShip(t, list, n, n, 5, 1)
		wantNoDraft(t, list, 10, n, n)
		wantNoDraft(t, list, n, 5, 6)
		wantTidesNotShifted(t, list, n, 0)
		wantTidesNotShifted(t, list, 0, n)
		wantTidesNotShifted(t, list, -n, -n)
	}
	for _, rising := range []bool{false, true} {
		if hours, ok := impl.TurningHours(list, rising); ok || len(hours) != 0 {
			t.Errorf("TurningHours of %s, %v = %v, %v", label, rising, hours, ok)
		}
	}
	if a, b, ok := impl.MeanHeight(list); ok || a != 0 || b != 0 {
		t.Errorf("MeanHeight of %s = %d, %d, %v", label, a, b, ok)
	}
	if a, b, i, ok := impl.SteepestChange(list); ok || a != 0 || b != 0 || i != 0 {
		t.Errorf("SteepestChange of %s = %d, %d, %d, %v", label, a, b, i, ok)
	}
}

// wantTideIfValid compares a list of any kind with the oracle, and returns whether it is a table.
func wantTideIfValid(t *testing.T, list []impl.Tide) bool {
	t.Helper()
	if areTidesByRule(list) {
		wantTide(t, list)
		return true
	}
	wantNoTide(t, list)
	return false
}

func TestLimitsOfTides(t *testing.T) {
	if impl.MaxLogHour != 240 || impl.MaxHeight != 2000 {
		t.Errorf("the limits are %d and %d", impl.MaxLogHour, impl.MaxHeight)
	}
}

func TestTablesOfAllLengths(t *testing.T) {
	for count := range 45 {
		for _, list := range [][]impl.Tide{steadyTides(count, 0, 5, 100, 400), steadyTides(count, 3, 1, 2000, 0), steadyTides(count, 0, 1, 7, 8)} {
			if wantTideIfValid(t, list) != isBetween(count, 2, 20) {
				t.Errorf("the oracle is wrong about %d tides", count)
			}
		}
	}
	wantTide(t, tides(0, 0, 240, 2000))
	wantTide(t, tides(0, 2000, 240, 0))
	wantTide(t, steadyTides(20, 0, 12, 0, 2000))
	wantTide(t, append(steadyTides(19, 0, 13, 2000, 0), impl.Tide{Hour: 240, Height: 1}))
	wantNoTide(t, steadyTides(21, 0, 12, 0, 2000))
}

func TestInvalidTablesYieldNothing(t *testing.T) {
	for name, list := range badTideLists() {
		if areTidesByRule(list) {
			t.Errorf("%s: %s is a table", name, tideLabel(list))
		}
		wantNoTide(t, list)
	}
	// The tides behind a table are not read.
	list := tides(0, 100, 6, 400, 12, 500)
	wantNoTide(t, list)
	wantTide(t, list[:2])
	wantNoTide(t, list[:1])
	wantTide(t, steadyTides(21, 0, 6, 3, 9)[:20])
	wantTide(t, steadyTides(21, 0, 6, 3, 9)[1:])
}

// Every number in and around its range, at every place of a table.
func TestTidesWithEveryNumberAtEveryPlace(t *testing.T) {
	hours, heights := append(outsideOf(0, 240), 0, 1, 239, 240), append(outsideOf(0, 2000), 0, 1, 999, 1000, 1001, 1999, 2000)
	for n := range 30 {
		hours, heights = append(hours, n), append(heights, n)
	}
	valid, invalid := 0, 0
	count := func(ok bool) {
		if ok {
			valid++
		} else {
			invalid++
		}
	}
	for _, tide := range [][]impl.Tide{tides(4, 20, 9, 5, 13, 12), tides(4, 5, 9, 20, 13, 12), tides(0, 0, 120, 2000, 240, 0), tides(0, 2000, 120, 0, 240, 2000)} {
		for place := range tide {
			for _, n := range hours {
				list := slices.Clone(tide)
				list[place].Hour = n
				count(wantTideIfValid(t, list))
			}
			for _, n := range heights {
				list := slices.Clone(tide)
				list[place].Height = n
				count(wantTideIfValid(t, list))
			}
		}
	}
	if valid < 200 || invalid < 300 {
		t.Errorf("%d lists are valid and %d are not", valid, invalid)
	}
}

func TestAllSmallTides(t *testing.T) {
	valid, invalid := 0, 0
	for count := 1; count <= 4; count++ {
		for _, list := range smallTideLists(count) {
			if wantTideIfValid(t, list) {
				valid++
			} else {
				invalid++
			}
		}
	}
	if valid < 1000 || invalid < 1000 {
		t.Errorf("%d lists are valid and %d are not", valid, invalid)
	}
	// Hours in any order.
	for _, n := range listsOf(6, 3) {
		wantTideIfValid(t, tides(n[0], n[1], n[2], n[3], n[4], n[5]))
	}
}

func TestMixedTides(t *testing.T) {
	all, great, high := 0, 0, 0
	for _, list := range tideSamples(701, 1000) {
		wantTide(t, list)
		all += lastTide(list) - firstTide(list)
		if lastTide(list) > 230 {
			great++
		}
		if slices.ContainsFunc(list, func(x impl.Tide) bool { return x.Height == 2000 }) {
			high++
		}
	}
	if all < 50000 || great < 100 || high < 100 {
		t.Errorf("the tables hold for %d hours, %d of them up to the last ones, %d of them have the greatest height", all, great, high)
	}
}

func TestHeightAt(t *testing.T) {
	list := tides(0, 100, 6, 400, 12, 100)
	for hour, height := range []int{100, 150, 200, 250, 300, 350, 400, 350, 300, 250, 200, 150, 100} {
		wantHeight(t, list, hour, height, 1)
	}
	wantNoHeight(t, list, -1)
	wantNoHeight(t, list, 13)
	// Heights that are fractions, rising and falling.
	wantHeight(t, tides(0, 100, 7, 400), 1, 1000, 7)
	wantHeight(t, tides(0, 100, 7, 400), 3, 1600, 7)
	wantHeight(t, tides(0, 100, 7, 400), 6, 2500, 7)
	wantHeight(t, tides(0, 400, 7, 100), 1, 2500, 7)
	wantHeight(t, tides(0, 400, 7, 100), 6, 1000, 7)
	wantHeight(t, tides(4, 5, 8, 3), 5, 9, 2)
	wantHeight(t, tides(4, 5, 8, 3), 6, 4, 1)
	wantHeight(t, tides(4, 5, 8, 3), 7, 7, 2)
	wantHeight(t, tides(4, 3, 8, 5), 5, 7, 2)
	wantHeight(t, tides(4, 3, 8, 5), 6, 4, 1)
	wantHeight(t, tides(4, 3, 8, 5), 7, 9, 2)
	// Fractions that can be reduced.
	wantHeight(t, tides(0, 0, 12, 6), 2, 1, 1)
	wantHeight(t, tides(0, 0, 12, 6), 3, 3, 2)
	wantHeight(t, tides(0, 0, 12, 9), 2, 3, 2)
	wantHeight(t, tides(0, 0, 12, 8), 2, 4, 3)
	wantHeight(t, tides(0, 8, 12, 0), 11, 2, 3)
	wantHeight(t, tides(0, 8, 12, 0), 9, 2, 1)
	// Heights of 0 and very small ones.
	wantHeight(t, tides(0, 0, 7, 5), 0, 0, 1)
	wantHeight(t, tides(3, 5, 7, 0), 7, 0, 1)
	wantHeight(t, tides(3, 5, 7, 0, 9, 1), 7, 0, 1)
	wantHeight(t, tides(0, 0, 240, 1), 1, 1, 240)
	wantHeight(t, tides(0, 0, 240, 1), 239, 239, 240)
	wantHeight(t, tides(0, 1, 240, 0), 1, 239, 240)
	wantHeight(t, tides(0, 1, 240, 0), 239, 1, 240)
	wantHeight(t, tides(0, 0, 239, 2000), 238, 476000, 239)
	wantHeight(t, tides(0, 2000, 239, 0), 1, 476000, 239)
	// The ends of a table, and the hours beside them.
	for _, list := range [][]impl.Tide{tides(5, 7, 9, 3), tides(0, 3, 1, 4), tides(239, 2000, 240, 0), tides(5, 7, 9, 3, 100, 8), tides(0, 0, 240, 2000)} {
		wantNoHeight(t, list, firstTide(list)-1)
		wantHeight(t, list, firstTide(list), list[0].Height, 1)
		wantHeight(t, list, lastTide(list), list[len(list)-1].Height, 1)
		wantNoHeight(t, list, lastTide(list)+1)
		for _, x := range list {
			wantHeight(t, list, x.Hour, x.Height, 1)
		}
	}
	// Neighboring changes of different lengths.
	list = tides(2, 10, 5, 20, 6, 0, 10, 7)
	for i, x := range [][2]int{{10, 1}, {40, 3}, {50, 3}, {20, 1}, {0, 1}, {7, 4}, {7, 2}, {21, 4}, {7, 1}} {
		wantHeight(t, list, 2+i, x[0], x[1])
	}
}

// The heights between two tides are the same as those of the table that is read backward.
func TestHeightsOfReversedTides(t *testing.T) {
	fractions := 0
	for _, list := range slices.Concat(smallTides(4), tideSamples(709, 300)) {
		turned := slices.Clone(list)
		slices.Reverse(turned)
		for i := range turned {
			turned[i].Hour = 240 - turned[i].Hour
		}
		for hour := firstTide(list); hour <= lastTide(list); hour++ {
			num, den, ok := impl.HeightAt(list, hour)
			if !ok {
				t.Errorf("HeightAt of %v, %d fails", list, hour)
			}
			wantHeight(t, turned, 240-hour, num, den)
			if den > 1 {
				fractions++
			}
		}
	}
	if fractions < 10000 {
		t.Errorf("only %d heights are fractions", fractions)
	}
}

func TestDeepWindows(t *testing.T) {
	list := tides(0, 100, 6, 400, 12, 100)
	wantNoWindows(t, list, -1)
	// Below the lowest water, and at it.
	wantWindows(t, list, 0, tideWindows(0, 12))
	wantWindows(t, list, 99, tideWindows(0, 12))
	wantWindows(t, list, 100, tideWindows(0, 12))
	wantWindows(t, list, 101, tideWindows(1, 11))
	// Heights at whole hours, and between them.
	wantWindows(t, list, 150, tideWindows(1, 11))
	wantWindows(t, list, 151, tideWindows(2, 10))
	wantWindows(t, list, 249, tideWindows(3, 9))
	wantWindows(t, list, 250, tideWindows(3, 9))
	wantWindows(t, list, 251, tideWindows(4, 8))
	wantWindows(t, list, 300, tideWindows(4, 8))
	// One hour only, at the height of the high water.
	wantWindows(t, list, 351, tideWindows(6, 6))
	wantWindows(t, list, 399, tideWindows(6, 6))
	wantWindows(t, list, 400, tideWindows(6, 6))
	// Above the highest water.
	wantWindows(t, list, 401, nil)
	wantWindows(t, list, 1999, nil)
	wantWindows(t, list, 2000, nil)
	wantNoWindows(t, list, 2001)
	for _, depth := range outsideOf(0, 2000) {
		wantNoWindows(t, list, depth)
		wantNoWindows(t, tides(0, 0, 240, 2000), depth)
	}
	// The greatest height there is, and the height 0.
	great := tides(0, 2000, 3, 0, 6, 2000, 240, 1999)
	wantWindows(t, great, 2000, tideWindows(0, 0, 6, 6))
	wantWindows(t, great, 1999, tideWindows(0, 0, 6, 240))
	wantWindows(t, great, 1, tideWindows(0, 2, 4, 240))
	wantWindows(t, great, 0, tideWindows(0, 240))
}

func TestDeepWindowsOfSeveral(t *testing.T) {
	// Windows that begin and end at the ends of the table.
	low := tides(3, 400, 9, 100, 15, 400)
	wantWindows(t, low, 100, tideWindows(3, 15))
	wantWindows(t, low, 101, tideWindows(3, 8, 10, 15))
	wantWindows(t, low, 250, tideWindows(3, 6, 12, 15))
	wantWindows(t, low, 251, tideWindows(3, 5, 13, 15))
	wantWindows(t, low, 399, tideWindows(3, 3, 15, 15))
	wantWindows(t, low, 400, tideWindows(3, 3, 15, 15))
	wantWindows(t, low, 401, nil)
	// Only one of two high waters is high enough.
	two := tides(0, 100, 4, 300, 8, 200, 12, 500, 16, 0)
	wantWindows(t, two, 100, tideWindows(0, 15))
	wantWindows(t, two, 200, tideWindows(2, 14))
	wantWindows(t, two, 201, tideWindows(3, 7, 9, 14))
	wantWindows(t, two, 300, tideWindows(4, 4, 10, 13))
	wantWindows(t, two, 301, tideWindows(10, 13))
	wantWindows(t, two, 500, tideWindows(12, 12))
	// As many windows as there may be.
	steep := steadyTides(20, 0, 2, 10, 20)
	want := []impl.Window{}
	for i := range 10 {
		want = append(want, impl.Window{From: 2 + 4*i, To: 2 + 4*i})
	}
	wantWindows(t, steep, 20, want)
	wantWindows(t, steep, 16, want)
	for i := range want {
		want[i].From, want[i].To = want[i].From-1, min(want[i].To+1, 38)
	}
	wantWindows(t, steep, 15, want)
	wantWindows(t, steep, 11, want)
	wantWindows(t, steep, 10, tideWindows(0, 38))
}

// Depths that are reached between two whole hours only: neither the hour before nor a rounded
// height counts.
func TestDeepWindowsAtFractions(t *testing.T) {
	// 10, 40/3, 50/3, 20, 50/3, 40/3, 10.
	list := tides(0, 10, 3, 20, 6, 10)
	wantWindows(t, list, 10, tideWindows(0, 6))
	wantWindows(t, list, 11, tideWindows(1, 5))
	wantWindows(t, list, 13, tideWindows(1, 5))
	wantWindows(t, list, 14, tideWindows(2, 4))
	wantWindows(t, list, 16, tideWindows(2, 4))
	wantWindows(t, list, 17, tideWindows(3, 3))
	wantWindows(t, list, 20, tideWindows(3, 3))
	wantWindows(t, list, 21, nil)
	// Halves, rising and falling: 1, 3/2, 2 and 2, 3/2, 1.
	for _, list := range [][]impl.Tide{tides(4, 1, 6, 2), tides(4, 1, 6, 2, 8, 1)} {
		wantWindows(t, list, 2, tideWindows(6, 6))
		wantWindows(t, list, 1, tideWindows(4, lastTide(list)))
	}
	wantWindows(t, tides(4, 2, 6, 1), 2, tideWindows(4, 4))
	wantWindows(t, tides(4, 2, 6, 1), 1, tideWindows(4, 6))
	wantWindows(t, tides(0, 1999, 240, 2000), 2000, tideWindows(240, 240))
	wantWindows(t, tides(0, 2000, 240, 1999), 2000, tideWindows(0, 0))
	wantWindows(t, tides(0, 0, 240, 1), 1, tideWindows(240, 240))
	wantWindows(t, tides(0, 0, 240, 1), 0, tideWindows(0, 240))
	// 2000 / 7 is a little less than 286.
	wantWindows(t, tides(0, 0, 7, 2000), 285, tideWindows(1, 7))
	wantWindows(t, tides(0, 0, 7, 2000), 286, tideWindows(2, 7))
	wantWindows(t, tides(0, 2000, 7, 0), 285, tideWindows(0, 6))
	wantWindows(t, tides(0, 2000, 7, 0), 286, tideWindows(0, 5))
}

// Promise 15, by the answers of the program and by the oracle: an hour is in a window exactly if
// the fraction of its height is at least the depth.
func TestTheHeightIsAtLeastTheDepthExactlyInTheWindows(t *testing.T) {
	none, whole, several, single, close := 0, 0, 0, 0, 0
	for _, list := range slices.Concat(smallTides(4), tideSamples(719, 400)) {
		first, last, heights := firstTide(list), lastTide(list), tideHeights(list)
		for _, depth := range depthsOf(list) {
			windows, ok := impl.DeepWindows(list, depth)
			if !ok {
				t.Fatalf("DeepWindows of %v, %d fails", list, depth)
			}
			wantWindows(t, list, depth, windowsByEnds(heights, depth))
			for hour := first; hour <= last; hour++ {
				num, den, ok := impl.HeightAt(list, hour)
				inside := slices.ContainsFunc(windows, func(x impl.Window) bool { return isBetween(hour, x.From, x.To) })
				if !ok || inside != (num >= depth*den) {
					t.Fatalf("DeepWindows of %v, %d = %v, but at %d the height is %d / %d, %v", list, depth, windows, hour, num, den, ok)
				}
				if den > 1 && withoutSign(num-depth*den) < den {
					close++
				}
			}
			for i, x := range windows {
				if x.From > x.To || x.From < first || x.To > last || i > 0 && windows[i-1].To+1 >= x.From {
					t.Fatalf("DeepWindows of %v, %d = %v", list, depth, windows)
				}
				if x.From == x.To {
					single++
				}
			}
			switch {
			case len(windows) == 0:
				none++
			case len(windows) > 1:
				several++
			case windows[0].From == first && windows[0].To == last:
				whole++
			}
		}
	}
	if none < 500 || whole < 500 || several < 500 || single < 500 || close < 5000 {
		t.Errorf("%d times no window, %d times the whole table, %d times several windows, %d windows of an hour, %d heights less than 1 from the depth",
			none, whole, several, single, close)
	}
}

// A greater depth has no hour that a smaller one does not have.
func TestWindowsOfGreaterDepthsAreInsideSmallerOnes(t *testing.T) {
	for _, list := range tideSamples(727, 150) {
		wider := tideWindows(firstTide(list), lastTide(list))
		for _, depth := range depthsOf(list) {
			windows, ok := impl.DeepWindows(list, depth)
			for _, x := range windows {
				if !slices.ContainsFunc(wider, func(y impl.Window) bool { return y.From <= x.From && x.To <= y.To }) {
					t.Fatalf("%v: the window %v of %d is in none of %v", list, x, depth, wider)
				}
			}
			if !ok {
				t.Fatalf("DeepWindows of %v, %d fails", list, depth)
			}
			wider = windows
		}
	}
}

func TestShipWindow(t *testing.T) {
	list := tides(2, 100, 8, 400, 14, 100)
	wantShip(t, list, 1250, 1000, 2, 2, 5)
	wantShip(t, list, 1250, 1000, 2, 0, 5)
	wantShip(t, list, 1250, 1000, 2, 6, 5)
	wantNoShip(t, list, 1250, 1000, 2, 7)
	// From before the window, in it and behind it.
	wantShip(t, list, 1250, 1000, 4, 2, 5)
	wantShip(t, list, 1250, 1000, 5, 2, 5)
	wantShip(t, list, 1250, 1000, 6, 2, 6)
	wantShip(t, list, 1250, 1000, 6, 5, 6)
	wantNoShip(t, list, 1250, 1000, 6, 6)
	wantShip(t, list, 1250, 1000, 9, 2, 9)
	wantNoShip(t, list, 1250, 1000, 10, 2)
	wantShip(t, list, 1250, 1000, 10, 1, 10)
	wantShip(t, list, 1250, 1000, 11, 0, 11)
	wantNoShip(t, list, 1250, 1000, 12, 0)
	// One centimeter more or less.
	wantShip(t, list, 1251, 1000, 2, 0, 6)
	wantShip(t, list, 1250, 999, 2, 0, 6)
	wantShip(t, list, 1250, 1001, 2, 0, 5)
	wantShip(t, list, 1200, 1000, 2, 0, 4)
	wantShip(t, list, 1201, 1000, 2, 0, 5)
	wantShip(t, list, 1400, 1000, 2, 0, 8)
	wantNoShip(t, list, 1401, 1000, 2, 0)
	wantNoShip(t, list, 1400, 1000, 2, 1)
	wantNoShip(t, list, 1400, 1000, 9, 0)
	// The second of several windows is long enough.
	two := tides(0, 0, 3, 300, 6, 0, 12, 600, 18, 0)
	wantShip(t, two, 200, 0, 0, 2, 2)
	wantShip(t, two, 200, 0, 0, 3, 8)
	wantShip(t, two, 200, 0, 3, 2, 8)
	wantShip(t, two, 200, 0, 0, 8, 8)
	wantNoShip(t, two, 200, 0, 0, 9)
	// Fractions: 10, 40/3, 50/3, 20.
	wantShip(t, tides(0, 10, 3, 20), 113, 100, 0, 0, 1)
	wantShip(t, tides(0, 10, 3, 20), 114, 100, 0, 0, 2)
	wantShip(t, tides(0, 10, 3, 20), 117, 100, 0, 0, 3)
	wantNoShip(t, tides(0, 10, 3, 20), 117, 100, 0, 1)
}

// The hour from is one at which the table must hold, too.
func TestShipWindowFromTheEndsOfTheTable(t *testing.T) {
	list := tides(5, 400, 9, 100, 15, 400)
	wantNoShip(t, list, 200, 0, 4, 0)
	wantNoShip(t, list, 200, 0, 0, 0)
	wantNoShip(t, list, 200, 0, -1, 0)
	wantShip(t, list, 200, 0, 5, 0, 5)
	wantShip(t, list, 200, 0, 5, 2, 5)
	wantShip(t, list, 200, 0, 5, 3, 11)
	wantShip(t, list, 200, 0, 7, 0, 7)
	wantShip(t, list, 200, 0, 8, 0, 11)
	wantShip(t, list, 200, 0, 15, 0, 15)
	wantNoShip(t, list, 200, 0, 15, 1)
	wantNoShip(t, list, 200, 0, 16, 0)
	wantNoShip(t, list, 0, 3000, 4, 0)
	wantNoShip(t, list, 0, 3000, 16, 0)
	for _, from := range outsideOf(5, 15) {
		for _, hours := range []int{0, 1, 10, 240} {
			wantNoShip(t, list, 200, 0, from, hours)
			wantNoShip(t, list, 0, 3000, from, hours)
		}
	}
	for _, from := range outsideOf(0, 240) {
		wantNoShip(t, tides(0, 5, 240, 3), 0, 0, from, 0)
	}
}

// A bottom that is deep enough by itself leaves the table alone to decide.
func TestShipWindowOfDeepBottoms(t *testing.T) {
	for _, list := range [][]impl.Tide{tides(0, 0, 240, 1), tides(3, 0, 10, 2000, 17, 0), tides(100, 7, 103, 5)} {
		first, last := firstTide(list), lastTide(list)
		for _, deep := range [][2]int{{0, 0}, {0, 3000}, {3000, 3000}, {1500, 1500}, {1499, 1500}, {1, 3000}} {
			wantShip(t, list, deep[0], deep[1], first, 0, first)
			wantShip(t, list, deep[0], deep[1], first, last-first, first)
			wantNoShip(t, list, deep[0], deep[1], first, min(last-first+1, 241))
			wantShip(t, list, deep[0], deep[1], last, 0, last)
			wantNoShip(t, list, deep[0], deep[1], last, 1)
			wantShip(t, list, deep[0], deep[1], first+1, last-first-1, first+1)
			wantNoShip(t, list, deep[0], deep[1], first+1, last-first)
		}
	}
	// The bottom and the highest water together are just enough, or too little.
	list := tides(0, 0, 10, 2000, 20, 0)
	wantShip(t, list, 3000, 1000, 0, 0, 10)
	wantNoShip(t, list, 3000, 999, 0, 0)
	wantShip(t, list, 2000, 0, 0, 0, 10)
	wantNoShip(t, list, 2001, 0, 0, 0)
	wantNoShip(t, list, 3000, 0, 0, 0)
	wantShip(t, list, 3000, 2999, 0, 0, 1)
	wantShip(t, list, 3000, 2999, 0, 18, 1)
	wantNoShip(t, list, 3000, 2999, 0, 19)
}

func TestShipWindowOutOfRange(t *testing.T) {
	for _, list := range [][]impl.Tide{tides(0, 100, 6, 400, 12, 100), tides(0, 2000, 240, 0)} {
		for _, n := range outsideOf(0, 3000) {
			for _, other := range []int{-1, 0, 1000, 3000, 3001} {
				wantNoShip(t, list, n, other, 0, 0)
				wantNoShip(t, list, other, n, 0, 0)
				wantNoShip(t, list, n, n, 0, 0)
			}
		}
		for _, hours := range outsideOf(0, 240) {
			wantNoShip(t, list, 0, 0, 0, hours)
			wantNoShip(t, list, 0, 3000, 0, hours)
			wantNoShip(t, list, 3000, 0, 6, hours)
		}
		wantShip(t, list, 0, 0, 0, 0, 0)
		wantShip(t, list, 3000, 3000, 0, 0, 0)
		wantShip(t, list, 0, 3000, 0, 0, 0)
		wantNoShip(t, list, 3000, 0, 0, 0)
	}
	// The whole table, and one hour more than any table has.
	wantShip(t, tides(0, 2000, 240, 0), 0, 0, 0, 240, 0)
	wantNoShip(t, tides(0, 2000, 240, 0), 0, 0, 0, 241)
	wantNoShip(t, tides(0, 2000, 240, 0), 0, 0, 1, 240)
	wantNoShip(t, tides(0, 2000, 239, 0), 0, 0, 0, 240)
}

func TestShipWindowsOfAllSmallTides(t *testing.T) {
	found, missing := 0, 0
	for _, list := range smallTides(4) {
		first, last := firstTide(list), lastTide(list)
		for from := first - 1; from <= last+1; from++ {
			for hours := range 5 {
				for draft := 10; draft <= 14; draft++ {
					if !isBetween(from, first, last) {
						wantNoShip(t, list, draft, 10, from, hours)
					} else if wantShipByTrying(t, list, draft, 10, from, hours) {
						found++
					} else {
						missing++
					}
				}
			}
		}
	}
	if found < 10000 || missing < 10000 {
		t.Errorf("%d times there is such an hour, %d times there is none", found, missing)
	}
}

// No earlier hour would do, by the answers of the program.
func TestNoShipWindowBeginsEarlier(t *testing.T) {
	next := dice(733)
	found, missing, later := 0, 0, 0
	for _, list := range tideSamples(739, 1500) {
		first, last := firstTide(list), lastTide(list)
		for range 4 {
			bottom, from, hours := next(2501), first+next(last-first+1), next(6)*next(5)
			draft := min(bottom+list[next(len(list))].Height+next(9)-4, 3000)
			if draft < 0 {
				continue
			}
			ok := wantShipByTrying(t, list, draft, bottom, from, hours)
			got, _ := impl.ShipWindow(list, draft, bottom, from, hours)
			isGood := func(begin int) bool {
				for hour := begin; hour <= begin+hours; hour++ {
					num, den, ok := impl.HeightAt(list, hour)
					if !ok || bottom*den+num < draft*den {
						return false
					}
				}
				return true
			}
			if !ok {
				missing++
				got = last + 1
			} else if found++; got < from || !isGood(got) {
				t.Fatalf("ShipWindow of %v, %d, %d, %d, %d = %d", list, draft, bottom, from, hours, got)
			}
			for begin := from; begin < got; begin++ {
				if isGood(begin) {
					t.Fatalf("ShipWindow of %v, %d, %d, %d, %d = %d, %v, but %d is good", list, draft, bottom, from, hours, got, ok, begin)
				}
			}
			if ok && got > from {
				later++
			}
		}
	}
	if found < 1000 || missing < 1000 || later < 300 {
		t.Errorf("%d times there is such an hour, %d of them later than from, %d times there is none", found, later, missing)
	}
}

func TestGreatestDraft(t *testing.T) {
	list := tides(2, 100, 8, 400, 14, 100)
	wantDraft(t, list, 1000, 6, 10, 1300)
	wantDraft(t, list, 1000, 6, 9, 1300)
	wantDraft(t, list, 1000, 7, 10, 1300)
	wantDraft(t, list, 1000, 7, 9, 1350)
	// A single hour.
	for hour := 2; hour <= 14; hour++ {
		wantDraft(t, list, 1000, hour, hour, 1400-50*withoutSign(hour-8))
	}
	// The bottom at its limits.
	wantNoDraft(t, list, -1, 7, 9)
	wantDraft(t, list, 0, 7, 9, 350)
	wantDraft(t, list, 1, 7, 9, 351)
	wantDraft(t, list, 2999, 7, 9, 3349)
	wantDraft(t, list, 3000, 7, 9, 3350)
	wantNoDraft(t, list, 3001, 7, 9)
	for _, bottom := range outsideOf(0, 3000) {
		wantNoDraft(t, list, bottom, 7, 9)
		wantNoDraft(t, list, bottom, 2, 14)
	}
	// From greater than to.
	wantNoDraft(t, list, 1000, 9, 8)
	wantNoDraft(t, list, 1000, 14, 2)
	wantNoDraft(t, list, 1000, 3, 2)
	// The ends of the table, and hours outside of it.
	wantDraft(t, list, 1000, 2, 14, 1100)
	wantDraft(t, list, 1000, 2, 2, 1100)
	wantDraft(t, list, 1000, 14, 14, 1100)
	wantNoDraft(t, list, 1000, 1, 14)
	wantNoDraft(t, list, 1000, 2, 15)
	wantNoDraft(t, list, 1000, 1, 1)
	wantNoDraft(t, list, 1000, 15, 15)
	wantNoDraft(t, list, 1000, 1, 15)
	for _, hour := range outsideOf(2, 14) {
		wantNoDraft(t, list, 1000, hour, 8)
		wantNoDraft(t, list, 1000, 8, hour)
		wantNoDraft(t, list, 1000, hour, hour)
		wantNoDraft(t, list, 1000, -hour, hour)
	}
	// The lowest water is inside, at the beginning or at the end.
	low := tides(0, 500, 6, 20, 12, 800, 18, 7)
	wantDraft(t, low, 10, 1, 12, 30)
	wantDraft(t, low, 10, 0, 18, 17)
	wantDraft(t, low, 10, 7, 12, 160)
	wantDraft(t, low, 10, 0, 5, 110)
	// The greatest and the smallest drafts that there are.
	wantDraft(t, tides(0, 2000, 240, 0), 3000, 0, 0, 5000)
	wantDraft(t, tides(0, 2000, 240, 0), 0, 0, 240, 0)
	wantDraft(t, tides(0, 2000, 240, 0), 0, 240, 240, 0)
	wantDraft(t, tides(0, 2000, 240, 0), 3000, 240, 240, 3000)
	wantDraft(t, tides(0, 2000, 240, 0), 3000, 0, 240, 3000)
}

// Fractions are rounded down.
func TestGreatestDraftOfFractions(t *testing.T) {
	// 10, 40/3, 50/3, 20.
	list := tides(0, 10, 3, 20)
	wantDraft(t, list, 100, 0, 3, 110)
	wantDraft(t, list, 100, 1, 3, 113)
	wantDraft(t, list, 100, 2, 3, 116)
	wantDraft(t, list, 100, 2, 2, 116)
	wantDraft(t, list, 100, 3, 3, 120)
	list = tides(0, 20, 3, 10)
	wantDraft(t, list, 100, 0, 1, 116)
	wantDraft(t, list, 100, 0, 2, 113)
	wantDraft(t, list, 100, 0, 3, 110)
	wantDraft(t, tides(0, 0, 240, 1), 5, 1, 239, 5)
	wantDraft(t, tides(0, 0, 240, 1), 5, 239, 239, 5)
	wantDraft(t, tides(0, 0, 240, 1), 5, 240, 240, 6)
	wantDraft(t, tides(0, 2000, 240, 1999), 5, 0, 1, 2004)
	wantDraft(t, tides(0, 2000, 240, 1999), 5, 0, 239, 2004)
	wantDraft(t, tides(4, 1, 6, 2), 0, 5, 6, 1)
}

// One centimeter more of draft is too much at some hour, by the answers of the program.
func TestOneCentimeterMoreOfDraftIsTooMuch(t *testing.T) {
	next := dice(743)
	rounded := 0
	for _, list := range slices.Concat(smallTides(4), tideSamples(751, 1000)) {
		first, last := firstTide(list), lastTide(list)
		for range 3 {
			from, bottom := first+next(last-first+1), next(3001)
			to := from + next(last-from+1)
			draft, ok := impl.GreatestDraft(list, bottom, from, to)
			wantDraft(t, list, bottom, from, to, draftByFloor(list, bottom, from, to))
			tooMuch, exact := false, false
			for hour := from; hour <= to; hour++ {
				num, den, fine := impl.HeightAt(list, hour)
				if !ok || !fine || bottom*den+num < draft*den {
					t.Fatalf("GreatestDraft of %v, %d, %d, %d = %d, %v, but at %d the height is %d / %d", list, bottom, from, to, draft, ok, hour, num, den)
				}
				tooMuch = tooMuch || bottom*den+num < (draft+1)*den
				exact = exact || bottom*den+num == draft*den
			}
			if !tooMuch {
				t.Fatalf("GreatestDraft of %v, %d, %d, %d = %d, but one more is not too much", list, bottom, from, to, draft)
			}
			if !exact {
				rounded++
			}
			// A ship with this draft can lie there for all these hours.
			if draft <= 3000 {
				wantShip(t, list, draft, bottom, from, to-from, from)
			}
			if got, ok := impl.ShipWindow(list, draft+1, bottom, from, to-from); ok && got == from {
				t.Fatalf("ShipWindow of %v, %d, %d, %d, %d = %d", list, draft+1, bottom, from, to-from, got)
			}
		}
	}
	if rounded < 1000 {
		t.Errorf("only %d drafts are rounded", rounded)
	}
}

func TestTurningHours(t *testing.T) {
	list := tides(0, 100, 6, 400, 12, 100)
	wantTurning(t, list, true, 6)
	wantTurning(t, list, false, 0, 12)
	list = tides(0, 400, 6, 100, 12, 400)
	wantTurning(t, list, true, 0, 12)
	wantTurning(t, list, false, 6)
	// Two tides, of which one is high and one is low.
	wantTurning(t, tides(3, 5, 9, 8), true, 9)
	wantTurning(t, tides(3, 5, 9, 8), false, 3)
	wantTurning(t, tides(3, 8, 9, 5), true, 3)
	wantTurning(t, tides(3, 8, 9, 5), false, 9)
	wantTurning(t, tides(0, 0, 240, 2000), true, 240)
	wantTurning(t, tides(0, 0, 240, 2000), false, 0)
	// Longer tables, in which a low water may be higher than a high one elsewhere.
	list = tides(1, 50, 2, 90, 5, 80, 7, 1000, 8, 95, 20, 96)
	wantTurning(t, list, true, 2, 7, 20)
	wantTurning(t, list, false, 1, 5, 8)
	wantTurning(t, list[1:], true, 2, 7, 20)
	wantTurning(t, list[1:], false, 5, 8)
	wantTurning(t, list[:5], true, 2, 7)
	wantTurning(t, list[:5], false, 1, 5, 8)
	all := steadyTides(20, 7, 12, 3, 9)
	wantTurning(t, all, true, 19, 43, 67, 91, 115, 139, 163, 187, 211, 235)
	wantTurning(t, all, false, 7, 31, 55, 79, 103, 127, 151, 175, 199, 223)
}

// Every tide turns, and high and low waters alternate.
func TestEveryTideTurns(t *testing.T) {
	for _, list := range slices.Concat(smallTides(4), tideSamples(757, 500)) {
		high, ok := impl.TurningHours(list, true)
		low, fine := impl.TurningHours(list, false)
		all := slices.Sorted(slices.Values(slices.Concat(high, low)))
		hours := []int{}
		for _, x := range list {
			hours = append(hours, x.Hour)
		}
		if !ok || !fine || !slices.Equal(all, hours) || !slices.IsSorted(high) || !slices.IsSorted(low) || withoutSign(len(high)-len(low)) > 1 {
			t.Errorf("TurningHours of %v = %v, %v and %v, %v", list, high, ok, low, fine)
		}
	}
}

func TestMeanHeight(t *testing.T) {
	wantMean(t, tides(0, 100, 6, 400, 12, 100), 250, 1)
	wantMean(t, tides(0, 100, 6, 400), 250, 1)
	wantMean(t, tides(0, 400, 6, 100), 250, 1)
	// Halves and other fractions.
	wantMean(t, tides(0, 1, 1, 2), 3, 2)
	wantMean(t, tides(5, 2, 12, 1), 3, 2)
	wantMean(t, tides(0, 0, 240, 1), 1, 2)
	wantMean(t, tides(239, 1999, 240, 2000), 3999, 2)
	wantMean(t, tides(0, 0, 240, 2000), 1000, 1)
	// The times between the tides count.
	wantMean(t, tides(0, 0, 1, 6, 3, 0), 3, 1)
	wantMean(t, tides(0, 0, 1, 6, 3, 2), 11, 3)
	wantMean(t, tides(0, 0, 2, 6, 3, 2), 10, 3)
	wantMean(t, tides(4, 0, 5, 6, 7, 3), 4, 1)
	wantMean(t, tides(4, 9, 5, 6, 7, 8), 43, 6)
	wantMean(t, tides(4, 9, 5, 6, 9, 8), 71, 10)
	wantMean(t, tides(10, 3, 11, 0, 240, 1), 58, 115)
}

func TestMeanHeightOfFractionsThatCanBeReduced(t *testing.T) {
	wantMean(t, tides(0, 0, 2, 1), 1, 2)
	wantMean(t, tides(0, 0, 2, 2, 4, 0), 1, 1)
	wantMean(t, tides(0, 0, 3, 1, 6, 0), 1, 2)
	wantMean(t, tides(0, 1, 3, 0, 6, 1, 9, 0), 1, 2)
	wantMean(t, tides(0, 0, 1, 3, 2, 2, 4, 6), 3, 1)
}

// The mean lies between the lowest and the highest water, and that of a part and the rest is
// weighed by their times.
func TestTheMeanLiesBetweenTheTides(t *testing.T) {
	next := dice(761)
	fractions := 0
	for _, list := range slices.Concat(smallTides(4), tideSamples(769, 1000)) {
		lowest, highest := 2000, 0
		for _, x := range list {
			lowest, highest = min(lowest, x.Height), max(highest, x.Height)
		}
		num, den, ok := impl.MeanHeight(list)
		if !ok || num <= lowest*den || num >= highest*den {
			t.Errorf("MeanHeight of %v = %d, %d, %v", list, num, den, ok)
		}
		if den > 1 {
			fractions++
		}
		if len(list) < 3 {
			continue
		}
		cut := 1 + next(len(list)-2)
		a, b, _ := impl.MeanHeight(list[:cut+1])
		c, d, _ := impl.MeanHeight(list[cut:])
		early := new(big.Rat).Mul(fraction(a, b), whole(list[cut].Hour-firstTide(list)))
		late := new(big.Rat).Mul(fraction(c, d), whole(lastTide(list)-list[cut].Hour))
		sum := early.Add(early, late)
		wantFraction(t, fmt.Sprint("MeanHeight of ", list), num, den, ok, sum.Quo(sum, whole(lastTide(list)-firstTide(list))))
	}
	if fractions < 500 {
		t.Errorf("only %d means are fractions", fractions)
	}
}

func TestShiftTides(t *testing.T) {
	list := tides(3, 100, 9, 400, 15, 50)
	wantTidesShifted(t, list, 0, 0, list)
	wantTidesShifted(t, list, 1, -50, tides(4, 50, 10, 350, 16, 0))
	wantTidesShifted(t, list, -3, 7, tides(0, 107, 6, 407, 12, 57))
	wantTidesShifted(t, list, 225, 1600, tides(228, 1700, 234, 2000, 240, 1650))
	// Below the hour 0 and above MaxLogHour, below the height 0 and above MaxHeight.
	wantTidesNotShifted(t, list, -4, 0)
	wantTidesNotShifted(t, list, 226, 0)
	wantTidesNotShifted(t, list, 0, -51)
	wantTidesNotShifted(t, list, 0, 1601)
	wantTidesNotShifted(t, list, -4, 7)
	wantTidesNotShifted(t, list, 1, -51)
	wantTidesNotShifted(t, list, -4, 1601)
	for hours := -20; hours <= 250; hours++ {
		if wantTidesShiftedIfValid(t, list, hours, 0) != isBetween(hours, -3, 225) {
			t.Errorf("the oracle is wrong about %d hours", hours)
		}
	}
	for height := -120; height <= 1700; height++ {
		if wantTidesShiftedIfValid(t, list, 0, height) != isBetween(height, -50, 1600) {
			t.Errorf("the oracle is wrong about the height %d", height)
		}
	}
	// A table that fills the hours and the heights.
	full := tides(0, 0, 240, 2000)
	wantTidesShifted(t, full, 0, 0, full)
	for _, n := range []int{-1, 1, -240, 240, -2000, 2000} {
		wantTidesNotShifted(t, full, n, 0)
		wantTidesNotShifted(t, full, 0, n)
	}
	// A list that is not valid is not shifted into one that is.
	wantTidesNotShifted(t, tides(-1, 5, 3, 8), 1, 0)
	wantTidesNotShifted(t, tides(230, 5, 241, 8), -1, 0)
	wantTidesNotShifted(t, tides(1, -1, 3, 8), 0, 1)
	wantTidesNotShifted(t, tides(1, 5, 3, 2001), 0, -1)
	wantTidesNotShifted(t, tides(math.MinInt, 5, math.MinInt+3, 8), math.MinInt, 0)
	wantTidesNotShifted(t, tides(math.MaxInt-3, 5, math.MaxInt, 8), -math.MaxInt+3, 0)
}

// Very large shifts overflow, and never come back to a table.
func TestVeryLargeShifts(t *testing.T) {
	great := []int{
		math.MaxInt, math.MaxInt - 1, math.MaxInt - 9, math.MaxInt - 240, math.MaxInt - 2000, math.MinInt, math.MinInt + 1, math.MinInt + 9,
		math.MinInt + 240, 1 << 62, -1 << 62, 1 << 32, -1 << 32, 1<<32 + 1, 1 << 31, -1 << 31, 1 << 16, -1 << 16, 10000, -10000,
	}
	for _, list := range [][]impl.Tide{tides(3, 100, 9, 400, 15, 50), tides(0, 0, 240, 2000), tides(0, 1, 1, 0), tides(239, 2000, 240, 1999)} {
		for _, n := range great {
			wantTidesNotShifted(t, list, n, 0)
			wantTidesNotShifted(t, list, 0, n)
			for _, k := range great {
				wantTidesNotShifted(t, list, n, k)
			}
		}
	}
}

// What is shifted forth and back is as it was, and the heights go along.
func TestShiftedTidesComeBack(t *testing.T) {
	next := dice(773)
	valid, invalid := 0, 0
	for _, list := range slices.Concat(smallTides(3), tideSamples(787, 1000)) {
		hours, height := next(31)-15, next(201)-100
		if next(3) == 0 {
			hours, height = next(481)-240, next(4001)-2000
		}
		if !wantTidesShiftedIfValid(t, list, hours, height) {
			invalid++
			continue
		}
		valid++
		shifted, _ := impl.ShiftTides(list, hours, height)
		for hour := firstTide(list); hour <= lastTide(list); hour++ {
			num, den, _ := impl.HeightAt(list, hour)
			wantHeight(t, shifted, hour+hours, num+height*den, den)
		}
		num, den, _ := impl.MeanHeight(list)
		wantMean(t, shifted, num+height*den, den)
		num, den, index, _ := impl.SteepestChange(list)
		wantSteepest(t, shifted, num, den, index)
	}
	if valid < 300 || invalid < 300 {
		t.Errorf("%d shifts succeed and %d fail", valid, invalid)
	}
}

func TestSteepestChange(t *testing.T) {
	wantSteepest(t, tides(0, 100, 6, 400, 12, 100), 50, 1, 0)
	wantSteepest(t, tides(0, 0, 240, 1), 1, 240, 0)
	wantSteepest(t, tides(0, 1, 240, 0), 1, 240, 0)
	wantSteepest(t, tides(0, 0, 1, 2000), 2000, 1, 0)
	wantSteepest(t, tides(239, 2000, 240, 0), 2000, 1, 0)
	wantSteepest(t, tides(5, 10, 9, 4), 3, 2, 0)
	// The steepest one is a change that falls, or one that rises.
	wantSteepest(t, tides(0, 100, 6, 400, 11, 100), 60, 1, 1)
	wantSteepest(t, tides(0, 100, 6, 400, 13, 100), 50, 1, 0)
	wantSteepest(t, tides(0, 400, 6, 100, 11, 400), 60, 1, 1)
	wantSteepest(t, tides(0, 400, 5, 100, 11, 400), 60, 1, 0)
	// The greatest change in all is not the greatest one per hour.
	wantSteepest(t, tides(0, 0, 10, 1000, 12, 700), 150, 1, 1)
	wantSteepest(t, tides(0, 0, 10, 1000, 13, 699), 301, 3, 1)
	wantSteepest(t, tides(0, 0, 10, 1000, 13, 701), 100, 1, 0)
	wantSteepest(t, tides(0, 0, 10, 1000, 13, 700), 100, 1, 0)
	// Fractions that are close to each other.
	wantSteepest(t, tides(0, 0, 100, 99, 199, 1), 99, 100, 0)
	wantSteepest(t, tides(0, 0, 99, 98, 199, 1), 98, 99, 0)
	wantSteepest(t, tides(0, 99, 100, 0, 199, 98), 99, 100, 0)
	wantSteepest(t, tides(0, 98, 99, 0, 199, 99), 99, 100, 1)
	// Fractions that can be reduced.
	wantSteepest(t, tides(0, 0, 12, 8), 2, 3, 0)
	wantSteepest(t, tides(0, 8, 12, 2), 1, 2, 0)
}

// The first pair shows.
func TestSteepestChangeOfSeveral(t *testing.T) {
	for count := 2; count <= 20; count++ {
		wantSteepest(t, steadyTides(count, 0, 4, 3, 9), 3, 2, 0)
		wantSteepest(t, steadyTides(count, 0, 4, 9, 3), 3, 2, 0)
	}
	// Equal changes per hour in different times.
	wantSteepest(t, tides(0, 0, 2, 6, 5, 0), 3, 1, 0)
	wantSteepest(t, tides(0, 3, 2, 7, 5, 1, 6, 3), 2, 1, 0)
	wantSteepest(t, tides(0, 4, 4, 10, 6, 7, 12, 16), 3, 2, 0)
	// The first change is not one of the steepest ones.
	wantSteepest(t, tides(0, 4, 4, 5, 6, 2, 12, 11), 3, 2, 1)
	wantSteepest(t, tides(0, 4, 4, 5, 6, 2, 12, 3, 14, 0), 3, 2, 1)
	wantSteepest(t, tides(0, 4, 4, 5, 6, 3, 12, 12, 14, 9, 16, 12), 3, 2, 2)
	// The last one is steeper than those that tie before it.
	list := steadyTides(20, 0, 4, 3, 9)
	list[19].Height = 10
	wantSteepest(t, list, 7, 4, 18)
	list[19] = impl.Tide{Hour: 75, Height: 9}
	wantSteepest(t, list, 2, 1, 18)
	list[19] = impl.Tide{Hour: 77, Height: 9}
	wantSteepest(t, list, 3, 2, 0)
}

// No pair of neighbors has a greater change, and none before the first one has the same.
func TestNoChangeIsSteeperThanTheSteepest(t *testing.T) {
	ties, falling, later := 0, 0, 0
	for _, list := range slices.Concat(smallTides(4), tideSamples(797, 1000)) {
		num, den, index, ok := impl.SteepestChange(list)
		if !ok || !isBetween(index, 0, len(list)-2) {
			t.Fatalf("SteepestChange of %v = %d, %d, %d, %v", list, num, den, index, ok)
		}
		for i := range len(list) - 1 {
			change, hours := list[i+1].Height-list[i].Height, list[i+1].Hour-list[i].Hour
			steeper := withoutSign(change)*den - num*hours
			if steeper > 0 || steeper == 0 && i < index || steeper != 0 && i == index {
				t.Fatalf("SteepestChange of %v = %d, %d, %d, but that of %d is %d in %d hours", list, num, den, index, i, change, hours)
			}
			if i == index && change < 0 {
				falling++
			}
		}
		if _, _, count := steepestByRat(list); count > 1 {
			ties++
		}
		if index > 0 {
			later++
		}
	}
	if ties < 500 || falling < 500 || later < 500 {
		t.Errorf("%d times several pairs tie, %d times the water falls, %d times it is not the first pair", ties, falling, later)
	}
}

// tideAnswers has what every function of chapter 15 says of a list.
func tideAnswers(list []impl.Tide) []string {
	var all []string
	add := func(parts ...any) { all = append(all, fmt.Sprintln(parts...)) }
	add("valid", impl.IsValidTides(list))
	for _, n := range []int{-1, 0, 1, 3, 7, 50, 240, 241, 2000, 2001, 3000, 3001} {
		num, den, ok := impl.HeightAt(list, n)
		add("height", n, num, den, ok)
		windows, ok := impl.DeepWindows(list, n)
		add("windows", n, windows, ok)
		for _, from := range []int{0, 3, 50} {
			ship, ok := impl.ShipWindow(list, 100+n, 100, from, 2)
			add("ship", n, from, ship, ok)
			draft, ok := impl.GreatestDraft(list, 100, from, n)
			add("draft", n, from, draft, ok)
		}
		shifted, ok := impl.ShiftTides(list, n, -n)
		add("shifted", n, shifted, ok)
		shifted, ok = impl.ShiftTides(list, -n, n)
		add("shifted back", n, shifted, ok)
	}
	high, ok := impl.TurningHours(list, true)
	add("high", high, ok)
	low, ok := impl.TurningHours(list, false)
	add("low", low, ok)
	num, den, ok := impl.MeanHeight(list)
	add("mean", num, den, ok)
	num, den, index, ok := impl.SteepestChange(list)
	add("steepest", num, den, index, ok)
	return all
}

// Tables in arrays with something behind them are answered like separate ones, and none of them
// is changed.
func TestTidesAreLeftAlone(t *testing.T) {
	for _, list := range slices.Concat(smallTides(3), tideSamples(809, 200)) {
		want := tideAnswers(list)
		for _, filler := range tides(0, 0, 240, 2000, -7, -7, lastTide(list)+1, 1000) {
			part, array := withRoom(list, filler)
			if got := tideAnswers(part); !slices.Equal(got, want) {
				t.Errorf("the answers about %v with %v behind are others", list, filler)
			}
			if !slices.Equal(array, append(slices.Clone(list), filler, filler, filler)) {
				t.Errorf("the table %v is changed to %v", list, array)
			}
		}
	}
	for name, list := range badTideLists() {
		before := slices.Clone(list)
		tideAnswers(list)
		if !slices.Equal(list, before) {
			t.Errorf("%s: the list is changed", name)
		}
	}
}

// newTideLists calls every function of chapter 15 that returns a slice.
func newTideLists(list []impl.Tide) ([][]impl.Window, [][]int, [][]impl.Tide) {
	var windows [][]impl.Window
	for _, depth := range depthsOf(list) {
		some, _ := impl.DeepWindows(list, depth)
		windows = append(windows, some)
	}
	high, _ := impl.TurningHours(list, true)
	low, _ := impl.TurningHours(list, false)
	same, _ := impl.ShiftTides(list, 0, 0)
	other, _ := impl.ShiftTides(list, 1, 1)
	return windows, [][]int{high, low}, [][]impl.Tide{same, other}
}

// A result that is changed changes neither the table nor what is said later, and a changed table
// changes no result.
func TestResultsAboutTidesAreNew(t *testing.T) {
	for _, sample := range slices.Concat(smallTides(3), tideSamples(811, 200)) {
		list := slices.Clone(sample)
		want := tideAnswers(list)
		windows, hours, shifted := newTideLists(list)
		windowsAgain, hoursAgain, shiftedAgain := newTideLists(list)
		if sharesElement(slices.Concat(windows, windowsAgain)...) || sharesElement(slices.Concat(hours, hoursAgain)...) ||
			sharesElement(slices.Concat(shifted, shiftedAgain, [][]impl.Tide{list})...) {
			t.Fatalf("results for %v share memory", sample)
		}
		for _, some := range windows {
			spoilAll(some, impl.Window{From: -7, To: -7})
		}
		for _, some := range hours {
			spoil(some)
		}
		for _, some := range shifted {
			spoilAll(some, impl.Tide{Hour: -7, Height: -7})
		}
		if got := tideAnswers(list); !slices.Equal(got, want) || !slices.Equal(list, sample) {
			t.Fatalf("the answers about %v are others the second time", sample)
		}
		before := fmt.Sprint(windowsAgain, hoursAgain, shiftedAgain)
		spoilAll(list, impl.Tide{Hour: -7, Height: -7})
		if fmt.Sprint(windowsAgain, hoursAgain, shiftedAgain) != before {
			t.Fatalf("a change of %v changes a result", sample)
		}
	}
}
