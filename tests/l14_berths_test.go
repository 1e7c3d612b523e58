package tests

import (
	"fmt"
	"math"
	"slices"
	"testing"

	"loop.example/g00906/impl"
)

// quayList is a quay with ships.
type quayList struct {
	quay int
	list []impl.Ship
}

// quayPlan has a plan, too.
type quayPlan struct {
	quay int
	list []impl.Ship
	plan []impl.Berth
}

// ships reads a Length, an Arrive, an Hours and a Weight for every ship.
func ships(numbers ...int) []impl.Ship {
	list := []impl.Ship{}
	for part := range slices.Chunk(numbers, 4) {
		list = append(list, impl.Ship{Length: part[0], Arrive: part[1], Hours: part[2], Weight: part[3]})
	}
	return list
}

// berths reads a Place and a Start for every berth.
func berths(numbers ...int) []impl.Berth {
	plan := []impl.Berth{}
	for part := range slices.Chunk(numbers, 2) {
		plan = append(plan, impl.Berth{Place: part[0], Start: part[1]})
	}
	return plan
}

func equalShips(count int, x impl.Ship) []impl.Ship { return slices.Repeat([]impl.Ship{x}, count) }

func equalBerths(count int, place int, start int) []impl.Berth {
	return slices.Repeat(berths(place, start), count)
}

// shipOrder is an order.
func shipOrder(order ...int) []int { return order }

// isShipByRule is an oracle.
func isShipByRule(x impl.Ship) bool {
	return isBetween(x.Length, 1, 30) && isBetween(x.Arrive, 0, 200) && isBetween(x.Hours, 1, 48) && isBetween(x.Weight, 1, 9)
}

// areShipsByRule is an oracle.
func areShipsByRule(list []impl.Ship) bool {
	return len(list) < 6 && !slices.ContainsFunc(list, func(x impl.Ship) bool { return !isShipByRule(x) })
}

// useByCells marks every section at every hour with the ship that lies there, and reports whether
// the plan is possible, as an oracle for valid quays and ships.
func useByCells(quay int, list []impl.Ship, plan []impl.Berth) (map[[2]int]int, bool) {
	use := map[[2]int]int{}
	if len(plan) != len(list) {
		return nil, false
	}
	for i, x := range list {
		at := plan[i]
		if !isBetween(at.Place, 0, quay-1) || !isBetween(at.Start, x.Arrive, 1000) {
			return nil, false
		}
		for section := at.Place; section < at.Place+x.Length; section++ {
			for hour := at.Start; hour < at.Start+x.Hours; hour++ {
				if _, used := use[[2]int{section, hour}]; used || section >= quay {
					return nil, false
				}
				use[[2]int{section, hour}] = i
			}
		}
	}
	return use, true
}

// isFreeFor compares the first and the last common section and hour with every other ship that
// has a berth, as an oracle.
func isFreeFor(list []impl.Ship, plan map[int]impl.Berth, ship int, at impl.Berth) bool {
	x := list[ship]
	for i, other := range plan {
		sections := min(at.Place+x.Length, other.Place+list[i].Length) - max(at.Place, other.Place)
		hours := min(at.Start+x.Hours, other.Start+list[i].Hours) - max(at.Start, other.Start)
		if sections > 0 && hours > 0 {
			return false
		}
	}
	return true
}

// berthByTrying tries every hour from the arrival on, and every place, as an oracle.
func berthByTrying(quay int, list []impl.Ship, plan map[int]impl.Berth, ship int) impl.Berth {
	for start := list[ship].Arrive; start <= 1000; start++ {
		for place := 0; place+list[ship].Length <= quay; place++ {
			if at := (impl.Berth{Place: place, Start: start}); isFreeFor(list, plan, ship, at) {
				return at
			}
		}
	}
	return impl.Berth{Place: -1, Start: -1}
}

// planByTrying is an oracle for ships that are not longer than the quay.
func planByTrying(quay int, list []impl.Ship, order []int) []impl.Berth {
	chosen := map[int]impl.Berth{}
	for _, ship := range order {
		chosen[ship] = berthByTrying(quay, list, chosen, ship)
	}
	plan := []impl.Berth{}
	for i := range list {
		plan = append(plan, chosen[i])
	}
	return plan
}

// costByHours counts every hour that a ship waits, as an oracle.
func costByHours(list []impl.Ship, plan []impl.Berth) int {
	cost := 0
	for i, x := range list {
		for hour := x.Arrive; hour < plan[i].Start; hour++ {
			cost += x.Weight
		}
	}
	return cost
}

func waitsByHand(list []impl.Ship, plan []impl.Berth) []int {
	waits := []int{}
	for i, x := range list {
		waits = append(waits, plan[i].Start-x.Arrive)
	}
	return waits
}

func lastByHand(list []impl.Ship, plan []impl.Berth) int {
	ends := []int{0}
	for i, x := range list {
		ends = append(ends, plan[i].Start+x.Hours)
	}
	return slices.Max(ends)
}

// shipOrders has all orders of so many ships, in lexicographic order.
func shipOrders(count int) [][]int {
	return slices.DeleteFunc(listsOf(count, count), func(list []int) bool {
		return len(slices.Compact(slices.Sorted(slices.Values(list)))) < count
	})
}

// bestOfOrders compares all orders, as an oracle. It also returns how many of them are best.
func bestOfOrders(quay int, list []impl.Ship) ([]int, int, int) {
	var best []int
	smallest, count := 0, 0
	for _, order := range shipOrders(len(list)) {
		cost := costByHours(list, planByTrying(quay, list, order))
		switch {
		case count == 0 || cost < smallest:
			best, smallest, count = order, cost, 1
		case cost == smallest:
			count++
			if slices.Compare(order, best) < 0 {
				best = order
			}
		}
	}
	return best, smallest, count
}

// smallShips has all ships with small numbers.
func smallShips(length int, arrive int, hours int, weight int) []impl.Ship {
	var all []impl.Ship
	for l := range length {
		for a := range arrive {
			for h := range hours {
				for w := range weight {
					all = append(all, impl.Ship{Length: l + 1, Arrive: a, Hours: h + 1, Weight: w + 1})
				}
			}
		}
	}
	return all
}

// smallQuays has all lists of up to so many small ships at quays of up to 3 sections.
func smallQuays(most int) []quayList {
	var all []quayList
	for quay := 1; quay <= 3; quay++ {
		some := smallShips(min(quay, 2), 2, 2, 2)
		if quay == 3 {
			some = append(some, ships(3, 0, 1, 1, 3, 1, 2, 3)...)
		}
		for count := 0; count <= most; count++ {
			for _, list := range listsOf(count, len(some)) {
				x := quayList{quay: quay}
				for _, i := range list {
					x.list = append(x.list, some[i])
				}
				all = append(all, x)
			}
		}
	}
	return all
}

// mixedShip has small numbers, any numbers, numbers at their limits, or a long stay from an early
// hour on.
func mixedShip(next func(n int) int, kind int, quay int) impl.Ship {
	pick := func(numbers ...int) int { return numbers[next(len(numbers))] }
	switch kind {
	case 0:
		return impl.Ship{Length: 1 + next(quay/2+1)%quay, Arrive: next(4), Hours: 1 + next(4), Weight: 1 + next(3)}
	case 1:
		return impl.Ship{Length: 1 + next(quay), Arrive: next(201), Hours: 1 + next(48), Weight: 1 + next(9)}
	case 2:
		return impl.Ship{Length: pick(1, max(1, quay-1), quay), Arrive: pick(0, 1, 199, 200), Hours: pick(1, 2, 47, 48), Weight: pick(1, 2, 8, 9)}
	default:
		return impl.Ship{Length: 1 + next(quay), Arrive: next(20), Hours: 20 + next(29), Weight: 1 + next(9)}
	}
}

// mixedQuay has ships of one kind or of several.
func mixedQuay(next func(n int) int, most int) quayList {
	x, kind := quayList{quay: []int{1 + next(30), 1 + next(5), 30}[next(3)]}, next(5)
	for range next(most + 1) {
		x.list = append(x.list, mixedShip(next, []int{0, 1, 2, 3, next(4)}[kind], x.quay))
	}
	return x
}

func quaySamples(seed int, count int, most int) []quayList {
	next := dice(seed)
	var all []quayList
	for range count {
		all = append(all, mixedQuay(next, most))
	}
	return all
}

// mixedPlanFor has a possible plan in which the ships lie at any places, soon after they arrive or
// much later.
func mixedPlanFor(next func(n int) int, x quayList) quayPlan {
	chosen := map[int]impl.Berth{}
	latest := []int{1, 10, 60, 801}[next(4)]
	for i, ship := range x.list {
		for range 30 {
			at := impl.Berth{Place: next(x.quay - ship.Length + 1), Start: ship.Arrive + next(latest)}
			if at.Start <= 1000 && isFreeFor(x.list, chosen, i, at) {
				chosen[i] = at
				break
			}
		}
		if _, ok := chosen[i]; !ok {
			chosen[i] = berthByTrying(x.quay, x.list, chosen, i)
		}
	}
	p := quayPlan{quay: x.quay, list: x.list, plan: []impl.Berth{}}
	for i := range x.list {
		p.plan = append(p.plan, chosen[i])
	}
	return p
}

func planSamples(seed int, count int) []quayPlan {
	next := dice(seed)
	var all []quayPlan
	for range count {
		all = append(all, mixedPlanFor(next, mixedQuay(next, 5)))
	}
	return all
}

// badShips has ships with one number out of range.
func badShips() map[string]impl.Ship {
	good := impl.Ship{Length: 4, Arrive: 20, Hours: 5, Weight: 3}
	all := map[string]impl.Ship{"all zeros": {}, "all at -1": {Length: -1, Arrive: -1, Hours: -1, Weight: -1}}
	add := func(name string, n int, x impl.Ship) { all[fmt.Sprint(name, " ", n)] = x }
	for _, n := range outsideOf(1, 30) {
		x := good
		x.Length = n
		add("the length", n, x)
	}
	for _, n := range outsideOf(0, 200) {
		x := good
		x.Arrive = n
		add("the arrival", n, x)
	}
	for _, n := range outsideOf(1, 48) {
		x := good
		x.Hours = n
		add("the hours", n, x)
	}
	for _, n := range outsideOf(1, 9) {
		x := good
		x.Weight = n
		add("the weight", n, x)
	}
	return all
}

// badShipLists has lists that are too long, or whose other ships are valid.
func badShipLists() map[string][]impl.Ship {
	good := impl.Ship{Length: 1, Arrive: 3, Hours: 2, Weight: 1}
	all := map[string][]impl.Ship{
		"six": equalShips(6, good), "seven": equalShips(7, good), "very many": equalShips(1<<16, good), "six bad ones": equalShips(6, impl.Ship{}),
	}
	for name, x := range badShips() {
		all["only "+name] = []impl.Ship{x}
		all["first "+name] = []impl.Ship{x, good, good}
		all["in the middle "+name] = []impl.Ship{good, x, good}
		all["last "+name] = []impl.Ship{good, good, x}
		all["last of five "+name] = append(equalShips(4, good), x)
	}
	return all
}

// noOrders has lists that are no orders of so many ships.
func noOrders(count int) [][]int {
	var all [][]int
	for length := range count + 3 {
		var straight []int
		for i := range length {
			straight = append(straight, i)
		}
		if length != count {
			all = append(all, straight, make([]int, length))
			continue
		}
		for i := range length {
			for _, n := range outsideOf(0, count-1) {
				list := slices.Clone(straight)
				list[i] = n
				all = append(all, list)
			}
			for k := range i {
				list := slices.Clone(straight)
				list[i] = k
				turned := slices.Clone(straight)
				turned[k] = i
				all = append(all, list, turned)
			}
		}
	}
	return append(all, make([]int, 1<<16))
}

func wantPossible(t *testing.T, x quayPlan, want bool) {
	t.Helper()
	if got := impl.IsPossiblePlan(x.quay, x.list, x.plan); got != want {
		t.Errorf("IsPossiblePlan of %d, %v, %v = %v, want %v", x.quay, x.list, x.plan, got, want)
	}
}

func wantPlanCost(t *testing.T, x quayPlan, want int) {
	t.Helper()
	if got, ok := impl.PlanCost(x.quay, x.list, x.plan); !ok || got != want {
		t.Errorf("PlanCost of %d, %v, %v = %d, %v, want %d", x.quay, x.list, x.plan, got, ok, want)
	}
}

func wantNextBerth(t *testing.T, x quayPlan, place int, start int) {
	t.Helper()
	if got, ok := impl.NextBerth(x.quay, x.list, x.plan); !ok || got.Place != place || got.Start != start {
		t.Errorf("NextBerth of %d, %v, %v = %v, %v, want %d, %d", x.quay, x.list, x.plan, got, ok, place, start)
	}
}

func wantNoNextBerth(t *testing.T, x quayPlan) {
	t.Helper()
	if got, ok := impl.NextBerth(x.quay, x.list, x.plan); ok || got != (impl.Berth{}) {
		t.Errorf("NextBerth of %d, %.99s, %.99s = %v, %v", x.quay, fmt.Sprint(x.list), fmt.Sprint(x.plan), got, ok)
	}
}

func wantPlanInOrder(t *testing.T, x quayList, order []int, cost int, want []impl.Berth) {
	t.Helper()
	if got, n, ok := impl.PlanInOrder(x.quay, x.list, order); !ok || n != cost || !slices.Equal(got, want) {
		t.Errorf("PlanInOrder of %d, %v, %v = %v, %d, %v, want %v, %d", x.quay, x.list, order, got, n, ok, want, cost)
	}
}

func wantNoPlanInOrder(t *testing.T, x quayList, order []int) {
	t.Helper()
	if got, n, ok := impl.PlanInOrder(x.quay, x.list, order); ok || n != 0 || len(got) != 0 {
		t.Errorf("PlanInOrder of %d, %.99s, %.99s = %v, %d, %v", x.quay, fmt.Sprint(x.list), fmt.Sprint(order), got, n, ok)
	}
}

func wantBestOrder(t *testing.T, x quayList, cost int, order []int, want []impl.Berth) {
	t.Helper()
	got, plan, n, ok := impl.BestOrder(x.quay, x.list)
	if !ok || n != cost || !slices.Equal(got, order) || !slices.Equal(plan, want) {
		t.Errorf("BestOrder of %d, %v = %v, %v, %d, %v, want %v, %v, %d", x.quay, x.list, got, plan, n, ok, order, want, cost)
	}
}

func wantNoBestOrder(t *testing.T, x quayList) {
	t.Helper()
	if got, plan, n, ok := impl.BestOrder(x.quay, x.list); ok || n != 0 || len(got) != 0 || len(plan) != 0 {
		t.Errorf("BestOrder of %d, %.99s = %v, %v, %d, %v", x.quay, fmt.Sprint(x.list), got, plan, n, ok)
	}
}

func wantQuayUse(t *testing.T, x quayPlan, hour int, want ...int) {
	t.Helper()
	if got, ok := impl.QuayUse(x.quay, x.list, x.plan, hour); !ok || !slices.Equal(got, want) {
		t.Errorf("QuayUse of %d, %v, %v at %d = %v, %v, want %v", x.quay, x.list, x.plan, hour, got, ok, want)
	}
}

func wantNoQuayUse(t *testing.T, x quayPlan, hour int) {
	t.Helper()
	if got, ok := impl.QuayUse(x.quay, x.list, x.plan, hour); ok || len(got) != 0 {
		t.Errorf("QuayUse of %d, %.99s, %.99s at %d = %v, %v", x.quay, fmt.Sprint(x.list), fmt.Sprint(x.plan), hour, got, ok)
	}
}

func wantLastHour(t *testing.T, x quayPlan, want int) {
	t.Helper()
	if got, ok := impl.LastHour(x.quay, x.list, x.plan); !ok || got != want {
		t.Errorf("LastHour of %d, %v, %v = %d, %v, want %d", x.quay, x.list, x.plan, got, ok, want)
	}
}

func wantWaits(t *testing.T, x quayPlan, want ...int) {
	t.Helper()
	if got, ok := impl.WaitOf(x.quay, x.list, x.plan); !ok || !slices.Equal(got, want) {
		t.Errorf("WaitOf of %d, %v, %v = %v, %v, want %v", x.quay, x.list, x.plan, got, ok, want)
	}
}

// wantNotPlanned wants zero values of the functions that take a plan for all ships.
func wantNotPlanned(t *testing.T, x quayPlan) {
	t.Helper()
	label := fmt.Sprintf("%d, %.99s, %.99s", x.quay, fmt.Sprint(x.list), fmt.Sprint(x.plan))
	if impl.IsPossiblePlan(x.quay, x.list, x.plan) {
		t.Errorf("IsPossiblePlan of %s", label)
	}
	if n, ok := impl.PlanCost(x.quay, x.list, x.plan); ok || n != 0 {
		t.Errorf("PlanCost of %s = %d, %v", label, n, ok)
	}
	if n, ok := impl.LastHour(x.quay, x.list, x.plan); ok || n != 0 {
		t.Errorf("LastHour of %s = %d, %v", label, n, ok)
	}
	if waits, ok := impl.WaitOf(x.quay, x.list, x.plan); ok || len(waits) != 0 {
		t.Errorf("WaitOf of %s = %v, %v", label, waits, ok)
	}
	for _, hour := range []int{-1, 0, 4, 1100, 1101} {
		wantNoQuayUse(t, x, hour)
	}
}

// wantPlanned compares what the functions say of a possible plan with the oracles.
func wantPlanned(t *testing.T, x quayPlan) {
	t.Helper()
	wantPossible(t, x, true)
	wantPlanCost(t, x, costByHours(x.list, x.plan))
	wantLastHour(t, x, lastByHand(x.list, x.plan))
	wantWaits(t, x, waitsByHand(x.list, x.plan)...)
}

// wantPlannedIfPossible compares a plan of any kind with the oracles, and returns whether it is
// possible.
func wantPlannedIfPossible(t *testing.T, x quayPlan) bool {
	t.Helper()
	_, ok := useByCells(x.quay, x.list, x.plan)
	if ok {
		wantPlanned(t, x)
	} else {
		wantNotPlanned(t, x)
	}
	return ok
}

// wantUsed compares the use of the quay with the plan at an hour.
func wantUsed(t *testing.T, x quayPlan, use map[[2]int]int, hour int) {
	t.Helper()
	want := []int{}
	for section := range x.quay {
		ship, used := use[[2]int{section, hour}]
		if !used {
			ship = -1
		}
		want = append(want, ship)
	}
	wantQuayUse(t, x, hour, want...)
}

// wantNextOfAll compares the next berth after every part of a plan with the oracle, and returns
// the latest Start.
func wantNextOfAll(t *testing.T, x quayPlan) int {
	t.Helper()
	chosen, latest := map[int]impl.Berth{}, 0
	for i := range x.list {
		want := berthByTrying(x.quay, x.list, chosen, i)
		wantNextBerth(t, quayPlan{x.quay, x.list, x.plan[:i]}, want.Place, want.Start)
		chosen[i], latest = x.plan[i], max(latest, want.Start)
	}
	wantNoNextBerth(t, x)
	return latest
}

// wantBerthed compares the plans in all orders and the best of them with the oracles, and returns
// how many orders are best.
func wantBerthed(t *testing.T, x quayList) int {
	t.Helper()
	for _, order := range shipOrders(len(x.list)) {
		plan := planByTrying(x.quay, x.list, order)
		wantPlanInOrder(t, x, order, costByHours(x.list, plan), plan)
	}
	order, cost, count := bestOfOrders(x.quay, x.list)
	wantBestOrder(t, x, cost, order, planByTrying(x.quay, x.list, order))
	return count
}

// wantNotMoored wants zero values for an invalid quay or list, whatever the plan and the order.
func wantNotMoored(t *testing.T, x quayList) {
	t.Helper()
	wantNoBestOrder(t, x)
	straight := []int{}
	for i := range min(len(x.list), 7) {
		straight = append(straight, i)
	}
	for i := range len(straight) + 1 {
		wantNoPlanInOrder(t, x, straight[:i])
	}
	apart := []impl.Berth{}
	for i := range min(len(x.list), 7) {
		apart = append(apart, impl.Berth{Place: 0, Start: 210 + 50*i})
	}
	for i := range len(apart) + 1 {
		wantNotPlanned(t, quayPlan{x.quay, x.list, apart[:i]})
		wantNoNextBerth(t, quayPlan{x.quay, x.list, apart[:i]})
	}
	wantNotPlanned(t, quayPlan{x.quay, x.list, equalBerths(len(x.list), 0, 20)})
	wantNotPlanned(t, quayPlan{x.quay, x.list, equalBerths(len(x.list)+1, 0, 20)})
	wantNoNextBerth(t, quayPlan{x.quay, x.list, equalBerths(len(x.list)+1, 0, 20)})
}

func TestLimitsOfBerths(t *testing.T) {
	if impl.MaxQuay != 30 || impl.MaxShips != 5 || impl.MaxHour != 200 {
		t.Errorf("the limits are %d, %d and %d", impl.MaxQuay, impl.MaxShips, impl.MaxHour)
	}
}

func TestQuaysOfAllLengths(t *testing.T) {
	for quay := -3; quay <= 40; quay++ {
		none := quayList{quay, nil}
		if quay < 1 || quay > 30 {
			wantNotMoored(t, none)
			wantNotMoored(t, quayList{quay, []impl.Ship{}})
			for length := 1; length <= 30; length++ {
				wantNotMoored(t, quayList{quay, ships(length, 3, 2, 1)})
			}
			wantNotMoored(t, quayList{quay, ships(1, 3, 2, 1, 1, 3, 2, 1)})
			continue
		}
		for length := 1; length <= 30; length++ {
			x := quayList{quay, ships(length, 3, 2, 1)}
			if length > quay {
				wantNoBestOrder(t, x)
				continue
			}
			wantBerthed(t, x)
			wantPlanned(t, quayPlan{quay, x.list, berths(quay-length, 7)})
			wantNotPlanned(t, quayPlan{quay, x.list, berths(quay-length+1, 7)})
		}
	}
	for _, quay := range outsideOf(1, 30) {
		wantNotMoored(t, quayList{quay, nil})
		wantNotMoored(t, quayList{quay, ships(1, 3, 2, 1)})
		wantNotMoored(t, quayList{quay, ships(30, 3, 2, 1, 1, 0, 48, 9)})
	}
}

func TestNoShips(t *testing.T) {
	for quay := 1; quay <= 30; quay++ {
		for _, list := range [][]impl.Ship{nil, {}} {
			for _, plan := range [][]impl.Berth{nil, {}} {
				x := quayPlan{quay, list, plan}
				wantPlanned(t, x)
				wantPlanCost(t, x, 0)
				wantLastHour(t, x, 0)
				wantWaits(t, x)
				wantNoNextBerth(t, x)
				for _, hour := range []int{0, 1, 200, 1000, 1099, 1100} {
					wantQuayUse(t, x, hour, slices.Repeat([]int{-1}, quay)...)
				}
				wantNoQuayUse(t, x, -1)
				wantNoQuayUse(t, x, 1101)
			}
			wantPlanInOrder(t, quayList{quay, list}, nil, 0, nil)
			wantPlanInOrder(t, quayList{quay, list}, []int{}, 0, nil)
			wantBestOrder(t, quayList{quay, list}, 0, nil, nil)
			for _, order := range noOrders(0) {
				wantNoPlanInOrder(t, quayList{quay, list}, order)
			}
			wantNotPlanned(t, quayPlan{quay, list, berths(0, 0)})
			wantNoNextBerth(t, quayPlan{quay, list, berths(0, 0)})
		}
	}
}

func TestNumbersOfShips(t *testing.T) {
	for count := range 12 {
		for _, ship := range ships(1, 0, 1, 1, 3, 7, 10, 9, 30, 200, 48, 9) {
			x := quayList{30, equalShips(count, ship)}
			if count > 5 {
				wantNotMoored(t, x)
				continue
			}
			if all := wantBerthed(t, x); all != len(shipOrders(count)) {
				t.Errorf("%d orders of %v are best", all, x.list)
			}
			plan := quayPlan{30, x.list, nil}
			for i := range count {
				plan.plan = append(plan.plan, impl.Berth{Place: 0, Start: 200 + 48*i})
			}
			wantPlanned(t, plan)
			wantNextOfAll(t, plan)
		}
	}
}

// Every number of a ship in and around its range, at every place of a list.
func TestShipsAtTheirLimits(t *testing.T) {
	valid, invalid := 0, 0
	try := func(x impl.Ship) {
		t.Helper()
		for i := range 3 {
			list := ships(2, 20, 3, 1, 5, 21, 4, 2, 30, 19, 5, 3)
			list[i] = x
			if isShipByRule(x) {
				valid++
				wantBerthed(t, quayList{30, list})
			} else {
				invalid++
				wantNotMoored(t, quayList{30, list})
			}
		}
	}
	for _, n := range append(outsideOf(1, 30), 1, 2, 15, 29, 30) {
		try(impl.Ship{Length: n, Arrive: 20, Hours: 5, Weight: 3})
	}
	for _, n := range append(outsideOf(0, 200), 0, 1, 20, 199, 200) {
		try(impl.Ship{Length: 4, Arrive: n, Hours: 5, Weight: 3})
	}
	for _, n := range append(outsideOf(1, 48), 1, 2, 20, 47, 48) {
		try(impl.Ship{Length: 4, Arrive: 20, Hours: n, Weight: 3})
	}
	for _, n := range append(outsideOf(1, 9), 1, 2, 5, 8, 9) {
		try(impl.Ship{Length: 4, Arrive: 20, Hours: 5, Weight: n})
	}
	if valid != 3*4*5 || invalid != 3*4*13 {
		t.Errorf("%d times the ship is valid, %d times it is not", valid, invalid)
	}
	for _, length := range []int{0, 1, 30, 31} {
		for _, arrive := range []int{-1, 0, 200, 201} {
			for _, hours := range []int{0, 1, 48, 49} {
				for _, weight := range []int{0, 1, 9, 10} {
					x := quayPlan{30, ships(length, arrive, hours, weight), berths(0, 1000)}
					if isShipByRule(x.list[0]) {
						wantPlanned(t, x)
					} else {
						wantNotPlanned(t, x)
					}
				}
			}
		}
	}
}

func TestInvalidShipsYieldNothing(t *testing.T) {
	for name, x := range badShips() {
		if isShipByRule(x) {
			t.Errorf("%s: %v is valid", name, x)
		}
	}
	for name, list := range badShipLists() {
		if areShipsByRule(list) {
			t.Errorf("%s: %.99s is valid", name, fmt.Sprint(list))
		}
		wantNotMoored(t, quayList{30, list})
		wantNotMoored(t, quayList{1, list})
	}
	// An invalid ship counts even if it is not the next one.
	for _, bad := range badShips() {
		list := append(ships(2, 0, 3, 1, 2, 0, 3, 1), bad)
		wantNoNextBerth(t, quayPlan{10, list, nil})
		wantNoNextBerth(t, quayPlan{10, list, berths(0, 0)})
		wantNoNextBerth(t, quayPlan{10, list, berths(0, 0, 2, 0)})
	}
	wantNoNextBerth(t, quayPlan{10, equalShips(6, impl.Ship{Length: 1, Hours: 1, Weight: 1}), nil})
	wantNoNextBerth(t, quayPlan{10, equalShips(6, impl.Ship{Length: 1, Hours: 1, Weight: 1}), berths(0, 0)})
}

// Ships that are as long as the quay, and a section longer.
func TestShipsLongerThanTheQuay(t *testing.T) {
	for quay := 1; quay <= 29; quay++ {
		for i := range 3 {
			list := ships(1, 0, 3, 1, 1, 1, 2, 5, 1, 0, 1, 2)
			list[i].Length = quay
			wantBerthed(t, quayList{quay, list})
			for _, length := range []int{quay + 1, 30} {
				list[i].Length = length
				wantNoBestOrder(t, quayList{quay, list})
				for _, order := range shipOrders(3) {
					wantNoPlanInOrder(t, quayList{quay, list}, order)
				}
				// The ships before the long one get berths, and the long one does not matter until it is the next one.
				for k := range i {
					wantNextBerth(t, quayPlan{quay, list, berths(0, 10, 0, 20)[:k]}, 0, []int{0, 1}[k])
				}
				wantNoNextBerth(t, quayPlan{quay, list, berths(0, 10, 0, 20)[:i]})
				for k := i + 1; k <= 3; k++ {
					wantNoNextBerth(t, quayPlan{quay, list, berths(0, 10, 0, 20, 0, 30)[:k]})
				}
				for place := -2; place <= quay+1; place++ {
					plan := berths(0, 10, 0, 20, 0, 30)
					plan[i].Place = place
					wantNotPlanned(t, quayPlan{quay, list, plan})
				}
			}
		}
	}
	// As long as the greatest quay.
	full := ships(30, 0, 5, 1)
	wantBestOrder(t, quayList{30, full}, 0, shipOrder(0), berths(0, 0))
	wantNoBestOrder(t, quayList{29, full})
	wantPlanned(t, quayPlan{30, full, berths(0, 0)})
	wantNotPlanned(t, quayPlan{30, full, berths(1, 0)})
	wantNotPlanned(t, quayPlan{30, full, berths(-1, 0)})
	wantNotPlanned(t, quayPlan{29, full, berths(0, 0)})
}

func TestPlansOfOtherLengths(t *testing.T) {
	for count := range 6 {
		list := equalShips(count, impl.Ship{Length: 2, Arrive: 0, Hours: 3, Weight: 1})
		for length := range 9 {
			plan := []impl.Berth{}
			for i := range length {
				plan = append(plan, impl.Berth{Place: 2 * i, Start: i})
			}
			x := quayPlan{30, list, plan}
			if length == count {
				wantPlanned(t, x)
			} else {
				wantNotPlanned(t, x)
			}
			if length < count {
				wantNextBerth(t, x, 2*min(length, 3), 0)
			} else {
				wantNoNextBerth(t, x)
			}
		}
		wantNotPlanned(t, quayPlan{30, list, equalBerths(1<<16, 0, 0)})
		wantNoNextBerth(t, quayPlan{30, list, equalBerths(1<<16, 0, 0)})
	}
	// Berths behind a plan and ships behind a list are not read.
	two := ships(2, 0, 3, 1, 2, 0, 3, 1)
	wantNotPlanned(t, quayPlan{10, two, berths(0, 0, 2, 0)[:1]})
	wantNotPlanned(t, quayPlan{10, two[:1], berths(0, 0, 2, 0)})
	wantNoNextBerth(t, quayPlan{10, two[:1], berths(0, 0)})
	wantNoNextBerth(t, quayPlan{10, two[:1], berths(0, 0, 2, 0)})
}

func TestPlacesAtTheirLimits(t *testing.T) {
	for _, quay := range []int{1, 2, 10, 30} {
		for length := 1; length <= quay; length++ {
			for i := range 3 {
				list, plan := ships(1, 0, 3, 1, 1, 0, 3, 1, 1, 0, 3, 1), berths(0, 10, 0, 20, 0, 30)
				list[i].Length = length
				for place := -2; place <= quay+2; place++ {
					plan[i].Place = place
					if isBetween(place, 0, quay-length) != wantPlannedIfPossible(t, quayPlan{quay, list, plan}) {
						t.Errorf("the oracle is wrong about %d, %v, %v", quay, list, plan)
					}
				}
				for _, place := range append(outsideOf(0, quay-length), math.MaxInt-length, math.MaxInt-length+1, math.MinInt+length) {
					plan[i].Place = place
					wantNotPlanned(t, quayPlan{quay, list, plan})
					wantNoNextBerth(t, quayPlan{quay, append(slices.Clone(list), list[0]), plan})
				}
			}
		}
	}
}

func TestStartsAtTheirLimits(t *testing.T) {
	for _, arrive := range []int{0, 1, 77, 199, 200} {
		for _, hours := range []int{1, 24, 48} {
			for i := range 3 {
				list, plan := ships(1, 0, 3, 1, 1, 0, 3, 1, 1, 0, 3, 1), berths(0, 10, 1, 20, 2, 30)
				list[i].Arrive, list[i].Hours = arrive, hours
				for _, start := range []int{-2, -1, 0, 1, arrive - 1, arrive, arrive + 1, 198, 199, 200, 201, 952, 953, 998, 999, 1000, 1001, 1002} {
					plan[i].Start = start
					if isBetween(start, arrive, 1000) != wantPlannedIfPossible(t, quayPlan{3, list, plan}) {
						t.Errorf("the oracle is wrong about %v, %v", list, plan)
					}
				}
				for _, start := range append(outsideOf(arrive, 1000), math.MaxInt-hours, math.MaxInt-hours+1) {
					plan[i].Start = start
					wantNotPlanned(t, quayPlan{3, list, plan})
					wantNoNextBerth(t, quayPlan{3, append(slices.Clone(list), list[0]), plan})
				}
			}
		}
	}
}

// Two ships of several sizes, the second one at all berths around the first one: that touch, that
// share a single section for a single hour, that contain each other.
func TestShipsThatTouch(t *testing.T) {
	possible, impossible, single := 0, 0, 0
	for _, a := range ships(1, 0, 1, 1, 3, 0, 2, 1, 2, 0, 4, 1) {
		for _, b := range ships(1, 0, 1, 1, 2, 0, 3, 1, 5, 0, 1, 1, 4, 0, 6, 1) {
			for place := 0; place+b.Length <= 12; place++ {
				for start := range 16 {
					x := quayPlan{12, []impl.Ship{a, b}, berths(5, 6, place, start)}
					sections := min(5+a.Length, place+b.Length) - max(5, place)
					hours := min(6+a.Hours, start+b.Hours) - max(6, start)
					if wantPlannedIfPossible(t, x) {
						possible++
					} else {
						impossible++
					}
					if sections == 1 && hours == 1 {
						single++
						wantNotPlanned(t, x)
					}
					if sections == 0 || hours == 0 {
						wantPlanned(t, x)
					}
					wantPlannedIfPossible(t, quayPlan{12, []impl.Ship{b, a}, berths(place, start, 5, 6)})
				}
			}
		}
	}
	if possible < 1000 || impossible < 200 || single < 40 {
		t.Errorf("%d plans are possible, %d are not, %d times the ships share a section for an hour", possible, impossible, single)
	}
	// The last of five ships, and each of the others.
	list := equalShips(5, impl.Ship{Length: 2, Arrive: 0, Hours: 3, Weight: 1})
	for i := range 5 {
		for k := range 5 {
			plan := berths(0, 0, 2, 0, 4, 0, 6, 0, 8, 0)
			plan[i].Place = plan[k].Place + 1
			plan[i].Start = 2
			if i != k {
				wantNotPlanned(t, quayPlan{30, list, plan})
			}
			plan[i] = impl.Berth{Place: plan[k].Place, Start: 3}
			wantPlanned(t, quayPlan{30, list, plan})
		}
	}
}

func TestPlanCost(t *testing.T) {
	list := ships(6, 0, 10, 1, 6, 1, 2, 5, 4, 0, 3, 1)
	wantPlanCost(t, quayPlan{10, list, berths(0, 0, 0, 10, 6, 0)}, 45)
	wantPlanCost(t, quayPlan{10, list, berths(0, 3, 0, 1, 6, 0)}, 3)
	wantPlanCost(t, quayPlan{10, list, berths(0, 3, 0, 1, 6, 7)}, 10)
	wantPlanCost(t, quayPlan{10, ships(1, 5, 2, 9), berths(9, 5)}, 0)
	wantPlanCost(t, quayPlan{10, ships(1, 5, 2, 9), berths(9, 6)}, 9)
	wantPlanCost(t, quayPlan{10, ships(10, 0, 48, 9), berths(0, 1000)}, 9000)
	wantPlanCost(t, quayPlan{10, ships(10, 200, 48, 9), berths(0, 1000)}, 7200)
	// The greatest cost that there is.
	wantPlanCost(t, quayPlan{30, equalShips(5, impl.Ship{Length: 1, Hours: 1, Weight: 9}), berths(0, 1000, 1, 1000, 2, 1000, 3, 1000, 4, 1000)}, 45000)
}

func TestWaitOf(t *testing.T) {
	list := ships(6, 0, 10, 1, 6, 1, 2, 5, 4, 0, 3, 1)
	wantWaits(t, quayPlan{10, list, berths(0, 0, 0, 10, 6, 0)}, 0, 9, 0)
	wantWaits(t, quayPlan{10, list, berths(0, 3, 0, 1, 6, 7)}, 3, 0, 7)
	wantWaits(t, quayPlan{10, ships(1, 5, 2, 9), berths(9, 5)}, 0)
	wantWaits(t, quayPlan{10, ships(1, 5, 2, 9), berths(9, 6)}, 1)
	wantWaits(t, quayPlan{10, ships(1, 0, 2, 9), berths(9, 1000)}, 1000)
	wantWaits(t, quayPlan{10, ships(1, 200, 2, 9), berths(9, 1000)}, 800)
	wantWaits(t, quayPlan{10, ships(1, 200, 2, 9), berths(9, 200)}, 0)
}

func TestLastHour(t *testing.T) {
	list := ships(6, 0, 10, 1, 6, 1, 2, 5, 4, 0, 3, 1)
	wantLastHour(t, quayPlan{10, list, berths(0, 0, 0, 10, 6, 0)}, 12)
	wantLastHour(t, quayPlan{10, list, berths(0, 3, 0, 1, 6, 0)}, 13)
	// The ship that starts last need not leave last, and neither need the last one of the list.
	wantLastHour(t, quayPlan{10, ships(1, 0, 48, 1, 1, 0, 1, 1), berths(0, 0, 1, 40)}, 48)
	wantLastHour(t, quayPlan{10, ships(1, 0, 1, 1, 1, 0, 48, 1), berths(0, 40, 1, 0)}, 48)
	wantLastHour(t, quayPlan{10, ships(1, 0, 1, 1, 1, 0, 48, 1), berths(0, 48, 1, 0)}, 49)
	wantLastHour(t, quayPlan{10, ships(1, 0, 1, 1), berths(0, 0)}, 1)
	wantLastHour(t, quayPlan{10, ships(1, 0, 48, 1), berths(0, 1000)}, 1048)
}

func TestNextBerth(t *testing.T) {
	list := ships(6, 0, 10, 1, 6, 1, 2, 5, 4, 0, 3, 1)
	// The first ship of the list starts when it arrives, at the first place.
	wantNextBerth(t, quayPlan{10, list, nil}, 0, 0)
	wantNextBerth(t, quayPlan{10, list, []impl.Berth{}}, 0, 0)
	wantNextBerth(t, quayPlan{10, ships(10, 200, 48, 1), nil}, 0, 200)
	wantNextBerth(t, quayPlan{10, ships(1, 77, 1, 1), nil}, 0, 77)
	wantNextBerth(t, quayPlan{10, list, berths(0, 0)}, 0, 10)
	wantNextBerth(t, quayPlan{10, list, berths(0, 0, 0, 10)}, 6, 0)
	wantNoNextBerth(t, quayPlan{10, list, berths(0, 0, 0, 10, 6, 0)})
	wantNoNextBerth(t, quayPlan{10, list, berths(0, 0, 0, 10, 6, 0, 0, 30)})
	// The plan of the first ships need not be a good one, but it must be possible.
	wantNextBerth(t, quayPlan{10, list, berths(4, 30)}, 0, 1)
	wantNextBerth(t, quayPlan{10, list, berths(4, 5)}, 0, 1)
	wantNextBerth(t, quayPlan{10, list, berths(4, 2)}, 0, 12)
	wantNextBerth(t, quayPlan{10, list, berths(0, 3, 4, 1)[:1]}, 0, 1)
	wantNextBerth(t, quayPlan{10, list, berths(0, 2)}, 0, 12)
	wantNoNextBerth(t, quayPlan{10, list, berths(5, 0)})
	wantNoNextBerth(t, quayPlan{10, list, berths(-1, 0)})
	wantNoNextBerth(t, quayPlan{10, list, berths(0, -1)})
	wantNoNextBerth(t, quayPlan{10, list, berths(0, 1001)})
	wantNoNextBerth(t, quayPlan{10, list, berths(0, 0, 0, 9)})
	wantNoNextBerth(t, quayPlan{10, list, berths(0, 0, 4, 9)})
	wantNoNextBerth(t, quayPlan{10, list, berths(0, 0, 4, 0)})
}

func TestNextBerthBesideOthers(t *testing.T) {
	// Ships that leave in the same hour: one of them, two together.
	same := ships(3, 0, 5, 1, 3, 2, 3, 1, 3, 0, 1, 1)
	wantNextBerth(t, quayPlan{6, same, berths(0, 0, 3, 2)}, 3, 0)
	same[2].Hours = 3
	wantNextBerth(t, quayPlan{6, same, berths(0, 0, 3, 2)}, 0, 5)
	same[2].Length = 6
	wantNextBerth(t, quayPlan{6, same, berths(0, 0, 3, 2)}, 0, 5)
	wantNextBerth(t, quayPlan{6, same, berths(3, 0, 0, 2)}, 0, 5)
	wantNextBerth(t, quayPlan{6, same, berths(0, 0, 3, 3)}, 0, 6)
	same[2].Arrive = 5
	wantNextBerth(t, quayPlan{6, same, berths(0, 0, 3, 2)}, 0, 5)
	same[2].Arrive = 6
	wantNextBerth(t, quayPlan{6, same, berths(0, 0, 3, 2)}, 0, 6)
	// At a place that is not the first: the last one, and one between two ships.
	two := ships(2, 0, 9, 1, 2, 0, 9, 1, 2, 0, 1, 1)
	wantNextBerth(t, quayPlan{6, two, berths(0, 0, 2, 0)}, 4, 0)
	wantNextBerth(t, quayPlan{6, two, berths(0, 0, 4, 0)}, 2, 0)
	wantNextBerth(t, quayPlan{6, two, berths(2, 0, 4, 0)}, 0, 0)
	wantNextBerth(t, quayPlan{5, two, berths(0, 0, 3, 0)}, 0, 9)
	wantNextBerth(t, quayPlan{5, two, berths(0, 0, 2, 0)}, 0, 9)
	wantNextBerth(t, quayPlan{5, two, berths(0, 1, 2, 0)}, 0, 0)
	wantNextBerth(t, quayPlan{5, two, berths(0, 0, 2, 1)}, 2, 0)
	// Of several places, the smallest one, even though a later one is closer to the other ship.
	wantNextBerth(t, quayPlan{9, two, berths(0, 0, 5, 0)}, 2, 0)
	wantNextBerth(t, quayPlan{30, two, berths(0, 0, 28, 0)}, 2, 0)
	wantNextBerth(t, quayPlan{30, two, berths(14, 0, 20, 0)}, 0, 0)
	wantNextBerth(t, quayPlan{30, two, berths(1, 0, 4, 0)}, 6, 0)
	// A smaller Start counts more than a smaller Place.
	late := ships(8, 0, 5, 1, 2, 0, 4, 1, 2, 0, 9, 1)
	wantNextBerth(t, quayPlan{10, late, berths(0, 0, 8, 0)}, 8, 4)
	wantNextBerth(t, quayPlan{10, late, berths(2, 0, 0, 0)}, 0, 4)
	wantNextBerth(t, quayPlan{10, late, berths(0, 0, 8, 1)}, 0, 5)
	wantNextBerth(t, quayPlan{10, late, berths(2, 0, 0, 1)}, 0, 5)
}

// A ship fits before one that starts later if it leaves in time.
func TestNextBerthInAGap(t *testing.T) {
	for hours := 1; hours <= 48; hours++ {
		list := ships(4, 0, 10, 1, 4, 0, 7, 1)
		list[1].Hours = hours
		for start := range 60 {
			x := quayPlan{4, list, berths(0, start)}
			if hours <= start {
				wantNextBerth(t, x, 0, 0)
			} else {
				wantNextBerth(t, x, 0, start+10)
			}
		}
		// Between two ships, with an arrival during the stay of the first one, in the gap and after it.
		for gap := range 60 {
			for _, arrive := range []int{0, 5, 9, 10, 11, 20} {
				list := ships(4, 0, 10, 1, 4, 0, 10, 1, 3, arrive, hours, 1)
				x := quayPlan{4, list, berths(0, 0, 0, 10+gap)}
				if start := max(arrive, 10); start+hours <= 10+gap {
					wantNextBerth(t, x, 0, start)
				} else {
					wantNextBerth(t, x, 0, max(arrive, 20+gap))
				}
			}
		}
	}
}

// With at most four other ships there is always a start long before the hour 1000: each of them
// keeps a ship away for its own hours and for those of a gap before it that is too small.
func TestLatestNextBerth(t *testing.T) {
	list := ships(30, 0, 48, 1, 30, 0, 48, 1, 30, 0, 48, 1, 30, 0, 48, 1, 30, 200, 48, 1)
	wantNextBerth(t, quayPlan{30, list, berths(0, 247, 0, 342, 0, 437, 0, 532)}, 0, 580)
	wantNextBerth(t, quayPlan{30, list, berths(0, 532, 0, 247, 0, 437, 0, 342)}, 0, 580)
	wantNextBerth(t, quayPlan{30, list, berths(0, 247, 0, 342, 0, 437, 0, 533)}, 0, 485)
	wantNextBerth(t, quayPlan{30, list, berths(0, 248, 0, 343, 0, 438, 0, 533)}, 0, 200)
	// Ships that start as late as they may are no obstacle.
	wantNextBerth(t, quayPlan{30, list, berths(0, 808, 0, 856, 0, 904, 0, 1000)}, 0, 200)
	wantNextBerth(t, quayPlan{30, list, berths(0, 200, 0, 248, 0, 296, 0, 1000)}, 0, 344)
	wantPlanInOrder(t, quayList{30, equalShips(5, list[4])}, shipOrder(0, 1, 2, 3, 4), 480, berths(0, 200, 0, 248, 0, 296, 0, 344, 0, 392))
	latest := 0
	for _, x := range planSamples(601, 3000) {
		latest = max(latest, wantNextOfAll(t, x))
	}
	if latest < 300 || latest > 580 {
		t.Errorf("the latest start is %d", latest)
	}
}

func TestPlanInOrder(t *testing.T) {
	x := quayList{10, ships(6, 0, 10, 1, 6, 1, 2, 5, 4, 0, 3, 1)}
	wantPlanInOrder(t, x, shipOrder(0, 1, 2), 45, berths(0, 0, 0, 10, 6, 0))
	wantPlanInOrder(t, x, shipOrder(0, 2, 1), 45, berths(0, 0, 0, 10, 6, 0))
	wantPlanInOrder(t, x, shipOrder(1, 0, 2), 3, berths(0, 3, 0, 1, 6, 0))
	wantPlanInOrder(t, x, shipOrder(1, 2, 0), 3, berths(0, 3, 0, 1, 6, 0))
	wantPlanInOrder(t, x, shipOrder(2, 0, 1), 45, berths(4, 0, 0, 10, 0, 0))
	wantPlanInOrder(t, x, shipOrder(2, 1, 0), 3, berths(0, 3, 4, 1, 0, 0))
	wantPlanInOrder(t, quayList{5, ships(5, 7, 3, 2)}, shipOrder(0), 0, berths(0, 7))
	// Ships one after the other, in every order.
	full := quayList{3, ships(3, 0, 2, 1, 2, 0, 3, 2, 3, 0, 5, 3)}
	wantPlanInOrder(t, full, shipOrder(0, 1, 2), 2*2+3*5, berths(0, 0, 0, 2, 0, 5))
	wantPlanInOrder(t, full, shipOrder(0, 2, 1), 3*2+2*7, berths(0, 0, 0, 7, 0, 2))
	wantPlanInOrder(t, full, shipOrder(1, 0, 2), 1*3+3*5, berths(0, 3, 0, 0, 0, 5))
	wantPlanInOrder(t, full, shipOrder(1, 2, 0), 3*3+1*8, berths(0, 8, 0, 0, 0, 3))
	wantPlanInOrder(t, full, shipOrder(2, 0, 1), 1*5+2*7, berths(0, 5, 0, 7, 0, 0))
	wantPlanInOrder(t, full, shipOrder(2, 1, 0), 2*5+1*8, berths(0, 8, 0, 5, 0, 0))
	// A ship that comes later in the order may start before those that have a berth.
	wantPlanInOrder(t, quayList{2, ships(2, 9, 4, 1, 1, 0, 9, 1)}, shipOrder(0, 1), 0, berths(0, 9, 0, 0))
	wantPlanInOrder(t, quayList{2, ships(2, 9, 4, 1, 1, 1, 9, 1)}, shipOrder(0, 1), 12, berths(0, 9, 0, 13))
	// The berths of five ships beside each other, in their own order and the other way round.
	five := quayList{30, ships(1, 0, 9, 1, 2, 0, 9, 1, 3, 0, 9, 1, 4, 0, 9, 1, 5, 0, 9, 1)}
	wantPlanInOrder(t, five, shipOrder(0, 1, 2, 3, 4), 0, berths(0, 0, 1, 0, 3, 0, 6, 0, 10, 0))
	wantPlanInOrder(t, five, shipOrder(4, 3, 2, 1, 0), 0, berths(14, 0, 12, 0, 9, 0, 5, 0, 0, 0))
	wantPlanInOrder(t, five, shipOrder(2, 0, 4, 1, 3), 0, berths(3, 0, 9, 0, 0, 0, 11, 0, 4, 0))
}

func TestInvalidShipOrdersYieldNothing(t *testing.T) {
	x := quayList{10, ships(6, 0, 10, 1, 6, 1, 2, 5, 4, 0, 3, 1)}
	for _, order := range [][]int{nil, {}, {0}, {0, 1}, {0, 1, 2, 2}, {0, 1, 2, 3}, {0, 1, 3}, {-1, 0, 1}, {0, -1, 1}, {0, 1, 1}, {1, 0, 1}, {1, 1, 0}, {2, 2, 2}, {1, 2, 3}} {
		wantNoPlanInOrder(t, x, order)
	}
	orders, others := 0, 0
	for count := range 6 {
		x := quayList{30, equalShips(count, impl.Ship{Length: 2, Arrive: 1, Hours: 3, Weight: 1})}
		for _, order := range noOrders(count) {
			wantNoPlanInOrder(t, x, order)
		}
		if count == 5 {
			continue
		}
		// All lists of numbers in and around the range.
		for _, list := range listsOf(count, count+2) {
			for i := range list {
				list[i]--
			}
			if slices.ContainsFunc(shipOrders(count), func(order []int) bool { return slices.Equal(order, list) }) {
				orders++
				plan := planByTrying(30, x.list, list)
				wantPlanInOrder(t, x, list, costByHours(x.list, plan), plan)
			} else {
				others++
				wantNoPlanInOrder(t, x, list)
			}
		}
	}
	if orders != 1+1+2+6+24 || others < 1000 {
		t.Errorf("%d lists are orders and %d are not", orders, others)
	}
}

func TestBestOrder(t *testing.T) {
	x := quayList{10, ships(6, 0, 10, 1, 6, 1, 2, 5, 4, 0, 3, 1)}
	wantBestOrder(t, x, 3, shipOrder(1, 0, 2), berths(0, 3, 0, 1, 6, 0))
	wantBestOrder(t, quayList{5, ships(5, 7, 3, 2)}, 0, shipOrder(0), berths(0, 7))
	wantBestOrder(t, quayList{3, ships(3, 0, 2, 1, 2, 0, 3, 2, 3, 0, 5, 3)}, 17, shipOrder(1, 2, 0), berths(0, 8, 0, 0, 0, 3))
	// Orders that are not that of the arrivals: for a heavier ship, for a shorter stay, for one that leaves room beside it.
	wantBestOrder(t, quayList{1, ships(1, 0, 10, 1, 1, 1, 10, 3)}, 11, shipOrder(1, 0), berths(0, 11, 0, 1))
	wantBestOrder(t, quayList{1, ships(1, 0, 10, 1, 1, 1, 10, 1)}, 9, shipOrder(0, 1), berths(0, 0, 0, 10))
	wantBestOrder(t, quayList{1, ships(1, 0, 10, 1, 1, 1, 2, 1)}, 3, shipOrder(1, 0), berths(0, 3, 0, 1))
	wantBestOrder(t, quayList{4, ships(2, 0, 9, 1, 4, 1, 3, 2, 2, 1, 3, 2)}, 10, shipOrder(1, 0, 2), berths(0, 4, 0, 1, 2, 4))
	wantBestOrder(t, quayList{1, ships(1, 0, 2, 1, 1, 1, 2, 9)}, 3, shipOrder(1, 0), berths(0, 3, 0, 1))
	// Orders that are that of the arrivals.
	wantBestOrder(t, quayList{1, ships(1, 0, 2, 1, 1, 1, 2, 2)}, 2, shipOrder(0, 1), berths(0, 0, 0, 2))
	wantBestOrder(t, quayList{1, ships(1, 9, 2, 1, 1, 0, 2, 9)}, 0, shipOrder(0, 1), berths(0, 9, 0, 0))
	// As much as there may be.
	wantBestOrder(t, quayList{30, equalShips(5, impl.Ship{Length: 30, Arrive: 200, Hours: 48, Weight: 9})}, 9*48*10, shipOrder(0, 1, 2, 3, 4), berths(0, 200, 0, 248, 0, 296, 0, 344, 0, 392))
	wantBestOrder(t, quayList{30, ships(30, 0, 48, 1, 30, 0, 48, 3, 30, 0, 48, 5, 30, 0, 48, 7, 30, 0, 48, 9)}, 48*(7+2*5+3*3+4), shipOrder(4, 3, 2, 1, 0), berths(0, 192, 0, 144, 0, 96, 0, 48, 0, 0))
}

// The lexicographically smallest order shows.
func TestBestOrderOfSeveral(t *testing.T) {
	one := impl.Ship{Length: 1, Arrive: 0, Hours: 1, Weight: 1}
	for count := 1; count <= 5; count++ {
		straight, apart, beside := []int{}, []impl.Berth{}, []impl.Berth{}
		for i := range count {
			straight = append(straight, i)
			apart = append(apart, impl.Berth{Place: 0, Start: i})
			beside = append(beside, impl.Berth{Place: i, Start: 0})
		}
		wantBestOrder(t, quayList{1, equalShips(count, one)}, count*(count-1)/2, straight, apart)
		wantBestOrder(t, quayList{5, equalShips(count, one)}, 0, straight, beside)
	}
	// Different plans of the same cost.
	wantBestOrder(t, quayList{1, ships(1, 0, 2, 2, 1, 0, 1, 1)}, 2, shipOrder(0, 1), berths(0, 0, 0, 2))
	wantBestOrder(t, quayList{1, ships(1, 0, 1, 1, 1, 0, 2, 2)}, 2, shipOrder(0, 1), berths(0, 0, 0, 1))
	wantBestOrder(t, quayList{1, ships(1, 0, 2, 2, 1, 0, 1, 2, 1, 0, 1, 1)}, 2+3, shipOrder(1, 0, 2), berths(0, 1, 0, 0, 0, 3))
	wantBestOrder(t, quayList{1, ships(1, 0, 1, 1, 1, 0, 2, 2, 1, 0, 1, 2)}, 2+3, shipOrder(2, 0, 1), berths(0, 1, 0, 2, 0, 0))
	wantBestOrder(t, quayList{2, ships(2, 3, 1, 1, 2, 0, 3, 1, 2, 9, 1, 1)}, 0, shipOrder(0, 1, 2), berths(0, 3, 0, 0, 0, 9))
	// Orders in which only two ships that do not touch each other are exchanged.
	wantBestOrder(t, quayList{2, ships(1, 0, 5, 1, 1, 0, 5, 1, 2, 0, 1, 9)}, 2, shipOrder(2, 0, 1), berths(0, 1, 1, 1, 0, 0))
}

func TestQuayUse(t *testing.T) {
	x := quayPlan{10, ships(6, 0, 10, 1, 6, 1, 2, 5, 4, 0, 3, 1), berths(0, 0, 0, 10, 6, 0)}
	wantNoQuayUse(t, x, -1)
	for _, c := range []struct {
		hour int
		use  string
	}{
		{0, "0000002222"}, {1, "0000002222"}, {2, "0000002222"}, {3, "000000...."}, {9, "000000...."}, {10, "111111...."}, {11, "111111...."},
		{12, ".........."}, {13, ".........."}, {1000, ".........."}, {1099, ".........."}, {1100, ".........."},
	} {
		want := []int{}
		for _, sign := range c.use {
			want = append(want, max(int(sign)-'0', -1))
		}
		wantQuayUse(t, x, c.hour, want...)
	}
	wantNoQuayUse(t, x, 1101)
	for _, hour := range outsideOf(0, 1100) {
		wantNoQuayUse(t, x, hour)
		wantNoQuayUse(t, quayPlan{1, ships(1, 0, 1, 1), berths(0, 0)}, hour)
	}
	// The hour before the start, the first and the last one of the stay, and the hour behind it.
	for _, start := range []int{1, 77, 999, 1000} {
		for _, hours := range []int{1, 2, 48} {
			x := quayPlan{4, ships(2, 0, hours, 1), berths(1, start)}
			wantQuayUse(t, x, start-1, -1, -1, -1, -1)
			wantQuayUse(t, x, start, -1, 0, 0, -1)
			wantQuayUse(t, x, start+hours-1, -1, 0, 0, -1)
			wantQuayUse(t, x, start+hours, -1, -1, -1, -1)
		}
	}
	// Five ships beside each other, in another order than that of the list.
	five := equalShips(5, impl.Ship{Length: 1, Arrive: 0, Hours: 2, Weight: 1})
	wantQuayUse(t, quayPlan{6, five, berths(5, 1, 0, 1, 2, 1, 1, 1, 4, 1)}, 2, 1, 3, 2, -1, 4, 0)
	wantQuayUse(t, quayPlan{6, five, berths(5, 1, 0, 0, 2, 2, 1, 3, 4, 1)}, 2, -1, -1, 2, -1, 4, 0)
}

func TestUseAgreesWithThePlanAtEveryHour(t *testing.T) {
	samples := append(planSamples(607, 60), quayPlan{30, ships(30, 200, 48, 9), berths(0, 1000)}, quayPlan{1, ships(1, 0, 1, 1), berths(0, 0)})
	used := 0
	for _, x := range samples {
		use, ok := useByCells(x.quay, x.list, x.plan)
		if !ok {
			t.Fatalf("%v is not possible", x)
		}
		used += len(use)
		for hour := range 1101 {
			wantUsed(t, x, use, hour)
		}
	}
	if used < 10000 {
		t.Errorf("only %d sections are used at an hour", used)
	}
	// All sections that a plan uses add up to what its ships need.
	for _, x := range planSamples(613, 20) {
		needed, found := 0, 0
		for _, ship := range x.list {
			needed += ship.Length * ship.Hours
		}
		for hour := range 1101 {
			use, _ := impl.QuayUse(x.quay, x.list, x.plan, hour)
			found += len(slices.DeleteFunc(use, func(ship int) bool { return ship < 0 }))
		}
		if found != needed {
			t.Errorf("QuayUse of %v has %d sections, want %d", x, found, needed)
		}
	}
}

// Promise 14: the plan of the best order is possible, it is that of PlanInOrder, and no order has
// one of smaller cost, by the answers of the program and by the oracles.
func TestNoOrderHasASmallerCost(t *testing.T) {
	ties, single, waiting, other := 0, 0, 0, 0
	for _, x := range slices.Concat(smallQuays(2), quaySamples(617, 400, 5)) {
		if wantBerthed(t, x) > 1 {
			ties++
		} else {
			single++
		}
		best, plan, cost, ok := impl.BestOrder(x.quay, x.list)
		if !ok {
			t.Fatalf("BestOrder of %v = %v, %v, %d, %v", x, best, plan, cost, ok)
		}
		wantPlanned(t, quayPlan{x.quay, x.list, plan})
		wantPlanCost(t, quayPlan{x.quay, x.list, plan}, cost)
		wantPlanInOrder(t, x, best, cost, plan)
		for _, order := range shipOrders(len(x.list)) {
			_, n, ok := impl.PlanInOrder(x.quay, x.list, order)
			if !ok || n < cost || n == cost && slices.Compare(order, best) < 0 {
				t.Fatalf("BestOrder of %v = %v, %d, but %v has %d, %v", x, best, cost, order, n, ok)
			}
		}
		if cost > 0 {
			waiting++
		}
		byArrival := slices.SortedStableFunc(slices.Values(shipOrders(len(x.list))[0]), func(a, b int) int { return x.list[a].Arrive - x.list[b].Arrive })
		if _, n, _ := impl.PlanInOrder(x.quay, x.list, byArrival); n > cost {
			other++
		}
	}
	if ties < 200 || single < 100 || waiting < 200 || other < 100 {
		t.Errorf("%d times orders tie, %d times there is one, %d times a ship waits, %d times the order of the arrivals costs more", ties, single, waiting, other)
	}
}

func TestBestOrdersOfThreeSmallShips(t *testing.T) {
	for _, x := range smallQuays(3) {
		if len(x.list) == 3 {
			wantBerthed(t, x)
		}
	}
}

// Every plan in an order, and every plan with a next berth, is possible.
func TestEveryPlanIsPossible(t *testing.T) {
	for _, x := range slices.Concat(smallQuays(2), quaySamples(619, 200, 5)) {
		for _, order := range shipOrders(len(x.list)) {
			plan, cost, ok := impl.PlanInOrder(x.quay, x.list, order)
			if !ok || !impl.IsPossiblePlan(x.quay, x.list, plan) || !wantPlannedIfPossible(t, quayPlan{x.quay, x.list, plan}) {
				t.Fatalf("PlanInOrder of %v, %v = %v, %d, %v", x, order, plan, cost, ok)
			}
		}
	}
	for _, x := range planSamples(631, 500) {
		plan := slices.Clone(x.plan[:len(x.plan)/2])
		for len(plan) < len(x.list) {
			next, ok := impl.NextBerth(x.quay, x.list, plan)
			plan = append(plan, next)
			if !ok || !wantPlannedIfPossible(t, quayPlan{x.quay, x.list[:len(plan)], plan}) {
				t.Fatalf("NextBerth of %v, %v, %v", x, plan, ok)
			}
		}
		wantPossible(t, quayPlan{x.quay, x.list, plan}, true)
	}
}

// The plan in the order of the list is made of next berths, and the last ship of an order gets
// the next berth beside the other ones.
func TestPlansInOrderAreMadeOfNextBerths(t *testing.T) {
	for _, x := range slices.Concat(smallQuays(2), quaySamples(641, 300, 5)) {
		for _, order := range shipOrders(len(x.list)) {
			list, plan := []impl.Ship{}, []impl.Berth{}
			for _, ship := range order {
				list = append(list, x.list[ship])
			}
			for range order {
				next, _ := impl.NextBerth(x.quay, list, plan)
				plan = append(plan, next)
			}
			got, _, ok := impl.PlanInOrder(x.quay, x.list, order)
			for i, ship := range order {
				if !ok || got[ship] != plan[i] {
					t.Fatalf("PlanInOrder of %v, %v = %v, %v, but the next berths are %v", x, order, got, ok, plan)
				}
			}
		}
	}
}

// No earlier start and no smaller place was possible, by the answers of the program.
func TestNoNextBerthIsEarlier(t *testing.T) {
	later, beside := 0, 0
	for _, x := range planSamples(643, 1500) {
		for i, ship := range x.list {
			next, ok := impl.NextBerth(x.quay, x.list, x.plan[:i])
			if !ok {
				t.Fatalf("NextBerth of %v for %d = %v, %v", x, i, next, ok)
			}
			for start := ship.Arrive - 1; start <= next.Start; start++ {
				for place := -1; place <= x.quay; place++ {
					at := impl.Berth{Place: place, Start: start}
					if start == next.Start && place == next.Place {
						break
					}
					if impl.IsPossiblePlan(x.quay, x.list[:i+1], append(slices.Clone(x.plan[:i]), at)) {
						t.Fatalf("NextBerth of %v for %d = %v, but %v is possible", x, i, next, at)
					}
				}
			}
			if next.Start > ship.Arrive {
				later++
			}
			if next.Place > 0 {
				beside++
			}
		}
	}
	if later < 100 || beside < 100 {
		t.Errorf("%d times the next ship waits, %d times it lies not at the first place", later, beside)
	}
}

// All plans of two small ships, and mixed plans with a berth changed.
func TestPlansOfAllKinds(t *testing.T) {
	possible, impossible := 0, 0
	count := func(ok bool) {
		if ok {
			possible++
		} else {
			impossible++
		}
	}
	for _, list := range [][]impl.Ship{ships(1, 0, 1, 1, 2, 1, 2, 3), ships(2, 0, 3, 2, 2, 1, 1, 1), ships(3, 1, 2, 1, 1, 0, 2, 9)} {
		for _, n := range listsOf(4, 6) {
			count(wantPlannedIfPossible(t, quayPlan{3, list, berths(n[0]-1, n[1]-1, n[2]-1, n[3]-1)}))
		}
	}
	next := dice(647)
	for _, x := range planSamples(653, 2000) {
		count(wantPlannedIfPossible(t, x))
		if len(x.list) == 0 {
			continue
		}
		i := next(len(x.list))
		x.plan[i].Place += next(9) - 4
		x.plan[i].Start += next(19) - 9
		count(wantPlannedIfPossible(t, x))
		x.plan[i] = x.plan[next(len(x.plan))]
		count(wantPlannedIfPossible(t, x))
	}
	if possible < 2000 || impossible < 2000 {
		t.Errorf("%d plans are possible and %d are not", possible, impossible)
	}
}

// The cost is the sum of the weighted waits, and it does not depend on the places.
func TestCostIsTheSumOfTheWeightedWaits(t *testing.T) {
	waiting := 0
	for _, x := range planSamples(659, 1000) {
		waits, ok := impl.WaitOf(x.quay, x.list, x.plan)
		sum := 0
		for i, wait := range waits {
			sum += wait * x.list[i].Weight
			if wait < 0 {
				t.Errorf("WaitOf of %v = %v", x, waits)
			}
		}
		if sum > 0 {
			waiting++
		}
		wantPlanCost(t, x, sum)
		turned := quayPlan{x.quay, x.list, slices.Clone(x.plan)}
		for i, at := range x.plan {
			turned.plan[i].Place = x.quay - x.list[i].Length - at.Place
		}
		wantPlanned(t, turned)
		wantPlanCost(t, turned, sum)
		if !ok || len(waits) != len(x.list) {
			t.Errorf("WaitOf of %v = %v, %v", x, waits, ok)
		}
	}
	if waiting < 500 {
		t.Errorf("only in %d plans a ship waits", waiting)
	}
}

// berthAnswers has what every function of chapter 14 says of ships, plans and orders.
func berthAnswers(x quayList, plans [][]impl.Berth, orders [][]int) []string {
	var all []string
	add := func(parts ...any) { all = append(all, fmt.Sprintln(parts...)) }
	for _, plan := range plans {
		add("possible", impl.IsPossiblePlan(x.quay, x.list, plan))
		cost, ok := impl.PlanCost(x.quay, x.list, plan)
		add("cost", cost, ok)
		next, ok := impl.NextBerth(x.quay, x.list, plan)
		add("next", next, ok)
		for _, hour := range []int{-1, 0, 5, 30, 1100, 1101} {
			use, ok := impl.QuayUse(x.quay, x.list, plan, hour)
			add("use", use, ok)
		}
		last, ok := impl.LastHour(x.quay, x.list, plan)
		add("last", last, ok)
		waits, ok := impl.WaitOf(x.quay, x.list, plan)
		add("waits", waits, ok)
	}
	for _, order := range orders {
		plan, cost, ok := impl.PlanInOrder(x.quay, x.list, order)
		add("in order", plan, cost, ok)
	}
	order, plan, cost, ok := impl.BestOrder(x.quay, x.list)
	add("best", order, plan, cost, ok)
	return all
}

// plansToTry has a possible plan, parts of it, and other lists.
func plansToTry(x quayPlan) [][]impl.Berth {
	all := [][]impl.Berth{nil, {}, berths(-1, 0), equalBerths(len(x.list), 0, 20), equalBerths(6, 0, 200)}
	for i := range len(x.plan) + 1 {
		all = append(all, slices.Clone(x.plan[:i]))
	}
	return all
}

func ordersToTry(count int) [][]int {
	orders := shipOrders(count)
	return [][]int{slices.Clone(orders[0]), slices.Clone(orders[len(orders)/2]), slices.Clone(orders[len(orders)-1]), nil, {}, {0}, {1, 0}, {-1}, {0, 0}, {5}}
}

// Arguments in arrays with something behind them are answered like separate ones, and none of
// them is changed.
func TestBerthsAreLeftAlone(t *testing.T) {
	for _, x := range planSamples(661, 300) {
		plans, orders := plansToTry(x), ordersToTry(len(x.list))
		want := berthAnswers(quayList{x.quay, x.list}, plans, orders)
		for i, ship := range ships(1, 0, 1, 1, 0, 0, 0, 0, -7, -7, -7, -7, 30, 200, 48, 9) {
			at, n := berths(0, 0, 0, 60, -7, -7, 29, 1000)[i], []int{-7, 0, 1, len(x.list)}[i]
			list, array := withRoom(x.list, ship)
			var planParts, planArrays [][]impl.Berth
			for _, plan := range plans {
				part, array := withRoom(plan, at)
				planParts, planArrays = append(planParts, part), append(planArrays, array)
			}
			var orderParts, orderArrays [][]int
			for _, order := range orders {
				part, array := withRoom(order, n)
				orderParts, orderArrays = append(orderParts, part), append(orderArrays, array)
			}
			if got := berthAnswers(quayList{x.quay, list}, planParts, orderParts); !slices.Equal(got, want) {
				t.Errorf("the answers about %v with %v, %v and %d behind are others", x, ship, at, n)
			}
			if !slices.Equal(array, append(slices.Clone(x.list), ship, ship, ship)) {
				t.Errorf("the ships %v are changed to %v", x.list, array)
			}
			for i, plan := range plans {
				if !slices.Equal(planArrays[i], append(slices.Clone(plan), at, at, at)) {
					t.Errorf("the plan %v is changed to %v", plan, planArrays[i])
				}
			}
			for i, order := range orders {
				if !slices.Equal(orderArrays[i], append(slices.Clone(order), n, n, n)) {
					t.Errorf("the order %v is changed to %v", order, orderArrays[i])
				}
			}
		}
	}
	for name, list := range badShipLists() {
		before := slices.Clone(list)
		berthAnswers(quayList{30, list}, plansToTry(quayPlan{30, list, equalBerths(3, 0, 20)}), ordersToTry(3))
		if !slices.Equal(list, before) {
			t.Errorf("%s: the ships are changed", name)
		}
	}
}

// newBerthLists calls every function of chapter 14 that returns slices and returns all of them,
// the plans apart.
func newBerthLists(x quayList, plans [][]impl.Berth, orders [][]int) ([][]int, [][]impl.Berth) {
	best, bestPlan, _, _ := impl.BestOrder(x.quay, x.list)
	lists, made := [][]int{best}, [][]impl.Berth{bestPlan}
	for _, order := range orders {
		plan, _, _ := impl.PlanInOrder(x.quay, x.list, order)
		made = append(made, plan)
	}
	for _, plan := range plans {
		use, _ := impl.QuayUse(x.quay, x.list, plan, 5)
		waits, _ := impl.WaitOf(x.quay, x.list, plan)
		lists = append(lists, use, waits)
	}
	return lists, made
}

func TestResultsAboutBerthsAreNew(t *testing.T) {
	for _, sample := range planSamples(673, 300) {
		x, plans, orders := quayList{sample.quay, slices.Clone(sample.list)}, plansToTry(sample), ordersToTry(len(sample.list))
		want := berthAnswers(x, plans, orders)
		lists, made := newBerthLists(x, plans, orders)
		again, madeAgain := newBerthLists(x, plans, orders)
		if sharesElement(slices.Concat(lists, again, orders)...) {
			t.Fatalf("results for %v share numbers", sample)
		}
		if sharesElement(slices.Concat(made, madeAgain, plans)...) {
			t.Fatalf("results for %v share berths", sample)
		}
		for _, list := range lists {
			spoil(list)
		}
		for _, plan := range made {
			spoilAll(plan, impl.Berth{Place: -7})
		}
		if got := berthAnswers(x, plans, orders); !slices.Equal(got, want) || !slices.Equal(x.list, sample.list) {
			t.Fatalf("the answers about %v are others the second time", sample)
		}
	}
}

func TestResultsAboutBerthsStayWhenArgumentsChange(t *testing.T) {
	for _, sample := range planSamples(677, 300) {
		x, plans, orders := quayList{sample.quay, slices.Clone(sample.list)}, plansToTry(sample), ordersToTry(len(sample.list))
		lists, made := newBerthLists(x, plans, orders)
		want := fmt.Sprint(lists, made)
		spoilAll(x.list, impl.Ship{Length: -7})
		for _, plan := range plans {
			spoilAll(plan, impl.Berth{Place: -7})
		}
		for _, order := range orders {
			spoil(order)
		}
		if fmt.Sprint(lists, made) != want {
			t.Fatalf("a change of %v changes a result", sample)
		}
	}
}
