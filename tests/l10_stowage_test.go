package tests

import (
	"fmt"
	"math"
	"slices"
	"testing"

	"loop.example/g00906/impl"
)

// digits reads ports or a plan of single digits: "102" has the rows 1, 0 and 2.
func digits(s string) []int {
	list := []int{}
	for i := range len(s) {
		list = append(list, int(s[i]-'0'))
	}
	return list
}

func stowage(rows int, high int, ports string) impl.Stowage {
	return impl.Stowage{Rows: rows, High: high, Ports: digits(ports)}
}

func copyOfStowage(s impl.Stowage) impl.Stowage {
	return impl.Stowage{Rows: s.Rows, High: s.High, Ports: slices.Clone(s.Ports)}
}

// isStowageByRule is an oracle.
func isStowageByRule(s impl.Stowage) bool {
	known := []int{1, 2, 3, 4, 5, 6, 7, 8, 9}
	for _, port := range s.Ports {
		if !slices.Contains(known, port) {
			return false
		}
	}
	return slices.Contains(known[:5], s.Rows) && slices.Contains(known[:4], s.High) && len(s.Ports) < 8 &&
		len(s.Ports) <= s.Rows*s.High
}

// rowByPlan returns the numbers that a plan puts on a row, as an oracle.
func rowByPlan(plan []int, row int) []int {
	numbers := []int{}
	for i := range plan {
		if plan[i] == row {
			numbers = append(numbers, i+1)
		}
	}
	return numbers
}

// isPlanOf counts the containers of every row, as an oracle.
func isPlanOf(s impl.Stowage, plan []int) bool {
	counts := map[int]int{}
	for _, row := range plan {
		counts[row]++
		if row < 0 || row >= s.Rows || counts[row] > s.High {
			return false
		}
	}
	return isStowageByRule(s) && len(plan) == len(s.Ports)
}

func bayByPlan(s impl.Stowage, plan []int) impl.Bay {
	b := impl.Bay{High: s.High}
	for row := range s.Rows {
		b.Slots = append(b.Slots, rowByPlan(plan, row))
	}
	return b
}

// shiftedByPairs looks at every pair of containers, as an oracle.
func shiftedByPairs(s impl.Stowage, plan []int) []int {
	shifted := []int{}
	for i, port := range s.Ports {
		for k, lower := range s.Ports[:i] {
			if plan[i] == plan[k] && lower < port {
				shifted = append(shifted, i+1)
				break
			}
		}
	}
	return shifted
}

// workByTaking takes the containers with smaller ports out of the bay and then goes up every
// row, as an oracle.
func workByTaking(s impl.Stowage, plan []int, port int) ([]int, []int) {
	own, above := []int{}, []int{}
	for _, row := range bayByPlan(s, plan).Slots {
		met := false
		for _, n := range slices.DeleteFunc(row, func(n int) bool { return s.Ports[n-1] < port }) {
			if s.Ports[n-1] == port {
				own, met = append(own, n), true
			} else if met {
				above = append(above, n)
			}
		}
	}
	slices.Sort(own)
	slices.Sort(above)
	return own, above
}

// orderByPorts inserts every number behind the last one whose port is not smaller, as an oracle.
func orderByPorts(s impl.Stowage) []int {
	order := []int{}
	for i, port := range s.Ports {
		k := len(order)
		for k > 0 && s.Ports[order[k-1]-1] < port {
			k--
		}
		order = slices.Insert(order, k, i+1)
	}
	return order
}

// rowPortsByAsking asks for every port whether it is in a row, as an oracle.
func rowPortsByAsking(s impl.Stowage, plan []int) [][]int {
	all := [][]int{}
	for row := range s.Rows {
		ports := []int{}
		for port := 1; port <= 9; port++ {
			if slices.ContainsFunc(rowByPlan(plan, row), func(n int) bool { return s.Ports[n-1] == port }) {
				ports = append(ports, port)
			}
		}
		all = append(all, ports)
	}
	return all
}

// greedyByRule lists the rows that may be taken, as an oracle.
func greedyByRule(s impl.Stowage) []int {
	plan := []int{}
	for i, port := range s.Ports {
		var fitting, notFull []int
		for row := range s.Rows {
			numbers := rowByPlan(plan, row)
			if len(numbers) == s.High {
				continue
			}
			notFull = append(notFull, row)
			if !slices.ContainsFunc(numbers, func(n int) bool { return s.Ports[n-1] < port }) {
				fitting = append(fitting, row)
			}
		}
		if i < s.Rows*s.High {
			plan = append(plan, append(fitting, notFull...)[0])
		}
	}
	return plan
}

// plansOf returns all possible plans in lexicographic order.
func plansOf(s impl.Stowage) [][]int {
	plans := listsOf(len(s.Ports), s.Rows)
	return slices.DeleteFunc(plans, func(plan []int) bool { return !isPlanOf(s, plan) })
}

// bestOfPlans compares all possible plans, as an oracle. It also returns how many of them have
// the fewest shifted containers.
func bestOfPlans(s impl.Stowage) ([]int, int, int) {
	var best []int
	fewest, count := 0, 0
	for _, plan := range plansOf(s) {
		shifted := len(shiftedByPairs(s, plan))
		switch {
		case count == 0 || shifted < fewest:
			best, fewest, count = plan, shifted, 1
		case shifted == fewest:
			count++
		}
	}
	return best, fewest, count
}

// smallStowages has all stowages of up to 3 rows with up to a number of containers for some
// ports.
func smallStowages(most int, ports int) []impl.Stowage {
	var all []impl.Stowage
	for rows := 1; rows <= 3; rows++ {
		for high := 1; high <= 4; high++ {
			for count := 0; count <= min(most, rows*high); count++ {
				for _, list := range listsOf(count, ports) {
					for i := range list {
						list[i]++
					}
					all = append(all, impl.Stowage{Rows: rows, High: high, Ports: list})
				}
			}
		}
	}
	return all
}

// mixedStowage has at most a number of containers and at most a number of different ports.
func mixedStowage(next func(n int) int, most int, ports int) impl.Stowage {
	s := impl.Stowage{Rows: 1 + next(5), High: 1 + next(4), Ports: []int{}}
	first, room := 1+next(10-ports), min(most, s.Rows*s.High)
	for range max(next(room+1), next(room+1)) {
		s.Ports = append(s.Ports, first+next(ports))
	}
	return s
}

// stowageSamples has mixed stowages of all sizes, more of them nearly full than empty.
func stowageSamples(seed int, count int, most int) []impl.Stowage {
	next := dice(seed)
	var all []impl.Stowage
	for range count {
		all = append(all, mixedStowage(next, most, 2+next(8)))
	}
	return all
}

// mixedPlan is possible.
func mixedPlan(next func(n int) int, s impl.Stowage) []int {
	plan := []int{}
	for range s.Ports {
		row := next(s.Rows)
		for len(rowByPlan(plan, row)) == s.High {
			row = (row + 1) % s.Rows
		}
		plan = append(plan, row)
	}
	return plan
}

// invalidStowages has stowages whose other parts are valid.
func invalidStowages() map[string]impl.Stowage {
	all := map[string]impl.Stowage{
		"nothing":                           {},
		"only ports":                        {Ports: []int{1, 2}},
		"no rows":                           stowage(0, 2, "12"),
		"no height":                         stowage(2, 0, "12"),
		"eight containers":                  stowage(5, 4, "12121212"),
		"eight containers in eight places":  stowage(2, 4, "12121212"),
		"two containers in one place":       stowage(1, 1, "11"),
		"three containers in two places":    stowage(2, 1, "321"),
		"three on each other, two high":     stowage(1, 2, "321"),
		"four on each other, three high":    stowage(1, 3, "4321"),
		"five on each other":                stowage(1, 4, "54321"),
		"five containers in four places":    stowage(2, 2, "11111"),
		"six containers in five rows":       stowage(5, 1, "111111"),
		"seven containers in six places":    stowage(3, 2, "1111111"),
		"seven containers in six, turned":   stowage(2, 3, "1111111"),
		"many containers":                   {Rows: 5, High: 4, Ports: slices.Repeat([]int{3}, 1<<16)},
		"as many containers as places":      {Rows: 5, High: 4, Ports: slices.Repeat([]int{3}, 20)},
		"rows and height out of range":      stowage(6, 5, "12"),
		"a negative number of rows twice":   stowage(-2, -2, "12"),
		"no row, no height and no port":     stowage(0, 0, ""),
		"six rows without a container":      stowage(6, 4, ""),
		"five tiers without a container":    stowage(5, 5, ""),
		"rows that are too many for an int": {Rows: math.MaxInt, High: 4, Ports: []int{1}},
	}
	for _, n := range []int{0, -1, -5, 6, 7, 256, 1 << 32, 1<<32 + 2, -1 << 32, 1 << 62, math.MaxInt, math.MinInt} {
		all[fmt.Sprint("the number of rows ", n)] = stowage(n, 2, "12")
		all[fmt.Sprint("the height ", n)] = stowage(2, n, "12")
		all[fmt.Sprint("no container and the number of rows ", n)] = stowage(n, 4, "")
		all[fmt.Sprint("no container and the height ", n)] = stowage(1, n, "")
	}
	all["the height 5"] = stowage(2, 5, "12")
	for _, n := range []int{0, -1, -9, 10, 11, 256, 1<<32 + 1, -1 << 32, math.MaxInt, math.MinInt} {
		all[fmt.Sprint("only the port ", n)] = impl.Stowage{Rows: 2, High: 2, Ports: []int{n}}
		all[fmt.Sprint("at the beginning the port ", n)] = impl.Stowage{Rows: 2, High: 2, Ports: []int{n, 1, 2}}
		all[fmt.Sprint("in the middle the port ", n)] = impl.Stowage{Rows: 2, High: 2, Ports: []int{1, n, 2}}
		all[fmt.Sprint("at the end the port ", n)] = impl.Stowage{Rows: 5, High: 4, Ports: []int{1, 9, 2, 3, 4, 5, n}}
	}
	return all
}

// noPlansOf has lists that are no possible plans of a stowage, some of which would be with
// another number of containers.
func noPlansOf(s impl.Stowage) [][]int {
	plan := []int{}
	for i := range s.Ports {
		plan = append(plan, i%s.Rows)
	}
	all := [][]int{append(slices.Clone(plan), 0), append(slices.Clone(plan), -1), make([]int, len(plan)+9)}
	for row := range s.Rows {
		if len(plan) > s.High {
			all = append(all, slices.Repeat([]int{row}, len(plan)))
		}
		all = append(all, append(slices.Clone(plan), row), slices.Insert(slices.Clone(plan), 0, row))
	}
	for i := range plan {
		all = append(all, plan[:i], slices.Delete(slices.Clone(plan), i, i+1))
		for _, row := range noStacks(s.Rows) {
			other := slices.Clone(plan)
			other[i] = row
			all = append(all, other)
		}
	}
	if len(plan) > 0 {
		all = append(all, nil)
	}
	return all
}

func wantLoadedBay(t *testing.T, s impl.Stowage, plan []int, want string) {
	t.Helper()
	b, ok := impl.PlanBay(s, plan)
	if !ok || b.High != s.High || rowsText(b) != want || !impl.IsValidBay(b) {
		t.Errorf("PlanBay of %v with %v = %s, %v, want %s", s, plan, bayLabel(b), ok, want)
	}
}

func wantShifted(t *testing.T, s impl.Stowage, plan []int, want ...int) {
	t.Helper()
	if list, ok := impl.ShiftedBoxes(s, plan); !ok || !slices.Equal(list, want) {
		t.Errorf("ShiftedBoxes of %v with %v = %v, %v, want %v", s, plan, list, ok, want)
	}
}

func wantBestStowage(t *testing.T, s impl.Stowage, count int, plan ...int) {
	t.Helper()
	if got, n, ok := impl.BestStowage(s); !ok || n != count || !slices.Equal(got, plan) {
		t.Errorf("BestStowage of %v = %v, %d, %v, want %v, %d", s, got, n, ok, plan, count)
	}
}

func wantGreedy(t *testing.T, s impl.Stowage, count int, plan ...int) {
	t.Helper()
	if got, n, ok := impl.GreedyStowage(s); !ok || n != count || !slices.Equal(got, plan) {
		t.Errorf("GreedyStowage of %v = %v, %d, %v, want %v, %d", s, got, n, ok, plan, count)
	}
}

func wantWork(t *testing.T, s impl.Stowage, plan []int, port int, own []int, above []int) {
	t.Helper()
	a, b, ok := impl.PortWork(s, plan, port)
	if !ok || !slices.Equal(a, own) || !slices.Equal(b, above) {
		t.Errorf("PortWork of %v with %v at port %d = %v, %v, %v, want %v, %v", s, plan, port, a, b, ok, own, above)
	}
}

func wantNoWork(t *testing.T, s impl.Stowage, plan []int, port int) {
	t.Helper()
	if own, above, ok := impl.PortWork(s, plan, port); ok || len(own) != 0 || len(above) != 0 {
		t.Errorf("PortWork of %v with %v at port %d = %v, %v, %v", s, plan, port, own, above, ok)
	}
}

func wantLoadOrder(t *testing.T, s impl.Stowage, want ...int) {
	t.Helper()
	if order, ok := impl.LoadOrder(s); !ok || !slices.Equal(order, want) {
		t.Errorf("LoadOrder of %v = %v, %v, want %v", s, order, ok, want)
	}
}

// wantRowPorts wants the ports of rows like the stacks of a yard.
func wantRowPorts(t *testing.T, s impl.Stowage, plan []int, want string) {
	t.Helper()
	if rows, ok := impl.RowPorts(s, plan); !ok || yardText(impl.Yard{Stacks: rows}) != want {
		t.Errorf("RowPorts of %v with %v = %v, %v, want %s", s, plan, rows, ok, want)
	}
}

// wantNoPlanOf wants zero values of every function that takes a plan.
func wantNoPlanOf(t *testing.T, s impl.Stowage, plan []int) {
	t.Helper()
	if b, ok := impl.PlanBay(s, plan); ok || !isNoBay(b) {
		t.Errorf("PlanBay of %v with %.99v = %s, %v", s, fmt.Sprint(plan), bayLabel(b), ok)
	}
	if list, ok := impl.ShiftedBoxes(s, plan); ok || len(list) != 0 {
		t.Errorf("ShiftedBoxes of %v with %.99v = %v, %v", s, fmt.Sprint(plan), list, ok)
	}
	if rows, ok := impl.RowPorts(s, plan); ok || len(rows) != 0 {
		t.Errorf("RowPorts of %v with %.99v = %v, %v", s, fmt.Sprint(plan), rows, ok)
	}
	for port := -1; port <= 11; port++ {
		wantNoWork(t, s, plan, port)
	}
}

// wantPlanOf compares what the functions say that take a plan with the oracles.
func wantPlanOf(t *testing.T, s impl.Stowage, plan []int) {
	t.Helper()
	wantLoadedBay(t, s, plan, rowsText(bayByPlan(s, plan)))
	wantShifted(t, s, plan, shiftedByPairs(s, plan)...)
	wantRowPorts(t, s, plan, yardText(impl.Yard{Stacks: rowPortsByAsking(s, plan)}))
	for port := 1; port <= 9; port++ {
		own, above := workByTaking(s, plan, port)
		wantWork(t, s, plan, port, own, above)
	}
	for _, port := range []int{0, 10, -1, 11, 1<<32 + 1, math.MinInt, math.MaxInt} {
		wantNoWork(t, s, plan, port)
	}
}

// wantStowed compares what the functions say that take only a stowage with the oracles, but for
// BestStowage.
func wantStowed(t *testing.T, s impl.Stowage) {
	t.Helper()
	if !impl.IsValidStowage(s) {
		t.Errorf("%v is not valid", s)
	}
	plan := greedyByRule(s)
	wantGreedy(t, s, len(shiftedByPairs(s, plan)), plan...)
	wantLoadOrder(t, s, orderByPorts(s)...)
}

// wantBestOfPlans compares the best plan with all possible ones, and returns the number of
// equally good ones.
func wantBestOfPlans(t *testing.T, s impl.Stowage) int {
	t.Helper()
	plan, fewest, count := bestOfPlans(s)
	wantBestStowage(t, s, fewest, plan...)
	return count
}

// wantNotStowed wants zero values of every function for an invalid stowage.
func wantNotStowed(t *testing.T, s impl.Stowage) {
	t.Helper()
	label := fmt.Sprintf("%.99v", fmt.Sprint(s))
	if impl.IsValidStowage(s) {
		t.Errorf("%s is valid", label)
	}
	if plan, n, ok := impl.BestStowage(s); ok || n != 0 || len(plan) != 0 {
		t.Errorf("BestStowage of %s = %v, %d, %v", label, plan, n, ok)
	}
	if plan, n, ok := impl.GreedyStowage(s); ok || n != 0 || len(plan) != 0 {
		t.Errorf("GreedyStowage of %s = %v, %d, %v", label, plan, n, ok)
	}
	if order, ok := impl.LoadOrder(s); ok || len(order) != 0 {
		t.Errorf("LoadOrder of %s = %v, %v", label, order, ok)
	}
}

func TestLimitOfStowages(t *testing.T) {
	if impl.MaxStowed != 7 {
		t.Errorf("the limit is %d", impl.MaxStowed)
	}
}

func TestValidStowages(t *testing.T) {
	for _, s := range []impl.Stowage{
		stowage(1, 1, ""), stowage(5, 4, ""), {Rows: 2, High: 2}, stowage(1, 1, "1"), stowage(1, 1, "9"), stowage(5, 1, "91919"),
		stowage(1, 4, "1234"), stowage(2, 2, "1234"), stowage(5, 4, "1234567"), stowage(2, 4, "3456789"), stowage(2, 3, "999999"),
		stowage(4, 2, "1111111"), stowage(3, 2, "123456"),
	} {
		wantStowed(t, s)
		wantPlanOf(t, s, greedyByRule(s))
	}
	for _, s := range append(smallStowages(4, 3), stowageSamples(223, 2000, 7)...) {
		wantStowed(t, s)
	}
}

func TestInvalidStowagesYieldNothing(t *testing.T) {
	for name, s := range invalidStowages() {
		if isStowageByRule(s) {
			t.Errorf("%s: %v is no invalid stowage", name, s)
		}
		wantNotStowed(t, s)
		for _, plan := range [][]int{nil, {}, {0}, {0, 1}, {1, 0, 1}, digits("0101010"), digits("01234012"), make([]int, len(s.Ports))} {
			wantNoPlanOf(t, s, plan)
		}
		spread := make([]int, len(s.Ports))
		for i := range spread {
			spread[i] = i % 5
		}
		wantNoPlanOf(t, s, spread)
	}
}

func TestStowagesOfAllSizes(t *testing.T) {
	valid := 0
	for rows := -10; rows <= 20; rows++ {
		for high := -10; high <= 20; high++ {
			for count := range 25 {
				s := impl.Stowage{Rows: rows, High: high, Ports: slices.Repeat([]int{3}, count)}
				if got, want := impl.IsValidStowage(s), isStowageByRule(s); got != want {
					t.Errorf("IsValidStowage of %v = %v", s, got)
				}
				if isStowageByRule(s) {
					valid++
					wantStowed(t, s)
					wantPlanOf(t, s, greedyByRule(s))
				} else {
					wantNotStowed(t, s)
				}
			}
		}
	}
	// Of the 20 sizes, 9 have room for 7 containers, and the others for 1, 2, 2, 3, 3, 4, 4, 4, 5,
	// 6 and 6; each may have none, too.
	if valid != 9*8+2+3+3+4+4+5+5+5+6+7+7 {
		t.Errorf("%d stowages are valid", valid)
	}
}

func TestStowagesWithEveryPortAtEveryPlace(t *testing.T) {
	for _, ports := range []string{"1", "12", "99999", "1234567"} {
		for i := range ports {
			s := stowage(5, 2, ports)
			for _, port := range numbersAround() {
				s.Ports[i] = port
				if port >= 1 && port <= 9 {
					wantStowed(t, s)
				} else {
					wantNotStowed(t, s)
					wantNoPlanOf(t, s, greedyByRule(stowage(5, 2, ports)))
				}
			}
		}
	}
}

func TestPlanBay(t *testing.T) {
	wantLoadedBay(t, stowage(2, 2, "121"), digits("010"), "1 3,2")
	wantLoadedBay(t, stowage(2, 2, "121"), digits("001"), "1 2,3")
	wantLoadedBay(t, stowage(2, 2, "121"), digits("110"), "3,1 2")
	wantLoadedBay(t, stowage(5, 1, "121"), digits("420"), "3,,2,,1")
	wantLoadedBay(t, stowage(5, 4, "9999999"), digits("4444222"), ",,5 6 7,,1 2 3 4")
	wantLoadedBay(t, stowage(1, 4, "1234"), digits("0000"), "1 2 3 4")
	wantLoadedBay(t, stowage(1, 4, "1234"[:3]), digits("000"), "1 2 3")
	wantLoadedBay(t, stowage(2, 3, "654321"), digits("100110"), "2 3 6,1 4 5")
	wantLoadedBay(t, stowage(1, 1, "5"), digits("0"), "1")
	// Without a container there are only the rows.
	for rows := 1; rows <= 5; rows++ {
		for high := 1; high <= 4; high++ {
			for _, plan := range [][]int{nil, {}} {
				s := stowage(rows, high, "")
				b, ok := impl.PlanBay(s, plan)
				if !ok || b.High != high || len(b.Slots) != rows || len(numbersIn(b)) != 0 {
					t.Errorf("PlanBay of %v = %s, %v", s, bayLabel(b), ok)
				}
			}
		}
	}
}

func TestPlansThatAreNotPossible(t *testing.T) {
	s := stowage(2, 2, "121")
	for _, plan := range []string{"", "0", "01", "00", "0100", "0101", "000", "111", "012", "201", "021", "013", "00000000"} {
		wantNoPlanOf(t, s, digits(plan))
	}
	for _, row := range []int{-1, -2, 2, 3, 5, 1 << 32, -1 << 32, 1<<32 + 1, math.MaxInt, math.MinInt} {
		wantNoPlanOf(t, s, []int{row, 0, 1})
		wantNoPlanOf(t, s, []int{0, row, 1})
		wantNoPlanOf(t, s, []int{0, 1, row})
	}
	wantNoPlanOf(t, s, make([]int, 1<<16))
	// A row that is one too high, first or last, below others or not.
	wantNoPlanOf(t, stowage(2, 1, "12"), digits("00"))
	wantNoPlanOf(t, stowage(2, 1, "12"), digits("11"))
	wantNoPlanOf(t, stowage(5, 3, "1111111"), digits("0440441"))
	wantNoPlanOf(t, stowage(5, 4, "1111111"), digits("3131333"))
	wantNoPlanOf(t, stowage(2, 4, "1111111"), digits("0000011"))
	wantPlanOf(t, stowage(2, 4, "1111111"), digits("0000111"))
	wantPlanOf(t, stowage(5, 4, "1111111"), digits("3131133"))
	// Without a container only the empty plan is possible.
	for _, plan := range [][]int{{0}, {1}, {-1}, {0, 0}} {
		wantNoPlanOf(t, stowage(2, 2, ""), plan)
	}
	for _, s := range append(smallStowages(3, 2), stowageSamples(227, 200, 7)...) {
		for _, plan := range noPlansOf(s) {
			if isPlanOf(s, plan) {
				t.Errorf("%v is a possible plan of %v", plan, s)
			}
			wantNoPlanOf(t, s, plan)
		}
	}
}

// All lists of rows, some of which do not exist or become too high.
func TestAllPlansOfSmallStowages(t *testing.T) {
	possible, others := 0, 0
	for _, s := range smallStowages(3, 3) {
		for count := max(len(s.Ports)-1, 0); count <= len(s.Ports)+1; count++ {
			for _, plan := range listsOf(count, s.Rows+2) {
				for i := range plan {
					plan[i]--
				}
				if isPlanOf(s, plan) {
					possible++
					wantPlanOf(t, s, plan)
				} else {
					others++
					wantNoPlanOf(t, s, plan)
				}
			}
		}
	}
	if possible < 3000 || others < 10000 {
		t.Errorf("%d plans are possible and %d are not", possible, others)
	}
}

func TestMixedPlans(t *testing.T) {
	next := dice(229)
	for range 5000 {
		s := mixedStowage(next, 7, 2+next(8))
		wantPlanOf(t, s, mixedPlan(next, s))
	}
}

func TestShiftedBoxes(t *testing.T) {
	wantShifted(t, stowage(2, 2, "121"), digits("001"), 2)
	wantShifted(t, stowage(2, 2, "121"), digits("010"))
	wantShifted(t, stowage(1, 2, "12"), digits("00"), 2)
	wantShifted(t, stowage(1, 2, "21"), digits("00"))
	wantShifted(t, stowage(2, 2, "12"), digits("01"))
	wantShifted(t, stowage(1, 2, "89"), digits("00"), 2)
	// Equal ports above each other are not shifted.
	wantShifted(t, stowage(1, 4, "5555"), digits("0000"))
	wantShifted(t, stowage(1, 4, "9911"), digits("0000"))
	wantShifted(t, stowage(1, 4, "1199"), digits("0000"), 3, 4)
	// Several smaller ports below count once.
	wantShifted(t, stowage(1, 4, "1112"), digits("0000"), 4)
	wantShifted(t, stowage(1, 4, "3219"), digits("0000"), 4)
	wantShifted(t, stowage(1, 4, "1234"), digits("0000"), 2, 3, 4)
	// The smaller port is not directly below.
	wantShifted(t, stowage(1, 3, "122"), digits("000"), 2, 3)
	wantShifted(t, stowage(1, 3, "132"), digits("000"), 2, 3)
	wantShifted(t, stowage(1, 3, "213"), digits("000"), 3)
	wantShifted(t, stowage(1, 4, "1432"), digits("0000"), 2, 3, 4)
	wantShifted(t, stowage(2, 3, "17963"), digits("01010"), 3, 5)
	wantShifted(t, stowage(2, 4, "2193384"), digits("0100110"), 3, 4, 5, 6, 7)
	// They are in ascending order of their numbers, not of their rows or ports.
	wantShifted(t, stowage(3, 2, "111987"), digits("012210"), 4, 5, 6)
	wantShifted(t, stowage(2, 2, "1122"), digits("0110"), 3, 4)
	wantShifted(t, stowage(2, 2, "1198"), digits("0110"), 3, 4)
	wantShifted(t, stowage(5, 4, ""), nil)
}

// A row of all lists of ports.
func TestShiftedBoxesOfAllSingleRows(t *testing.T) {
	for count := range 5 {
		for _, ports := range listsOf(count, 5) {
			s := impl.Stowage{Rows: 1, High: 4, Ports: ports}
			for i := range ports {
				ports[i] = 2*ports[i] + 1
			}
			wantPlanOf(t, s, make([]int, count))
			wantBestStowage(t, s, len(shiftedByPairs(s, make([]int, count))), make([]int, count)...)
		}
	}
}

func TestBestStowage(t *testing.T) {
	wantBestStowage(t, stowage(2, 2, "121"), 0, 0, 1, 0)
	wantBestStowage(t, stowage(1, 3, "123"), 2, 0, 0, 0)
	wantBestStowage(t, stowage(1, 3, "321"), 0, 0, 0, 0)
	wantBestStowage(t, stowage(3, 1, "123"), 0, 0, 1, 2)
	wantBestStowage(t, stowage(1, 1, "7"), 0, 0)
	// The lexicographically smallest one of several.
	wantBestStowage(t, stowage(5, 4, "1"), 0, 0)
	wantBestStowage(t, stowage(5, 4, "12"), 0, 0, 1)
	wantBestStowage(t, stowage(5, 4, "1111111"), 0, 0, 0, 0, 0, 1, 1, 1)
	wantBestStowage(t, stowage(5, 1, "54321"), 0, 0, 1, 2, 3, 4)
	wantBestStowage(t, stowage(2, 2, "1234"), 2, 0, 0, 1, 1)
	wantBestStowage(t, stowage(2, 3, "1234"), 2, 0, 0, 0, 1)
	wantBestStowage(t, stowage(2, 4, "123"), 1, 0, 0, 1)
	wantBestStowage(t, stowage(3, 2, "1234"), 1, 0, 0, 1, 2)
	wantBestStowage(t, stowage(2, 4, "1234567"), 5, 0, 0, 0, 0, 1, 1, 1)
	// A container that fits above another one stands beside it, so that a later one need not be
	// shifted.
	wantBestStowage(t, stowage(2, 2, "2212"), 0, 0, 1, 0, 1)
	wantBestStowage(t, stowage(2, 3, "3213"), 0, 0, 0, 0, 1)
	wantBestStowage(t, stowage(2, 3, "32133"), 0, 0, 0, 0, 1, 1)
	wantBestStowage(t, stowage(2, 3, "332133"), 0, 0, 1, 0, 0, 1, 1)
	// A shifted container makes room for others.
	wantBestStowage(t, stowage(2, 4, "1292929"), 3, 0, 0, 1, 0, 1, 0, 1)
	wantBestStowage(t, stowage(2, 2, "1929"), 1, 0, 1, 0, 1)
	for rows := 1; rows <= 5; rows++ {
		for high := 1; high <= 4; high++ {
			wantBestStowage(t, stowage(rows, high, ""), 0)
		}
	}
}

// The bay has as many places as there are containers, or one more.
func TestBestStowageOfFullBays(t *testing.T) {
	full, ties := 0, 0
	for rows := 1; rows <= 5; rows++ {
		for high := 1; high <= 4; high++ {
			room := rows * high
			for _, count := range []int{room, room - 1} {
				if count > 7 {
					continue
				}
				next := dice(1000*rows + high)
				for range 30 {
					s := impl.Stowage{Rows: rows, High: high}
					for range count {
						s.Ports = append(s.Ports, 1+next(9))
					}
					full++
					wantStowed(t, s)
					if wantBestOfPlans(t, s) > 1 {
						ties++
					}
					wantNotStowed(t, impl.Stowage{Rows: rows, High: high, Ports: slices.Repeat([]int{9}, room+1)})
				}
			}
		}
	}
	if full < 600 || ties < 100 {
		t.Errorf("%d bays are full, %d of them with several best plans", full, ties)
	}
}

// No possible plan of a small stowage is better than the best one, or equally good and
// lexicographically smaller.
func TestBestStowageOfAllSmallStowages(t *testing.T) {
	ties, single, shifting := 0, 0, 0
	for _, s := range append(smallStowages(5, 3), smallStowages(4, 4)...) {
		if wantBestOfPlans(t, s) > 1 {
			ties++
		} else {
			single++
		}
		if _, n, _ := impl.BestStowage(s); n > 0 {
			shifting++
		}
	}
	if ties < 1000 || single < 500 || shifting < 500 {
		t.Errorf("%d stowages have several best plans, %d have one, %d have shifted containers", ties, single, shifting)
	}
}

func TestBestStowageOfMixedStowages(t *testing.T) {
	for _, s := range stowageSamples(233, 1500, 5) {
		wantBestOfPlans(t, s)
	}
	for _, s := range stowageSamples(239, 150, 7) {
		wantBestOfPlans(t, s)
	}
}

// The greatest stowages, with all their plans.
func TestBestStowageOfSevenContainersInFiveRows(t *testing.T) {
	next := dice(241)
	for high := 2; high <= 4; high++ {
		for range 3 {
			s := impl.Stowage{Rows: 5, High: high}
			for range 7 {
				s.Ports = append(s.Ports, 1+next(9))
			}
			wantBestOfPlans(t, s)
		}
		wantBestOfPlans(t, stowage(5, high, "1234567"))
		wantBestOfPlans(t, stowage(5, high, "7654321"))
	}
}

// No plan that PlanBay loads has fewer shifted containers in ShiftedBoxes than the best one.
func TestNoPossiblePlanIsBetterThanTheBest(t *testing.T) {
	for _, s := range stowageSamples(251, 400, 4) {
		best, fewest, ok := impl.BestStowage(s)
		own, fine := impl.ShiftedBoxes(s, best)
		if !ok || !fine || len(own) != fewest {
			t.Errorf("%v: the best plan %v has %v shifted, %v, not %d", s, best, own, fine, fewest)
		}
		for _, plan := range listsOf(len(s.Ports), s.Rows+1) {
			_, possible := impl.PlanBay(s, plan)
			shifted, told := impl.ShiftedBoxes(s, plan)
			if possible != told {
				t.Errorf("%v with %v: only one of PlanBay and ShiftedBoxes fails", s, plan)
			}
			if possible && (len(shifted) < fewest || len(shifted) == fewest && slices.Compare(plan, best) < 0) {
				t.Errorf("%v: the best plan is %v with %d, but %v has %v shifted", s, best, fewest, plan, shifted)
			}
		}
	}
}

func TestGreedyStowage(t *testing.T) {
	wantGreedy(t, stowage(2, 2, "121"), 0, 0, 1, 0)
	wantGreedy(t, stowage(1, 3, "123"), 2, 0, 0, 0)
	wantGreedy(t, stowage(5, 4, "1"), 0, 0)
	wantGreedy(t, stowage(3, 3, "123"), 0, 0, 1, 2)
	wantGreedy(t, stowage(3, 3, "321"), 0, 0, 0, 0)
	// Equal ports fit.
	wantGreedy(t, stowage(3, 3, "222"), 0, 0, 0, 0)
	wantGreedy(t, stowage(3, 3, "212"), 0, 0, 0, 1)
	// All containers of a row count, not only the highest one.
	wantGreedy(t, stowage(2, 4, "3122"), 0, 0, 0, 1, 1)
	wantGreedy(t, stowage(3, 4, "1232"), 0, 0, 1, 2, 1)
	// Rows become full.
	wantGreedy(t, stowage(2, 2, "4321"), 0, 0, 0, 1, 1)
	wantGreedy(t, stowage(5, 1, "99999"), 0, 0, 1, 2, 3, 4)
	wantGreedy(t, stowage(3, 2, "555555"), 0, 0, 0, 1, 1, 2, 2)
	wantGreedy(t, stowage(2, 4, "9876543"), 0, 0, 0, 0, 0, 1, 1, 1)
	// No row fits by its ports: the first one that is not full.
	wantGreedy(t, stowage(2, 2, "1234"), 2, 0, 1, 0, 1)
	wantGreedy(t, stowage(2, 3, "1234"), 2, 0, 1, 0, 0)
	wantGreedy(t, stowage(2, 3, "123456"), 4, 0, 1, 0, 0, 1, 1)
	wantGreedy(t, stowage(3, 4, "1239"), 1, 0, 1, 2, 0)
	// The first row that fits may come behind one that is not full, and a fitting one may be full.
	wantGreedy(t, stowage(3, 2, "13222"), 0, 0, 1, 1, 2, 2)
	wantGreedy(t, stowage(2, 2, "9919"), 1, 0, 0, 1, 1)
	wantGreedy(t, stowage(3, 1, "987"), 0, 0, 1, 2)
	// After a shifted container its row still has the smaller port.
	wantGreedy(t, stowage(1, 4, "1932"), 3, 0, 0, 0, 0)
	wantGreedy(t, stowage(2, 4, "14933"), 1, 0, 1, 0, 1, 1)
	for rows := 1; rows <= 5; rows++ {
		for high := 1; high <= 4; high++ {
			wantGreedy(t, stowage(rows, high, ""), 0)
		}
	}
}

func TestGreedyStowageIsNotAlwaysTheBest(t *testing.T) {
	wantGreedy(t, stowage(2, 2, "2212"), 1, 0, 0, 1, 1)
	wantBestStowage(t, stowage(2, 2, "2212"), 0, 0, 1, 0, 1)
	better, equal, smaller := 0, 0, 0
	for _, s := range append(smallStowages(6, 3), stowageSamples(257, 3000, 7)...) {
		wantStowed(t, s)
		greedy, n, ok := impl.GreedyStowage(s)
		best, fewest, fine := impl.BestStowage(s)
		shifted, possible := impl.ShiftedBoxes(s, greedy)
		own, too := impl.ShiftedBoxes(s, best)
		if !ok || !fine || !possible || !too || len(shifted) != n || len(own) != fewest {
			t.Errorf("%v: %v with %d has %v shifted, the best plan %v with %d has %v", s, greedy, n, shifted, best, fewest, own)
		}
		switch {
		case fewest > n:
			t.Errorf("%v: the best plan %v has %d, the greedy one %v has %d", s, best, fewest, greedy, n)
		case fewest < n:
			better++
		case slices.Equal(best, greedy):
			equal++
		case slices.Compare(best, greedy) < 0:
			smaller++
		default:
			t.Errorf("%v: the greedy plan %v is equally good and smaller than %v", s, greedy, best)
		}
	}
	if better < 100 || equal < 1000 || smaller < 100 {
		t.Errorf("%d best plans are better, %d equal and %d smaller", better, equal, smaller)
	}
}

func TestPortWork(t *testing.T) {
	s := stowage(2, 2, "121")
	wantWork(t, s, digits("001"), 1, digits("13"), digits("2"))
	wantWork(t, s, digits("001"), 2, digits("2"), nil)
	wantWork(t, s, digits("010"), 1, digits("13"), nil)
	// Ports without a container.
	for port := 3; port <= 9; port++ {
		wantWork(t, s, digits("001"), port, nil, nil)
	}
	wantWork(t, stowage(1, 2, "28"), digits("00"), 1, nil, nil)
	wantWork(t, stowage(1, 2, "28"), digits("00"), 5, nil, nil)
	wantWork(t, stowage(1, 2, "19"), digits("00"), 1, digits("1"), digits("2"))
	wantWork(t, stowage(1, 2, "19"), digits("00"), 9, digits("2"), nil)
	// Smaller ports above and below are not there any more.
	wantWork(t, stowage(1, 4, "1213"), digits("0000"), 2, digits("2"), digits("4"))
	wantWork(t, stowage(1, 4, "1312"), digits("0000"), 3, digits("2"), nil)
	wantWork(t, stowage(1, 2, "21"), digits("00"), 2, digits("1"), nil)
	wantWork(t, stowage(1, 2, "12"), digits("00"), 2, digits("2"), nil)
	// One that stands above two of the port counts once.
	wantWork(t, stowage(1, 4, "2214"), digits("0000"), 2, digits("12"), digits("4"))
	wantWork(t, stowage(1, 4, "5957"), digits("0000"), 5, digits("13"), digits("24"))
	wantWork(t, stowage(1, 4, "5599"), digits("0000"), 5, digits("12"), digits("34"))
	// Equal ports above, greater ones below, and those of other rows do not count.
	wantWork(t, stowage(1, 4, "4444"), digits("0000"), 4, digits("1234"), nil)
	wantWork(t, stowage(1, 4, "9845"), digits("0000"), 4, digits("3"), digits("4"))
	wantWork(t, stowage(2, 3, "49599"), digits("01011"), 4, digits("1"), digits("3"))
	wantWork(t, stowage(2, 2, "1919"), digits("0101"), 1, digits("13"), nil)
	// Both lists are in ascending order of the numbers.
	wantWork(t, stowage(3, 2, "111987"), digits("012210"), 1, digits("123"), digits("456"))
	wantWork(t, stowage(2, 2, "1122"), digits("1010"), 1, digits("12"), digits("34"))
	wantWork(t, stowage(2, 4, "3183973"), digits("1010101"), 3, digits("147"), digits("356"))
	wantWork(t, stowage(2, 4, "3183973"), digits("1101010"), 3, digits("147"), digits("6"))
	for _, port := range []int{0, 10, -1, 11, 100, 1<<32 + 1, -1 << 32, math.MaxInt, math.MinInt} {
		wantNoWork(t, s, digits("001"), port)
		wantNoWork(t, stowage(2, 2, ""), nil, port)
	}
	for port := 1; port <= 9; port++ {
		wantWork(t, stowage(2, 2, ""), nil, port, nil, nil)
	}
}

// Every container is unloaded at one port, and those that are taken out of the way before are
// the shifted ones.
func TestTheWorkOfAllPortsIsThatOfAllContainers(t *testing.T) {
	next, several := dice(263), 0
	for range 3000 {
		s := mixedStowage(next, 7, 2+next(8))
		plan := mixedPlan(next, s)
		unloaded, moved := []int{}, []int{}
		for port := 1; port <= 9; port++ {
			own, above, ok := impl.PortWork(s, plan, port)
			if !ok {
				t.Errorf("PortWork of %v with %v at port %d fails", s, plan, port)
			}
			unloaded, moved = append(unloaded, own...), append(moved, above...)
		}
		slices.Sort(unloaded)
		slices.Sort(moved)
		if !slices.Equal(unloaded, rowByPlan(make([]int, len(s.Ports)), 0)) {
			t.Errorf("%v with %v: %v are unloaded at all ports", s, plan, unloaded)
		}
		count := len(moved)
		moved = slices.Compact(moved)
		if count > len(moved) {
			several++
		}
		wantShifted(t, s, plan, moved...)
	}
	if several < 100 {
		t.Errorf("only %d plans have a container that is moved at several ports", several)
	}
}

// The bay is unloaded port by port, of each port the container first that was loaded last, so that
// exactly the shifted ones are overstows, each of them at least once.
func TestTheWorkOfThePortsEmptiesTheBay(t *testing.T) {
	for _, s := range stowageSamples(269, 1000, 7) {
		plan, n, _ := impl.BestStowage(s)
		b, _ := impl.PlanBay(s, plan)
		var order []int
		for port := 1; port <= 9; port++ {
			own, _, _ := impl.PortWork(s, plan, port)
			slices.Reverse(own)
			order = append(order, own...)
		}
		counts, ok := impl.OverstowsOf(b, order)
		overstows := 0
		for _, count := range counts {
			overstows += count
		}
		if !ok || len(counts) != len(s.Ports) || overstows < n || (overstows == 0) != (n == 0) {
			t.Errorf("%v with %v: the order %v has the overstows %v, %v, but %d are shifted", s, plan, order, counts, ok, n)
		}
	}
}

func TestLoadOrder(t *testing.T) {
	wantLoadOrder(t, stowage(2, 2, "121"), 2, 1, 3)
	wantLoadOrder(t, stowage(5, 4, "1915"), 2, 4, 1, 3)
	wantLoadOrder(t, stowage(5, 4, "1234567"), 7, 6, 5, 4, 3, 2, 1)
	wantLoadOrder(t, stowage(5, 4, "9876543"), 1, 2, 3, 4, 5, 6, 7)
	wantLoadOrder(t, stowage(5, 4, "5555555"), 1, 2, 3, 4, 5, 6, 7)
	wantLoadOrder(t, stowage(5, 4, "1919191"), 2, 4, 6, 1, 3, 5, 7)
	wantLoadOrder(t, stowage(1, 1, "9"), 1)
	wantLoadOrder(t, stowage(1, 1, "1"), 1)
	wantLoadOrder(t, stowage(1, 1, ""))
	wantLoadOrder(t, stowage(5, 4, ""))
}

// A load order has every number once, and loaded in it, no container is shifted in any plan.
func TestNoContainerIsShiftedInALoadOrder(t *testing.T) {
	next := dice(271)
	for _, s := range append(smallStowages(5, 3), stowageSamples(277, 1000, 7)...) {
		order, ok := impl.LoadOrder(s)
		wantLoadOrder(t, s, orderByPorts(s)...)
		sorted := slices.Sorted(slices.Values(order))
		if !ok || !slices.Equal(sorted, rowByPlan(make([]int, len(s.Ports)), 0)) {
			t.Fatalf("LoadOrder of %v = %v, %v", s, order, ok)
		}
		again := impl.Stowage{Rows: s.Rows, High: s.High}
		for _, n := range order {
			again.Ports = append(again.Ports, s.Ports[n-1])
		}
		wantShifted(t, again, mixedPlan(next, again))
		if _, n, ok := impl.BestStowage(again); !ok || n != 0 {
			t.Errorf("%d containers of %v are shifted, %v", n, again, ok)
		}
		if _, n, ok := impl.GreedyStowage(again); !ok || n != 0 {
			t.Errorf("%d containers of the greedy plan of %v are shifted, %v", n, again, ok)
		}
	}
}

func TestRowPorts(t *testing.T) {
	wantRowPorts(t, stowage(2, 2, "121"), digits("001"), "1 2,1")
	wantRowPorts(t, stowage(2, 2, "121"), digits("010"), "1,2")
	wantRowPorts(t, stowage(1, 4, "3132"), digits("0000"), "1 2 3")
	wantRowPorts(t, stowage(1, 4, "4321"), digits("0000"), "1 2 3 4")
	wantRowPorts(t, stowage(1, 4, "7777"), digits("0000"), "7")
	wantRowPorts(t, stowage(1, 4, "9191"), digits("0000"), "1 9")
	wantRowPorts(t, stowage(2, 3, "982982"), digits("000111"), "2 8 9,2 8 9")
	// Rows without a container.
	wantRowPorts(t, stowage(5, 1, "9"), digits("4"), ",,,,9")
	wantRowPorts(t, stowage(5, 4, "1234567"), digits("1133131"), ",1 2 5 7,,3 4 6,")
	wantRowPorts(t, stowage(3, 1, ""), nil, ",,")
	for rows := 1; rows <= 5; rows++ {
		if got, ok := impl.RowPorts(stowage(rows, 1, ""), nil); !ok || len(got) != rows || len(slices.Concat(got...)) != 0 {
			t.Errorf("RowPorts of %d empty rows = %v, %v", rows, got, ok)
		}
	}
}

// Only the order of the ports counts for the plans.
func TestPlansDoNotDependOnTheNamesOfPorts(t *testing.T) {
	for _, s := range append(smallStowages(4, 3), stowageSamples(281, 300, 7)...) {
		other, names := copyOfStowage(s), slices.Compact(slices.Sorted(slices.Values(s.Ports)))
		for i, port := range s.Ports {
			other.Ports[i] = 10 - len(names) + slices.Index(names, port)
		}
		best, n, _ := impl.BestStowage(s)
		wantBestStowage(t, other, n, best...)
		greedy, n, _ := impl.GreedyStowage(s)
		wantGreedy(t, other, n, greedy...)
	}
}

// stowageAnswers has what every function of chapter 10 says.
func stowageAnswers(s impl.Stowage, plans [][]int) []string {
	var all []string
	add := func(parts ...any) { all = append(all, fmt.Sprintln(parts...)) }
	add("valid", impl.IsValidStowage(s))
	best, n, ok := impl.BestStowage(s)
	add("best", best, n, ok)
	greedy, n, ok := impl.GreedyStowage(s)
	add("greedy", greedy, n, ok)
	order, ok := impl.LoadOrder(s)
	add("order", order, ok)
	for _, plan := range plans {
		b, ok := impl.PlanBay(s, plan)
		add("bay", plan, bayLabel(b), ok)
		shifted, ok := impl.ShiftedBoxes(s, plan)
		add("shifted", plan, shifted, ok)
		rows, ok := impl.RowPorts(s, plan)
		add("rows", plan, yardText(impl.Yard{Stacks: rows}), ok)
		for port := range 11 {
			own, above, ok := impl.PortWork(s, plan, port)
			add("work", plan, port, own, above, ok)
		}
	}
	return all
}

// plansToAsk has plans, some of them too short, too long or with rows that become too high.
func plansToAsk(s impl.Stowage) [][]int {
	greedy, best := greedyByRule(s), mixedPlan(dice(len(s.Ports)+7), s)
	return [][]int{nil, greedy, best, make([]int, len(s.Ports)), greedy[:len(greedy)/2], append(slices.Clone(best), 0)}
}

// Arguments in arrays with something behind them are answered like separate ones, and none of
// them is changed.
func TestStowageLeavesItsArgumentsAlone(t *testing.T) {
	for _, s := range append(smallStowages(3, 3), stowageSamples(283, 300, 7)...) {
		plans := plansToAsk(s)
		want := stowageAnswers(s, plans)
		for _, filler := range []int{-7, 0, 1, 9} {
			part, array := withRoom(s.Ports, filler)
			var packed, arrays [][]int
			for _, plan := range plans {
				part, array := withRoom(plan, filler)
				packed, arrays = append(packed, part), append(arrays, array)
			}
			if got := stowageAnswers(impl.Stowage{Rows: s.Rows, High: s.High, Ports: part}, packed); !slices.Equal(got, want) {
				t.Errorf("the answers about %v with %d behind are others", s, filler)
			}
			if !slices.Equal(array, append(slices.Clone(s.Ports), filler, filler, filler)) {
				t.Errorf("the ports of %v are changed to %v", s, array)
			}
			for i, array := range arrays {
				if !slices.Equal(array, append(slices.Clone(plans[i]), filler, filler, filler)) {
					t.Errorf("the plan %v is changed to %v", plans[i], array)
				}
			}
		}
	}
}

func TestInvalidStowagesAndPlansAreLeftAlone(t *testing.T) {
	for name, s := range invalidStowages() {
		before, plan := copyOfStowage(s), make([]int, len(s.Ports))
		stowageAnswers(s, [][]int{plan})
		if !slices.Equal(s.Ports, before.Ports) || len(plan) > 0 && (slices.Min(plan) != 0 || slices.Max(plan) != 0) {
			t.Errorf("%s: an argument is changed", name)
		}
	}
	s := stowage(3, 2, "31415")
	for _, plan := range noPlansOf(s) {
		before := slices.Clone(plan)
		stowageAnswers(s, [][]int{plan})
		if !slices.Equal(s.Ports, digits("31415")) || !slices.Equal(plan, before) {
			t.Errorf("the stowage %v or the plan %v is changed to %v", s, before, plan)
		}
	}
}

// The same memory may have the ports and a plan.
func TestPlansInTheMemoryOfPorts(t *testing.T) {
	array := digits("1221434")
	s := impl.Stowage{Rows: 5, High: 2, Ports: array[:4]}
	wantPlanOf(t, s, array[:4])
	wantPlanOf(t, s, array[1:5])
	wantPlanOf(t, s, array[3:])
	wantRowPorts(t, s, array[:4], ",1,2,,")
	wantLoadedBay(t, s, array[3:], ",1,,3,2 4")
	wantShifted(t, s, array[1:5], 2)
	wantWork(t, s, array[3:], 1, digits("14"), nil)
	wantNoPlanOf(t, s, array)
	wantBestOfPlans(t, s)
	if !slices.Equal(array, digits("1221434")) {
		t.Errorf("the array is changed to %v", array)
	}
}

// newStowageLists calls every function of chapter 10 that returns slices and returns all of
// them, the lists of rows apart.
func newStowageLists(s impl.Stowage, plans [][]int) ([][]int, [][][]int) {
	best, _, _ := impl.BestStowage(s)
	greedy, _, _ := impl.GreedyStowage(s)
	order, _ := impl.LoadOrder(s)
	lists, rows := [][]int{best, greedy, order}, [][][]int{}
	for _, plan := range plans {
		b, _ := impl.PlanBay(s, plan)
		shifted, _ := impl.ShiftedBoxes(s, plan)
		ports, _ := impl.RowPorts(s, plan)
		lists = append(append(append(lists, b.Slots...), shifted), ports...)
		rows = append(rows, b.Slots, ports)
		for port := range 11 {
			own, above, _ := impl.PortWork(s, plan, port)
			lists = append(lists, own, above)
		}
	}
	return lists, rows
}

func TestResultsOfStowageAreNew(t *testing.T) {
	for _, s := range append(smallStowages(3, 3), stowageSamples(293, 300, 7)...) {
		plans := plansToAsk(s)
		lists, rows := newStowageLists(s, plans)
		again, rowsAgain := newStowageLists(s, plans)
		arguments := append(slices.Clone(plans[:4]), plans[5], s.Ports)
		if sharesElement(slices.Concat(lists, again, arguments)...) {
			t.Fatalf("results for %v share numbers", s)
		}
		if sharesElement(slices.Concat(rows, rowsAgain)...) {
			t.Fatalf("results for %v share lists of rows", s)
		}
	}
}

func TestResultsOfStowageStayWhenArgumentsChange(t *testing.T) {
	for _, s := range append(smallStowages(3, 3), stowageSamples(307, 300, 7)...) {
		other, plans := copyOfStowage(s), plansToAsk(s)
		lists, _ := newStowageLists(other, plans)
		want := copyOfYard(impl.Yard{Stacks: lists}).Stacks
		spoil(other.Ports)
		for _, plan := range plans {
			spoil(plan)
		}
		if !slices.EqualFunc(lists, want, slices.Equal[[]int]) {
			t.Fatalf("a change of %v changes a result", s)
		}
	}
}

// A result that is changed does not change what is said later.
func TestChangedResultsOfStowageChangeNoOther(t *testing.T) {
	for _, s := range append(smallStowages(3, 3), stowageSamples(311, 300, 7)...) {
		plans := plansToAsk(s)
		want := stowageAnswers(s, plans)
		lists, rows := newStowageLists(s, plans)
		for _, list := range lists {
			spoil(list)
		}
		for _, row := range rows {
			clear(row)
		}
		if got := stowageAnswers(s, plans); !slices.Equal(got, want) {
			t.Fatalf("the answers about %v are others the second time", s)
		}
	}
}
