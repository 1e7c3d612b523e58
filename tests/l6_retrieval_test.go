package tests

import (
	"fmt"
	"math"
	"slices"
	"strconv"
	"strings"
	"testing"

	"loop.example/g00906/impl"
)

// stepsFrom reads a list of steps: "5 1, 1" relocates 5 to stack 1 and then removes 1.
func stepsFrom(s string) []impl.Step {
	list := []impl.Step{}
	for _, part := range strings.Split(s, ",") {
		numbers := []int{}
		for _, word := range strings.Fields(part) {
			n, err := strconv.Atoi(word)
			if err != nil {
				panic("no steps: " + s)
			}
			numbers = append(numbers, n)
		}
		switch len(numbers) {
		case 1:
			list = append(list, impl.Step{Box: numbers[0], To: -1})
		case 2:
			list = append(list, impl.Step{Box: numbers[0], To: numbers[1]})
		}
	}
	return list
}

// stepsText is the inverse of stepsFrom.
func stepsText(list []impl.Step) string {
	var parts []string
	for _, step := range list {
		if step.To == -1 {
			parts = append(parts, strconv.Itoa(step.Box))
		} else {
			parts = append(parts, fmt.Sprint(step.Box, step.To))
		}
	}
	return strings.Join(parts, ", ")
}

// orderFrom reads the numbers of an order, separated by spaces.
func orderFrom(s string) []int { return numbersOf(yardFrom(s)) }

// swings moves the only number 1 to and fro between two stacks.
func swings(count int) []impl.Step {
	list := []impl.Step{}
	for i := range count {
		list = append(list, impl.Step{Box: 1, To: (i + 1) % 2})
	}
	return list
}

// stepByHand makes a step on a copy, as an oracle.
func stepByHand(y impl.Yard, step impl.Step) (impl.Yard, bool) {
	from := slices.IndexFunc(y.Stacks, func(stack []int) bool {
		return len(stack) > 0 && stack[len(stack)-1] == step.Box
	})
	if from < 0 {
		return impl.Yard{}, false
	}
	z := copyOfYard(y)
	z.Stacks[from] = z.Stacks[from][:len(z.Stacks[from])-1]
	if step.To == -1 {
		return z, true
	}
	if step.To < 0 || step.To >= len(y.Stacks) || step.To == from || len(y.Stacks[step.To]) == 4 {
		return impl.Yard{}, false
	}
	z.Stacks[step.To] = append(z.Stacks[step.To], step.Box)
	return z, true
}

// runByHand makes steps, however many, as an oracle.
func runByHand(y impl.Yard, list []impl.Step) (impl.Yard, []int, bool) {
	removed := []int{}
	for _, step := range list {
		z, ok := stepByHand(y, step)
		if !ok {
			return impl.Yard{}, nil, false
		}
		if step.To == -1 {
			removed = append(removed, step.Box)
		}
		y = z
	}
	return y, removed, true
}

// isPlanByRule checks the three conditions of a plan one after the other, as an oracle.
func isPlanByRule(y impl.Yard, order []int, list []impl.Step) bool {
	_, removed, ok := runByHand(y, list)
	if !ok || !slices.Equal(removed, order) {
		return false
	}
	for i, step := range list {
		if step.To == -1 {
			continue
		}
		z, removed, _ := runByHand(y, list[:i])
		if len(removed) == len(order) {
			return false
		}
		for _, stack := range z.Stacks {
			if slices.Contains(stack, order[len(removed)]) && stack[len(stack)-1] != step.Box {
				return false
			}
		}
	}
	return true
}

// turnOf returns the place of a number in the order; all others have the place behind it.
func turnOf(order []int, n int) int {
	if i := slices.Index(order, n); i >= 0 {
		return i
	}
	return len(order)
}

// boundByPairs looks at every number below every container, as an oracle.
func boundByPairs(y impl.Yard, order []int) int {
	count := 0
	for _, stack := range y.Stacks {
		for tier, n := range stack {
			if slices.ContainsFunc(stack[:tier], func(lower int) bool { return turnOf(order, lower) < turnOf(order, n) }) {
				count++
			}
		}
	}
	return count
}

func relocationsOf(list []impl.Step) []int {
	stacks := []int{}
	for _, step := range list {
		if step.To != -1 {
			stacks = append(stacks, step.To)
		}
	}
	return stacks
}

// allPlans returns every plan with a number of relocations: it tries every step at every place,
// those that relocate the next number itself included.
func allPlans(y impl.Yard, order []int, relocations int) [][]impl.Step {
	if len(order) == 0 {
		if relocations == 0 {
			return [][]impl.Step{{}}
		}
		return nil
	}
	var all [][]impl.Step
	add := func(step impl.Step, rest [][]impl.Step) {
		for _, list := range rest {
			all = append(all, append([]impl.Step{step}, list...))
		}
	}
	for _, stack := range y.Stacks {
		if !slices.Contains(stack, order[0]) {
			continue
		}
		top := stack[len(stack)-1]
		for to := range y.Stacks {
			step := impl.Step{Box: top, To: to}
			if z, ok := stepByHand(y, step); ok && relocations > 0 {
				add(step, allPlans(z, order, relocations-1))
			}
		}
		step := impl.Step{Box: top, To: -1}
		if z, ok := stepByHand(y, step); ok && top == order[0] {
			add(step, allPlans(z, order[1:], relocations))
		}
	}
	return all
}

func comparePlans(a []impl.Step, b []impl.Step) int {
	return slices.Compare(relocationsOf(a), relocationsOf(b))
}

// bestByTrying returns the first of all plans with the fewest relocations, all of those with
// this number of relocations, and false if there is none with at most a number of them.
func bestByTrying(y impl.Yard, order []int, most int) ([]impl.Step, [][]impl.Step, bool) {
	for relocations := range most + 1 {
		if plans := allPlans(y, order, relocations); len(plans) > 0 {
			return slices.MinFunc(plans, comparePlans), plans, true
		}
	}
	return nil, nil, false
}

// levelNode is a yard on the way of the search by levels, and how it was reached.
type levelNode struct {
	yard impl.Yard
	left []int
	list []impl.Step
}

func (node levelNode) after(step impl.Step) (levelNode, bool) {
	z, ok := stepByHand(node.yard, step)
	return levelNode{z, node.left, append(slices.Clone(node.list), step)}, ok
}

// withTopsRemoved removes the next numbers as long as they are tops.
func (node levelNode) withTopsRemoved() levelNode {
	for len(node.left) > 0 {
		next, ok := node.after(impl.Step{Box: node.left[0], To: -1})
		if !ok {
			return node
		}
		next.left = node.left[1:]
		node = next
	}
	return node
}

// blockedBy returns the top of the stack in which the next number stands.
func (node levelNode) blockedBy() int {
	for _, stack := range node.yard.Stacks {
		if slices.Contains(stack, node.left[0]) {
			return stack[len(stack)-1]
		}
	}
	return 0
}

// bestByLevels looks at all yards that can be reached with 0, 1, 2, .. relocations, those of one
// level in the order of the lists of To, and keeps the first way to each; it knows no bound.
func bestByLevels(y impl.Yard, order []int) ([]impl.Step, bool) {
	level := []levelNode{{y, order, []impl.Step{}}}
	met := map[string]bool{}
	for len(level) > 0 {
		var below []levelNode
		for _, node := range level {
			node = node.withTopsRemoved()
			if len(node.left) == 0 {
				return node.list, true
			}
			if key := fmt.Sprint(node.yard, len(node.left)); !met[key] {
				met[key] = true
				for to := range y.Stacks {
					if next, ok := node.after(impl.Step{Box: node.blockedBy(), To: to}); ok {
						below = append(below, next)
					}
				}
			}
		}
		level = below
	}
	return nil, false
}

// simpleByHand digs for one number after the other, as an oracle.
func simpleByHand(y impl.Yard, order []int) ([]impl.Step, bool) {
	node := levelNode{y, order, []impl.Step{}}.withTopsRemoved()
	for len(node.left) > 0 {
		to, height := 0, 4
		for i, stack := range node.yard.Stacks {
			if !slices.Contains(stack, node.left[0]) && len(stack) < height {
				to, height = i, len(stack)
			}
		}
		next, ok := node.after(impl.Step{Box: node.blockedBy(), To: to})
		if !ok || height == 4 {
			return nil, false
		}
		node = next.withTopsRemoved()
	}
	return node.list, true
}

// ordersOf returns all orders of at most a number of the numbers that stand in a yard.
func ordersOf(y impl.Yard, most int) [][]int {
	all := [][]int{{}}
	last := all
	for range most {
		var next [][]int
		for _, order := range last {
			for _, n := range numbersOf(y) {
				if !slices.Contains(order, n) {
					next = append(next, append(slices.Clone(order), n))
				}
			}
		}
		all = append(all, next...)
		last = next
	}
	return all
}

// dice returns a function that yields numbers below its argument, the same ones each time. They
// only repeat after about 2 to the 31st of them, so that many different yards can be made.
func dice(seed int) func(n int) int {
	return func(n int) int {
		seed = seed * 48271 % (1<<31 - 1)
		return seed / 7 % n
	}
}

// mixedYard has a number of containers on stacks, and an order of some of them.
func mixedYard(next func(n int) int, stacks int, count int, retrieved int) (impl.Yard, []int) {
	y := impl.Yard{Stacks: make([][]int, stacks)}
	numbers := yardNumbers()
	for range min(count, 4*stacks) {
		i := next(stacks)
		for len(y.Stacks[i]) == 4 {
			i = (i + 1) % stacks
		}
		k := next(len(numbers))
		y.Stacks[i] = append(y.Stacks[i], numbers[k])
		numbers = slices.Delete(numbers, k, k+1)
	}
	standing, order := numbersOf(y), []int{}
	for range min(retrieved, len(standing)) {
		k := next(len(standing))
		order = append(order, standing[k])
		standing = slices.Delete(standing, k, k+1)
	}
	return y, order
}

func yardNumbers() []int {
	var list []int
	for n := 1; n <= 99; n++ {
		list = append(list, n)
	}
	return list
}

// invalidOrders has orders that are none for the yard "1 2 3,4 5 6,7 8 9,".
func invalidOrders() map[string][]int {
	all := map[string][]int{
		"a number twice":                     {1, 1},
		"a top twice":                        {3, 3},
		"a number twice with others between": {3, 6, 2, 3},
		"a number twice at the end":          {3, 2, 1, 6, 5, 5},
		"a number that is not in the yard":   {10},
		"a last number that is not there":    {3, 2, 1, 99},
		"a first number that is not there":   {50, 3, 2, 1},
		"nine numbers":                       {1, 2, 3, 4, 5, 6, 7, 8, 9},
		"nine numbers from above":            {9, 8, 7, 6, 5, 4, 3, 2, 1},
		"nine times a number":                slices.Repeat([]int{3}, 9),
		"eight numbers, one of them twice":   {9, 8, 7, 6, 5, 4, 3, 9},
		"many numbers":                       slices.Repeat([]int{3, 2, 1}, 1<<12),
	}
	for _, n := range []int{0, -1, -3, 100, 101, 1<<32 + 3, math.MaxInt, math.MinInt} {
		all[fmt.Sprint("only ", n)] = []int{n}
		all[fmt.Sprint("at the end ", n)] = []int{3, 2, n}
		all[fmt.Sprint("at the beginning ", n)] = []int{n, 3, 2}
	}
	return all
}

func wantRun(t *testing.T, y impl.Yard, list []impl.Step, want string, removed ...int) {
	t.Helper()
	if z, out, ok := impl.RunSteps(y, list); !ok || yardText(z) != want || !slices.Equal(out, removed) {
		t.Errorf("RunSteps of %s in %s = %s, %v, %v, want %s, %v", stepsText(list), yardText(y), yardText(z), out, ok, want, removed)
	}
}

func wantNoRun(t *testing.T, y impl.Yard, list []impl.Step) {
	t.Helper()
	if z, out, ok := impl.RunSteps(y, list); ok || len(out) != 0 || !isNoYard(z) {
		t.Errorf("RunSteps of %s in %s = %s, %v, %v", stepsText(list), yardText(y), yardText(z), out, ok)
	}
}

func wantPlan(t *testing.T, y impl.Yard, order []int, list []impl.Step, want bool) {
	t.Helper()
	if yes, ok := impl.IsPlan(y, order, list); !ok || yes != want {
		t.Errorf("IsPlan of %s for %v in %s = %v, %v, want %v", stepsText(list), order, yardText(y), yes, ok, want)
	}
}

func wantBound(t *testing.T, y impl.Yard, order []int, want int) {
	t.Helper()
	if n, ok := impl.RelocationBound(y, order); !ok || n != want {
		t.Errorf("RelocationBound for %v in %s = %d, %v, want %d", order, yardText(y), n, ok, want)
	}
}

func wantBest(t *testing.T, y impl.Yard, order []int, want string) {
	t.Helper()
	list, ok := impl.BestSteps(y, order)
	if !ok || stepsText(list) != want {
		t.Errorf("BestSteps for %v in %s = %s, %v, want %s", order, yardText(y), stepsText(list), ok, want)
	}
	if n, ok := impl.FewestRelocations(y, order); !ok || n != len(relocationsOf(stepsFrom(want))) {
		t.Errorf("FewestRelocations for %v in %s = %d, %v, want those of %s", order, yardText(y), n, ok, want)
	}
}

func wantNoBest(t *testing.T, y impl.Yard, order []int) {
	t.Helper()
	if list, ok := impl.BestSteps(y, order); ok || len(list) != 0 {
		t.Errorf("BestSteps for %v in %s = %s, %v", order, yardText(y), stepsText(list), ok)
	}
	if n, ok := impl.FewestRelocations(y, order); ok || n != 0 {
		t.Errorf("FewestRelocations for %v in %s = %d, %v", order, yardText(y), n, ok)
	}
}

func wantSimple(t *testing.T, y impl.Yard, order []int, want string) {
	t.Helper()
	if list, ok := impl.SimpleSteps(y, order); !ok || stepsText(list) != want {
		t.Errorf("SimpleSteps for %v in %s = %s, %v, want %s", order, yardText(y), stepsText(list), ok, want)
	}
}

func wantNoSimple(t *testing.T, y impl.Yard, order []int) {
	t.Helper()
	if list, ok := impl.SimpleSteps(y, order); ok || len(list) != 0 {
		t.Errorf("SimpleSteps for %v in %s = %s, %v", order, yardText(y), stepsText(list), ok)
	}
}

// wantNothing checks all functions that take an order.
func wantNothing(t *testing.T, y impl.Yard, order []int) {
	t.Helper()
	for _, s := range []string{"", "3", "3, 2, 1", "2 1, 1", "0", "77 3"} {
		if yes, ok := impl.IsPlan(y, order, stepsFrom(s)); ok || yes {
			t.Errorf("IsPlan of %s for %v in %s = %v, %v", s, order, yardText(y), yes, ok)
		}
	}
	if n, ok := impl.RelocationBound(y, order); ok || n != 0 {
		t.Errorf("RelocationBound for %v in %s = %d, %v", order, yardText(y), n, ok)
	}
	wantNoBest(t, y, order)
	wantNoSimple(t, y, order)
}

// wantOrdered checks what holds for all functions together, whatever the best plan is.
func wantOrdered(t *testing.T, y impl.Yard, order []int) {
	t.Helper()
	bound, fine := impl.RelocationBound(y, order)
	simple, simpleOk := impl.SimpleSteps(y, order)
	best, ok := impl.BestSteps(y, order)
	fewest, fewestOk := impl.FewestRelocations(y, order)
	if !fine || ok != fewestOk || simpleOk && !ok {
		t.Fatalf("bound %v, simple %v, best %v, fewest %v for %v in %s", fine, simpleOk, ok, fewestOk, order, yardText(y))
	}
	if simpleOk {
		wantPlan(t, y, order, simple, true)
	}
	if !ok {
		return
	}
	wantPlan(t, y, order, best, true)
	if n := impl.CountRelocations(best); n != fewest || n < bound || simpleOk && n > impl.CountRelocations(simple) {
		t.Errorf("%d relocations, fewest %d, bound %d, simple %s for %v in %s", n, fewest, bound, stepsText(simple), order, yardText(y))
	}
	if _, removed, ok := impl.RunSteps(y, best); !ok || !slices.Equal(removed, order) {
		t.Errorf("the best steps for %v in %s remove %v, %v", order, yardText(y), removed, ok)
	}
}

func TestLimitOfRetrieved(t *testing.T) {
	if impl.MaxRetrieved != 8 {
		t.Errorf("the limit is %d", impl.MaxRetrieved)
	}
}

func TestRunSteps(t *testing.T) {
	y := yardFrom("1 2,3,,4 5 6,7 8 9 10")
	wantRun(t, y, nil, "1 2,3,,4 5 6,7 8 9 10")
	wantRun(t, y, stepsFrom("2"), "1,3,,4 5 6,7 8 9 10", 2)
	wantRun(t, y, stepsFrom("2, 1"), ",3,,4 5 6,7 8 9 10", 2, 1)
	wantRun(t, y, stepsFrom("3, 10, 6, 2"), "1,,,4 5,7 8 9", 3, 10, 6, 2)
	wantRun(t, y, stepsFrom("2 1"), "1,3 2,,4 5 6,7 8 9 10")
	wantRun(t, y, stepsFrom("10 3, 9 2, 10"), "1 2,3,9,4 5 6,7 8", 10)
	wantRun(t, y, stepsFrom("10, 6 4, 5 2"), "1 2,3,5,4,7 8 9 6", 10)
	wantRun(t, y, stepsFrom("2 3, 2 0, 2 1"), "1,3 2,,4 5 6,7 8 9 10")
	wantRun(t, yardFrom(",1"), stepsFrom("1 0, 1 1, 1"), ",", 1)
	wantRun(t, yardFrom("99"), stepsFrom("99"), "", 99)
	wantRun(t, yardFrom("1 2 3 4,5 6 7 8"), stepsFrom("8, 4 1"), "1 2 3,5 6 7 4", 8)
	wantRun(t, impl.Yard{Stacks: make([][]int, 6)}, nil, ",,,,,")
}

func TestStepsThatCannotBeMade(t *testing.T) {
	y := yardFrom("1 2,3,,4 5 6,7 8 9 10")
	for _, s := range []string{
		"1", "4", "5", "7", "8", "9", "1 2", "5 2", "9 0", // no tops
		"0", "11", "99", "100", "-1", "-2", "0 1", "11 1", "-2 1", // not there
		"2 0", "3 1", "6 3", "10 4", // to their own stacks
		"2 4", "3 4", "6 4", // to a full one
		"2 5", "2 6", "2 -2", "2 -3", "2 -100", "2 9223372036854775807", "2 -9223372036854775808", // to none
		"2 4294967297", "2 -4294967297", "9223372036854775807", "-9223372036854775808",
	} {
		wantNoRun(t, y, stepsFrom(s))
		wantNoRun(t, y, stepsFrom(s+", 3"))
		wantNoRun(t, y, stepsFrom("3 2, 3 1, "+s))
		wantPlan(t, y, []int{3}, stepsFrom(s), false)
		wantPlan(t, y, []int{2}, stepsFrom(s+", 2"), false)
		wantPlan(t, y, []int{2}, stepsFrom("2, "+s), false)
	}
	for _, s := range []string{"3, 3", "2, 2", "3, 3 1", "2 1, 3", "10 3, 2 3", "2 1, 2 1", "2, 1, 1 0", "10, 9, 10"} {
		wantNoRun(t, y, stepsFrom(s))
		wantNoRun(t, y, stepsFrom("6, "+s+", 5"))
	}
	wantNoRun(t, yardFrom("1"), stepsFrom("1 0"))
	wantNoRun(t, yardFrom(","), stepsFrom("0"))
	wantNoRun(t, yardFrom(","), stepsFrom("0 1"))
}

func TestEveryStepInManyYards(t *testing.T) {
	for _, y := range sampleYards() {
		for _, n := range append(numbersOf(y), -1, 0, 77, 100) {
			for to := -3; to <= len(y.Stacks)+1; to++ {
				step := impl.Step{Box: n, To: to}
				z, ok := stepByHand(y, step)
				switch {
				case !ok:
					wantNoRun(t, y, []impl.Step{step})
				case to == -1:
					wantRun(t, y, []impl.Step{step}, yardText(z), n)
				default:
					wantRun(t, y, []impl.Step{step}, yardText(z))
				}
			}
		}
	}
}

// Steps that are made one after the other and the number of a step more that cannot be made.
func TestManyStepsInManyYards(t *testing.T) {
	next := dice(11)
	for stacks := 1; stacks <= 6; stacks++ {
		for range 200 {
			y, _ := mixedYard(next, stacks, 1+next(4*stacks), 0)
			list := []impl.Step{}
			for range 1 + next(60) {
				numbers := append(numbersOf(y), 0)
				step := impl.Step{Box: numbers[next(len(numbers))], To: next(stacks+2) - 1}
				if _, _, ok := runByHand(y, append(slices.Clone(list), step)); ok || next(40) == 0 {
					list = append(list, step)
				}
			}
			if z, removed, ok := runByHand(y, list); ok {
				wantRun(t, y, list, yardText(z), removed...)
			} else {
				wantNoRun(t, y, list)
			}
		}
	}
}

func TestAtMost60StepsAreMade(t *testing.T) {
	y := yardFrom("1,")
	for _, count := range []int{0, 1, 2, 58, 59, 60} {
		want := "1,"
		if count%2 == 1 {
			want = ",1"
		}
		wantRun(t, y, swings(count), want)
	}
	wantRun(t, y, append(swings(59), impl.Step{Box: 1, To: -1}), ",", 1)
	wantNoRun(t, y, append(swings(60), impl.Step{Box: 1, To: -1}))
	for _, count := range []int{61, 62, 63, 64, 120, 121, 256, 316, 1 << 12} {
		wantNoRun(t, y, swings(count))
	}
	wantNoRun(t, y, make([]impl.Step, 61))
	wantNoRun(t, y, append(swings(59), impl.Step{Box: 1, To: 1}))
}

func TestIsPlan(t *testing.T) {
	for _, c := range []struct {
		yard, order, steps string
		want               bool
	}{
		{"1 5,2 4,3", "1 2 3 4 5", "5 1, 1, 5 0, 4 0, 2, 3, 4, 5", true},
		{"1 5,2 4,3", "1 2 3 4 5", "5 2, 1, 4 0, 2, 5 1, 3, 4, 5", true},
		{"1 5,2 4,3", "1", "5 2, 1", true},
		{"1 5,2 4,3", "1", "5 1, 1", true},
		// No step, one too few, one too many.
		{"1 5,2 4,3", "", "", true},
		{"1 5,2 4,3", "1", "", false},
		{"1 5,2 4,3", "1", "5 2", false},
		{"1 5,2 4,3", "1 2", "5 2, 1", false},
		{"1 5,2 4,3", "1 2", "5 2, 1, 4 0", false},
		{"1 5,2 4,3", "", "3", false},
		{"1 5,2 4,3", "", "3 0", false},
		{"1 5,2 4,3", "5", "5, 4", false},
		{"1 5,2 4,3", "5", "5, 4 0", false},
		{"1 5,2 4,3", "5", "5, 1 2", false},
		{"1 5,2 4,3", "5 4", "5, 4, 3 0, 3 2", false},
		// The top of another stack, also when that helps.
		{"1 5,2 4,3", "1", "4 2, 5 2, 1", false},
		{"1 5,2 4,3", "1", "5 2, 4 2, 1", false},
		{"1 5,2 4,3", "1 2", "4 2, 5 2, 1, 2", false},
		{"1 5,2 4,3", "1 2", "5 2, 1, 5 0, 4 0, 2", false},
		{"1 5,2 4,3", "3 1", "5 2, 3, 1", false},
		{"1 5,2 4,3", "3", "3, 3", false},
		// Other orders, other numbers.
		{"1 5,2 4,3", "3 4", "4, 3", false},
		{"1 5,2 4,3", "4 3", "4, 3", true},
		{"1 5,2 4,3", "1", "5, 1", false},
		{"1 5,2 4,3", "5 1", "5, 1", true},
		{"1 5,2 4,3", "1", "5 2, 1, 5", false},
		{"1 5,2 4,3", "1 5", "5 2, 1, 5", true},
		{"1 5,2 4,3", "3", "4", false},
		// Steps that cannot be made.
		{"1 5,2 4,3", "1", "1", false},
		{"1 5,2 4,3", "1", "5 0, 1", false},
		{"1 5,2 4,3", "1", "5 3, 1", false},
		{"1 5,2 4,3", "1", "5 -2, 1", false},
		{"1 5,2 4,3", "1", "1 2, 1", false},
		{"1 5 6,2,", "1", "5 2, 6 2, 1", false},
		{"1 5,2 4 6 7,3", "1", "5 1, 1", false},
		{"1 2", "1", "2 0, 1", false},
		// The next number may be the top that is relocated.
		{"1,", "1", "1 1, 1", true},
		{"1,", "1", "1 1, 1 0, 1 1, 1", true},
		{"1 5,2 4,3", "3", "3 0, 3", true},
		{"1 5,2 4,3", "1 3", "5 1, 1 2, 1, 3 0, 3", true},
		{"1 5,2 4,3", "3 5", "3 0, 5, 3", false},
		// A relocated number goes back to where it came from.
		{"1 5,2 4,3", "1", "5 2, 1 1, 1", true},
		{"1 5,2 4,3", "1 2", "5 1, 1, 5 0, 4 2, 2", true},
	} {
		wantPlan(t, yardFrom(c.yard), orderFrom(c.order), stepsFrom(c.steps), c.want)
	}
}

func TestPlansOf60StepsAndMore(t *testing.T) {
	y, one := yardFrom("1,"), impl.Step{Box: 1, To: -1}
	wantPlan(t, y, []int{1}, append(swings(59), one), true)
	wantPlan(t, y, []int{1}, swings(59), false)
	wantPlan(t, y, []int{1}, swings(60), false)
	wantPlan(t, y, []int{1}, swings(61), false)
	wantPlan(t, y, nil, swings(61), false)
	wantPlan(t, y, []int{1}, make([]impl.Step, 61), false)
	// The limit of 60 is one of RunSteps; a plan has none.
	wantPlan(t, y, []int{1}, append(swings(60), one), true)
	wantPlan(t, y, []int{1}, append(swings(1<<12), one), true)
	wantPlan(t, y, []int{1}, append(swings(1<<12), one, one), false)
}

// Every list of at most 4 steps, whether it can be made or not.
func TestIsPlanOfAllShortLists(t *testing.T) {
	for _, s := range []string{"1 2,", "1,2", "2 1,3", "1 2 3,"} {
		y := yardFrom(s)
		lists := [][]impl.Step{{}}
		for from := 0; len(lists[from]) < 4; from++ {
			for n := 1; n <= len(numbersOf(y)); n++ {
				for to := -2; to <= 2; to++ {
					lists = append(lists, append(slices.Clone(lists[from]), impl.Step{Box: n, To: to}))
				}
			}
		}
		for _, order := range ordersOf(y, 3) {
			best, shortest := 5, false
			for _, list := range lists {
				want := isPlanByRule(y, order, list)
				if yes, ok := impl.IsPlan(y, order, list); !ok || yes != want {
					t.Fatalf("IsPlan of %s for %v in %s = %v, %v", stepsText(list), order, s, yes, ok)
				}
				if want && len(relocationsOf(list)) < best {
					best, shortest = len(relocationsOf(list)), true
				}
			}
			if n, ok := impl.FewestRelocations(y, order); ok && n+len(order) <= 4 != shortest || shortest && n != best {
				t.Errorf("FewestRelocations for %v in %s = %d, %v, want %d", order, s, n, ok, best)
			}
		}
	}
}

func TestRelocationBound(t *testing.T) {
	for _, c := range []struct {
		yard, order string
		want        int
	}{
		{"1 5,2 4,3", "1 2 3 4 5", 2},
		{"1 5,2 4,3", "1", 1},
		{"1 5,2 4,3", "3", 0},
		{"1 5,2 4,3", "", 0},
		{"1 5,2 4,3", "5 1", 0},
		{"1 5,2 4,3", "1 5", 1},
		{"1 5,2 4,3", "5 4 3 2 1", 0},
		{"3 2 1", "1 2 3", 0},
		{"3 2 1", "3 2 1", 2},
		{"3 2 1", "2", 1},
		{"3 2 1", "3", 2},
		{"3 2 1", "1", 0},
		{"3 2 1", "1 3", 1},
		{"3 2 1", "2 3", 1},
		{"1 2 3 4", "1", 3},
		{"1 2 3 4", "2 1", 2},
		{"1 2 3 4", "4 1", 2},
		{"1 2 3 4", "3 1", 2},
		{"1 2 3 4", "3 4 1 2", 2},
		{"1 2 3 4", "2 3", 2},
		{"1 2 3 4", "3", 1},
		{"50 1,60 2", "50 60", 2},
		{"50 1,60 2", "60", 1},
		{"9 8 7 1,2 9 9 9", "", -1},
		{"9 8 7 1,2 6 5 4", "1 2", 3},
		{"9 8 7 1,2 6 5 4", "7 2", 4},
		{"9 8 7 1,2 6 5 4", "7 2 6", 4},
		{"9 8 7 1,2 6 5 4", "6", 2},
		{"", "", 0},
		{"7 8 9", "", 0},
		// The bound is given also where there is no plan.
		{"1 2", "1", 1},
		{"1 2 3 4", "1 2 3 4", 3},
	} {
		if c.want < 0 {
			wantNothing(t, yardFrom(c.yard), orderFrom(c.order))
			continue
		}
		wantBound(t, yardFrom(c.yard), orderFrom(c.order), c.want)
	}
	wantBound(t, yardFrom("1 21 22 23,2 31 32 33,3 41 42 43,4 51 52 53,5 61 62 63,6 71 72 73"), orderFrom("1 2 3 4 5 6"), 18)
	wantBound(t, fullYard(6), nil, 0)
}

func TestRelocationBoundOfManyYards(t *testing.T) {
	for _, y := range smallYards() {
		for _, order := range ordersOf(y, 3) {
			wantBound(t, y, order, boundByPairs(y, order))
		}
	}
	next := dice(3)
	for range 3000 {
		stacks := 1 + next(6)
		y, order := mixedYard(next, stacks, next(4*stacks+1), next(9))
		wantBound(t, y, order, boundByPairs(y, order))
	}
}

func TestBestSteps(t *testing.T) {
	for _, c := range []struct{ yard, order, want string }{
		{"1 5,2 4,3", "1 2 3 4 5", "5 1, 1, 5 0, 4 0, 2, 3, 4, 5"},
		{"1 5,2 4,3", "", ""},
		{"1 5,2 4,3", "5", "5"},
		{"1 5,2 4,3", "5 1", "5, 1"},
		{"1 2", "2 1", "2, 1"},
		{"4 3 2 1", "1 2 3 4", "1, 2, 3, 4"},
		{"", "", ""},
		{"8 7 6 5,4 3 2 1", "1 2 3 4 5 6 7 8", "1, 2, 3, 4, 5, 6, 7, 8"},
		// One relocation of two equally good ones, before, between and behind.
		{"1 5,,", "1", "5 1, 1"},
		{",1 5,", "1", "5 0, 1"},
		{",,1 5", "1", "5 0, 1"},
		{",3,1 5,,", "1", "5 0, 1"},
		{"3,,1 5,,", "1", "5 0, 1"},
		{"1 5,2,3,4", "1", "5 1, 1"},
		{"1 5,2,3,4", "1 2", "5 2, 1, 2"},
		{"1 5,2,3,4", "1 2 3", "5 3, 1, 2, 3"},
		{"1 5,2,3,4", "1 2 3 4", "5 1, 1, 5 0, 2, 3, 4"},
		{"1 5 6,2,3", "1", "6 1, 5 1, 1"},
		{"1 5 6 7,2,3", "1", "7 1, 6 1, 5 1, 1"},
		{"1 5 6 7,2 3,4", "1", "7 1, 6 1, 5 2, 1"},
		// Full stacks have no place.
		{"1 5,6 7 8 9,", "1", "5 2, 1"},
		{"1 5,6 7 8 9,2 3 4", "1", "5 2, 1"},
		{"1 5 6,7 8 9,2 3 4", "1", "6 1, 5 2, 1"},
		{"1 2,3 4 5 6", "6 1", "6, 2 1, 1"},
		{"1 2 3,4 5 6 7", "7 6 1", "7, 6, 3 1, 2 1, 1"},
		// The number that leaves last is put below, or where nothing is below.
		{"1 2 3,,9", "1 2 3", "3 1, 2 1, 1, 2, 3"},
		{"1 3 2,,9", "1 2 3", "2 1, 3 2, 1, 2, 3"},
		{"1,2,3 4", "3 1 4 2", "4 1, 3, 1, 4, 2"},
		{"1,2,3 4 5 6", "3 2", "6 0, 5 0, 4 0, 3, 2"},
		{"1,2,3 4 5", "4 1 3 2", "5 1, 4, 1, 3, 5 0, 2"},
	} {
		wantBest(t, yardFrom(c.yard), orderFrom(c.order), c.want)
	}
}

// Numbers that are not in the order are in the way of those that are, but never wait for another.
func TestBestStepsWithNumbersThatAreNotInTheOrder(t *testing.T) {
	for _, c := range []struct{ yard, order, want string }{
		{"9 1,", "1", "1"},
		{"9 8 7 1", "1", "1"},
		{"1 9,", "1", "9 1, 1"},
		{"50 1,", "50", "1 1, 50"},
		{"1 9,2,", "1 2", "9 2, 1, 2"},
		{"1 9,8 2,7", "1 2", "9 2, 1, 2"},
		{"1 9,8,2", "1 2", "9 1, 1, 2"},
		{"1 2,9,", "1 2", "2 1, 1, 2"},
		{"1 9 8,7,", "1", "8 1, 9 1, 1"},
		{"1 9 8 7,6 5,4", "1", "7 1, 8 1, 9 2, 1"},
		{"1 9,2 8,3 7", "1 2 3", "9 1, 1, 9 0, 8 0, 2, 7 0, 3"},
		{"9 1 8,7 2 6,5", "1 2", "8 2, 1, 6 0, 2"},
		{"9 1 8,7 2 6,5", "2 1", "6 2, 2, 8 1, 1"},
		{"9 1 8,7 2 6,5", "9", "8 1, 1 2, 9"},
		{"3 2 1 4,5", "1 2 3", "4 1, 1, 2, 3"},
		{"3 2 1 4,5", "3", "4 1, 1 1, 2 1, 3"},
		{"3 2 1 4,5,", "3 5", "4 2, 1 2, 2 2, 3, 5"},
	} {
		wantBest(t, yardFrom(c.yard), orderFrom(c.order), c.want)
	}
}

func TestOrdersWithoutAPlan(t *testing.T) {
	for _, c := range []struct{ yard, order string }{
		{"1 2", "1"},
		{"1 2", "1 2"},
		{"1 2 3 4", "3"},
		{"1 2 3 4", "4 2"},
		{"1 2,3 4 5 6", "1"},
		{"1 2,3 4 5 6", "1 2"},
		{"1 2 3 4,5 6 7", "1"},
		{"1 2 3 4,5 6 7", "2 1"},
		{"1 2 3 4,5 6", "1"},
		{"1 2 3,4 5 6 7", "7 1"},
		{"1 2 3 4,5 6 7,8 9 10 11", "2"},
		{"1 2,3 4 5 6,7 8 9 10,11 12 13 14", "1"},
		{"1 2,3 4 5 6,7 8 9 10,11 12 13 14", "3 6"},
	} {
		y, order := yardFrom(c.yard), orderFrom(c.order)
		wantNoBest(t, y, order)
		wantNoSimple(t, y, order)
		wantBound(t, y, order, boundByPairs(y, order))
		wantPlan(t, y, order, nil, false)
	}
	y := fullYard(6)
	for _, stack := range y.Stacks {
		wantBest(t, y, stack[3:], fmt.Sprint(stack[3]))
		wantNoBest(t, y, stack[:1])
		wantNoBest(t, y, stack[2:3])
	}
}

func TestBestStepsAgainstAllPlansOfSmallYards(t *testing.T) {
	for _, y := range smallYards() {
		for _, order := range ordersOf(y, 3) {
			wantBestOfAll(t, y, order, 4)
		}
	}
	for count := 4; count <= 5; count++ {
		for _, y := range append(yardsWith(2, count), yardsWith(3, 4)...) {
			for _, order := range [][]int{{1}, {1, 2}, {2, 4}, {3, 1, 2}, {1, 2, 3, 4}} {
				wantBestOfAll(t, y, order, 6)
			}
		}
	}
	next := dice(41)
	for range 400 {
		y, order := mixedYard(next, 3, 3+next(5), 1+next(4))
		wantBestOfAll(t, y, order, 5)
	}
	for range 600 {
		y, order := mixedYard(next, 2, 1+next(8), next(5))
		wantBestOfAll(t, y, order, 8)
	}
}

// wantBestOfAll tries all plans with at most a number of relocations; if there is none of them,
// there may be one with more.
func wantBestOfAll(t *testing.T, y impl.Yard, order []int, most int) {
	t.Helper()
	want, plans, found := bestByTrying(y, order, most)
	if found {
		wantBest(t, y, order, stepsText(want))
	} else if n, ok := impl.FewestRelocations(y, order); ok && n <= most {
		t.Errorf("FewestRelocations for %v in %s = %d", order, yardText(y), n)
	}
	for _, list := range plans {
		wantPlan(t, y, order, list, true)
	}
	wantOrdered(t, y, order)
}

func TestBestStepsAgainstAllYardsThatCanBeReached(t *testing.T) {
	next := dice(101)
	check := func(stacks int, count int, retrieved int) {
		y, order := mixedYard(next, stacks, count, retrieved)
		if want, ok := bestByLevels(y, order); ok {
			wantBest(t, y, order, stepsText(want))
		} else {
			wantNoBest(t, y, order)
		}
		wantOrdered(t, y, order)
	}
	for range 1500 {
		check(2, 2+next(7), 1+next(8))
		check(3, 4+next(9), 1+next(8))
	}
	for range 300 {
		check(4, 6+next(6), 2+next(7))
		check(5, 6+next(5), 2+next(5))
		check(6, 8+next(4), 1+next(4))
		check(4, 13+next(4), 4+next(5))
		check(5, 18+next(3), 3+next(3))
		check(6, 22+next(3), 3+next(3))
	}
}

// The yards of the limits for which there is most to search; bestByLevels yields the same plans,
// but takes about a minute.
func TestBestStepsOfGreatYards(t *testing.T) {
	for _, c := range []struct{ yard, order, want string }{
		{
			"17 77 2 7,4,49 39 20 6,95,82 38 51 32,1 3 5", "39 38 17 4 49 95 82 20",
			"6 1, 20 3, 39, 32 1, 51 1, 38, 7 2, 2 2, 77 5, 17, 51 0, 32 0, 6 0, 4, 2 0, 7 1, 49, 20 1, 95, 82, 20",
		},
		{
			"59 41 88 40,87,63 27 85 5,93 51 84 57,55 94 50 98,12 4 38 3", "4 87 12 41 55 59 93 63",
			"3 1, 38 1, 4, 38 5, 3 5, 87, 3 1, 38 1, 12, 40 1, 88 1, 41, 98 5, 50 5, 94 5, 55, 59, 57 0, 84 0, 51 0, 93, 5 0, 85 3, 27 3, 63",
		},
		{
			"1 11 12,2 13 14,3 15 16,4 17 18,5 19 20,6 21 22", "1 2 3 4 5 6",
			"12 1, 11 2, 1, 12 0, 14 0, 13 0, 2, 11 0, 16 1, 15 1, 3, 18 1, 17 1, 4, 20 2, 19 2, 5, 22 2, 21 2, 6",
		},
		{
			"8 7 6 5,4 3 2 1,,,,", "8 7 6 5 4 3 2 1",
			"5 2, 6 2, 7 2, 8, 7, 6, 5, 1 0, 2 0, 3 0, 4, 3, 2, 1",
		},
	} {
		wantBest(t, yardFrom(c.yard), orderFrom(c.order), c.want)
		wantOrdered(t, yardFrom(c.yard), orderFrom(c.order))
	}
	next := dice(77)
	for range 3000 {
		y, order := mixedYard(next, 6, 8+next(17), 8)
		wantOrdered(t, y, order)
	}
}

// Other names for the numbers, and for those that are not in the order in any way, change
// nothing but the names.
func TestBestStepsWithOtherNumbers(t *testing.T) {
	next := dice(19)
	for range 500 {
		y, order := mixedYard(next, 2+next(5), 4+next(6), 1+next(5))
		list, ok := impl.BestSteps(y, order)
		numbers := numbersOf(y)
		for range 3 {
			names := map[int]int{}
			unused := yardNumbers()
			for _, n := range numbers {
				k := next(len(unused))
				names[n] = unused[k]
				unused = slices.Delete(unused, k, k+1)
			}
			z, renamed, want := copyOfYard(y), []int{}, []impl.Step{}
			for _, stack := range z.Stacks {
				for i, n := range stack {
					stack[i] = names[n]
				}
			}
			for _, n := range order {
				renamed = append(renamed, names[n])
			}
			for _, step := range list {
				want = append(want, impl.Step{Box: names[step.Box], To: step.To})
			}
			if ok {
				wantBest(t, z, renamed, stepsText(want))
			} else {
				wantNoBest(t, z, renamed)
			}
		}
	}
}

func TestSimpleSteps(t *testing.T) {
	for _, c := range []struct{ yard, order, want string }{
		{"1 5,2 4,3", "1", "5 2, 1"},
		{"1 5,2 4,3", "", ""},
		{"1 5,2 4,3", "5 1", "5, 1"},
		{"1 5,2 4,3", "1 2", "5 2, 1, 4 0, 2"},
		{"1 2", "2 1", "2, 1"},
		// The lowest other stack, the first one on ties, whatever stands in it.
		{"1 5,,", "1", "5 1, 1"},
		{",1 5,", "1", "5 0, 1"},
		{"3,1 5,", "1", "5 2, 1"},
		{"3,1 5,4", "1", "5 0, 1"},
		{"3 6,1 5,4", "1", "5 2, 1"},
		{"3 6,4,1 5,7", "1", "5 1, 1"},
		{"1 5 6,,", "1", "6 1, 5 2, 1"},
		{"1 5 6 7,,", "1", "7 1, 6 2, 5 1, 1"},
		{"1 5 6 7,2 3,4", "1", "7 2, 6 1, 5 2, 1"},
		{"1 5 6,2 3 4,7 8 9", "1", "6 1, 5 2, 1"},
		{"1 5,6 7 8 9,2 3 4", "1", "5 2, 1"},
		// Its own stack is not another one, though it is lower.
		{"1 5,2 3 4,6 7 8", "1", "5 1, 1"},
		{"1 5,2 3 4 6,7 8 9", "1", "5 2, 1"},
		// More relocations than the best steps have.
		{"1,2,3 4", "3 1 4 2", "4 0, 3, 4 2, 1, 4, 2"},
		{"1,2,3 4 5 6", "3 2", "6 0, 5 1, 4 0, 3, 5 2, 2"},
		{"1 2 3,,9", "1 2 3", "3 1, 2 1, 1, 2, 3"},
		{"1 2,3,9", "1 3 2", "2 1, 1, 2 0, 3, 2"},
		{"1 9,2,", "1 2", "9 2, 1, 2"},
		{"1 9,2,8 7", "1 2", "9 1, 1, 9 0, 2"},
	} {
		wantSimple(t, yardFrom(c.yard), orderFrom(c.order), c.want)
	}
}

func TestSimpleStepsOfManyYards(t *testing.T) {
	check := func(y impl.Yard, order []int) {
		if want, ok := simpleByHand(y, order); ok {
			wantSimple(t, y, order, stepsText(want))
		} else {
			wantNoSimple(t, y, order)
		}
	}
	for _, y := range smallYards() {
		for _, order := range ordersOf(y, 3) {
			check(y, order)
		}
	}
	next := dice(23)
	for range 5000 {
		stacks := 1 + next(6)
		check(mixedYard(next, stacks, next(4*stacks+1), next(9)))
	}
}

// While at most two places are free, no plan has a choice that another relocation depends on;
// with three free places no other stacks can all be full. So there are no yards of four tiers
// for which SimpleSteps fails though there is a plan.
func TestSimpleStepsFailOnlyWithoutAPlan(t *testing.T) {
	next := dice(29)
	failed := 0
	for range 6000 {
		stacks := 1 + next(6)
		y, order := mixedYard(next, stacks, 4*stacks-next(4), 1+next(8))
		_, simple := impl.SimpleSteps(y, order)
		if _, best := impl.BestSteps(y, order); simple != best {
			t.Errorf("SimpleSteps %v, BestSteps %v for %v in %s", simple, best, order, yardText(y))
		}
		if !simple {
			failed++
		}
	}
	if failed < 1000 {
		t.Errorf("only %d yards have no plan", failed)
	}
}

func TestCountRelocations(t *testing.T) {
	for s, want := range map[string]int{
		"": 0, "5": 0, "5 1": 1, "5 0": 1, "5 1, 1": 1, "5 1, 4 2, 1, 2, 3 0": 3, "1, 2, 3": 0,
		// The steps need not be possible.
		"5 -2": 1, "5 -1": 0, "0 0": 1, "0": 0, "-1 7, 100": 1, "1 1, 1 1, 1 1": 3, "5 -9223372036854775808, 5 9223372036854775807": 2,
	} {
		if n := impl.CountRelocations(stepsFrom(s)); n != want {
			t.Errorf("CountRelocations of %q = %d, want %d", s, n, want)
		}
	}
	for _, count := range []int{0, 1, 60, 61, 1 << 16} {
		if n := impl.CountRelocations(swings(count)); n != count {
			t.Errorf("CountRelocations of %d relocations = %d", count, n)
		}
		if n := impl.CountRelocations(slices.Repeat([]impl.Step{{Box: 1, To: -1}}, count)); n != 0 {
			t.Errorf("CountRelocations of %d removals = %d", count, n)
		}
	}
	if n := impl.CountRelocations(nil); n != 0 {
		t.Errorf("CountRelocations of nil = %d", n)
	}
}

func TestOrdersOfAllLengths(t *testing.T) {
	y := yardFrom("12 11 10,9 8 7,6 5 4,3 2 1,,")
	for count := range 13 {
		order := yardNumbers()[:count]
		if count > 8 {
			wantNothing(t, y, order)
			continue
		}
		var want []string
		for _, n := range order {
			want = append(want, strconv.Itoa(n))
		}
		wantBest(t, y, order, strings.Join(want, ", "))
		wantSimple(t, y, order, strings.Join(want, ", "))
		wantPlan(t, y, order, stepsFrom(strings.Join(want, ",")), true)
		wantBound(t, y, order, 0)
	}
	wantOrdered(t, y, orderFrom("12 9 6 3 11 8 5 2"))
	wantBest(t, y, nil, "")
	wantBound(t, yardFrom("1 2"), nil, 0)
	wantSimple(t, fullYard(6), nil, "")
	wantBest(t, fullYard(6), nil, "")
}

func TestInvalidOrdersYieldNothing(t *testing.T) {
	for _, order := range invalidOrders() {
		wantNothing(t, yardFrom("1 2 3,4 5 6,7 8 9,"), order)
	}
	for _, y := range sampleYards() {
		standing := numbersOf(y)
		for _, n := range numbersAround() {
			if !slices.Contains(standing, n) {
				wantNothing(t, y, []int{n})
			}
		}
		for _, n := range standing {
			wantNothing(t, y, []int{n, n})
		}
	}
	// A number that is removed on the way has stood in the yard, but only once.
	wantNothing(t, yardFrom("1,2"), orderFrom("1 2 1"))
}

func TestInvalidYardsYieldNoRetrieval(t *testing.T) {
	for _, y := range invalidYards() {
		for _, order := range [][]int{nil, {}, {1}, {5}, {3}, {1, 2}, {0}, {2, 100}} {
			wantNothing(t, y, order)
		}
		for _, s := range []string{"", "1", "5", "5 1", "3, 2, 1", "0", "100", "4 0"} {
			wantNoRun(t, y, stepsFrom(s))
		}
	}
	// They would become valid on the way.
	wantNoRun(t, yardFrom("1 2 3 4 5,"), stepsFrom("5"))
	wantNoRun(t, yardFrom("1 2 3 4 5,"), stepsFrom("5 1"))
	wantNoRun(t, yardFrom("1 2,1"), stepsFrom("1"))
	wantNoRun(t, yardFrom("1 100"), stepsFrom("100"))
	wantNothing(t, yardFrom("1 2 3 4 5,"), []int{5})
	wantNothing(t, yardFrom("1 2,1"), []int{1})
	wantNothing(t, yardFrom("1,2,3,4,5,6,"), []int{1})
}

// retrievalAnswers has what every function of chapter 6 says about a yard and an order.
func retrievalAnswers(y impl.Yard, order []int, lists [][]impl.Step) []string {
	var all []string
	add := func(parts ...any) { all = append(all, fmt.Sprintln(parts...)) }
	for _, list := range lists {
		z, removed, ok := impl.RunSteps(y, list)
		add("run", yardText(z), removed, ok)
		yes, ok := impl.IsPlan(y, order, list)
		add("plan", yes, ok)
		add("count", impl.CountRelocations(list))
	}
	bound, ok := impl.RelocationBound(y, order)
	add("bound", bound, ok)
	fewest, ok := impl.FewestRelocations(y, order)
	add("fewest", fewest, ok)
	best, ok := impl.BestSteps(y, order)
	add("best", stepsText(best), ok)
	simple, ok := impl.SimpleSteps(y, order)
	add("simple", stepsText(simple), ok)
	return all
}

// listsToAsk has lists of steps that can be made, among them plans, and ones that cannot.
func listsToAsk(y impl.Yard, order []int) [][]impl.Step {
	best, _ := impl.BestSteps(y, order)
	simple, _ := impl.SimpleSteps(y, order)
	lists := [][]impl.Step{nil, best, simple, best[:len(best)/2], append(slices.Clone(best), impl.Step{Box: 1, To: 0})}
	for _, stack := range y.Stacks {
		if len(stack) > 0 {
			top := stack[len(stack)-1]
			lists = append(lists, []impl.Step{{Box: top, To: 0}}, []impl.Step{{Box: top, To: len(y.Stacks) - 1}, {Box: top, To: -1}})
		}
	}
	return lists
}

// retrievalSamples has yards with orders up to the limits.
func retrievalSamples() ([]impl.Yard, [][]int) {
	next := dice(53)
	var yards []impl.Yard
	var orders [][]int
	for i := range 150 {
		stacks := 1 + i%6
		y, order := mixedYard(next, stacks, next(4*stacks+1), next(9))
		yards, orders = append(yards, y), append(orders, order)
	}
	return yards, orders
}

// withRoom puts a list into an array with something behind it.
func withRoom[T any](list []T, filler T) ([]T, []T) {
	array := append(slices.Clone(list), filler, filler, filler)
	return array[:len(list)], array
}

// Arguments in arrays with something behind them are answered like separate ones, and none of
// them is changed.
func TestRetrievalLeavesItsArgumentsAlone(t *testing.T) {
	yards, orders := retrievalSamples()
	for i, y := range yards {
		lists := listsToAsk(y, orders[i])
		want := retrievalAnswers(y, orders[i], lists)
		order, orderArray := withRoom(orders[i], 88)
		var packedLists, listArrays [][]impl.Step
		for _, list := range lists {
			part, array := withRoom(list, impl.Step{Box: 88, To: -1})
			packedLists, listArrays = append(packedLists, part), append(listArrays, array)
		}
		for _, p := range packedYards(y) {
			array, rows := slices.Clone(p.array), slices.Clone(p.rows)
			if got := retrievalAnswers(p.yard, order, packedLists); !slices.Equal(got, want) {
				t.Errorf("the answers about %v in %s in the array %v are others", order, yardText(y), array)
			}
			if !slices.Equal(p.array, array) || !slices.EqualFunc(p.rows, rows, sameMemory) {
				t.Fatalf("the yard %s is changed", yardText(y))
			}
		}
		if !slices.Equal(orderArray, append(slices.Clone(orders[i]), 88, 88, 88)) {
			t.Errorf("the order %v is changed to %v", orders[i], orderArray)
		}
		for k, array := range listArrays {
			if _, want := withRoom(lists[k], impl.Step{Box: 88, To: -1}); !slices.Equal(array, want) {
				t.Errorf("the list %v is changed to %v", lists[k], array)
			}
		}
	}
}

// The order may be a part of the yard itself.
func TestOrdersInTheMemoryOfTheYard(t *testing.T) {
	array := []int{1, 2, 3, 4, 5, 6, 7}
	y := impl.Yard{Stacks: [][]int{array[:3], array[3:5], array[5:7], array[:0]}}
	wantBest(t, y, array[:3], "3 1, 2 1, 1, 2, 3")
	wantBest(t, y, array[3:5], "5 0, 4, 5")
	wantSimple(t, y, array[:3], "3 3, 2 3, 1, 2, 3")
	wantBound(t, y, array, 4)
	wantPlan(t, y, array[:1], stepsFrom("3 3, 2 3, 1"), true)
	if !slices.Equal(array, []int{1, 2, 3, 4, 5, 6, 7}) {
		t.Errorf("the array is changed to %v", array)
	}
}

func TestResultsOfRetrievalAreNew(t *testing.T) {
	yards, orders := retrievalSamples()
	for i, y := range yards {
		for _, p := range packedYards(y) {
			numbers, rows := [][]int{p.array, orders[i]}, [][][]int{p.rows}
			steps := slices.Clone(listsToAsk(p.yard, orders[i]))
			for range 2 {
				for _, list := range steps[:5] {
					z, removed, _ := impl.RunSteps(p.yard, list)
					numbers = append(append(numbers, removed), z.Stacks...)
					rows = append(rows, z.Stacks)
				}
			}
			best, _ := impl.BestSteps(p.yard, orders[i])
			again, _ := impl.BestSteps(p.yard, orders[i])
			simple, _ := impl.SimpleSteps(p.yard, orders[i])
			if sharesElement(numbers...) || sharesElement(rows...) || sharesElement(best, again, simple, steps[1], steps[2]) {
				t.Fatalf("results for %v in %s share memory", orders[i], yardText(y))
			}
		}
	}
}

func TestResultsOfRetrievalStayWhenArgumentsChange(t *testing.T) {
	y, order := yardFrom("1 5,2 4,3"), orderFrom("1 2 3 4 5")
	best, _ := impl.BestSteps(y, order)
	simple, _ := impl.SimpleSteps(y, order[:1])
	list := stepsFrom("5 2, 1")
	z, removed, _ := impl.RunSteps(y, list)
	same, _, _ := impl.RunSteps(y, nil)
	spoil(order)
	clear(list)
	for _, stack := range y.Stacks {
		spoil(stack)
	}
	clear(y.Stacks)
	if stepsText(best) != "5 1, 1, 5 0, 4 0, 2, 3, 4, 5" || stepsText(simple) != "5 2, 1" {
		t.Errorf("a change of the arguments changes the steps to %s and %s", stepsText(best), stepsText(simple))
	}
	if yardText(z) != ",2 4,3 5" || !slices.Equal(removed, []int{1}) || yardText(same) != "1 5,2 4,3" {
		t.Errorf("a change of the arguments changes the yards to %s and %s, the numbers to %v", yardText(z), yardText(same), removed)
	}
}
