package tests

import (
	"fmt"
	"math"
	"slices"
	"strconv"
	"strings"
	"testing"

	"loop.example/g00906/impl"
)

// yardFrom reads a yard with commas between its stacks: "1 2,,3" has an empty stack in the middle.
func yardFrom(s string) impl.Yard {
	var y impl.Yard
	for _, part := range strings.Split(s, ",") {
		stack := []int{}
		for _, word := range strings.Fields(part) {
			n, err := strconv.Atoi(word)
			if err != nil {
				panic("no yard: " + s)
			}
			stack = append(stack, n)
		}
		y.Stacks = append(y.Stacks, stack)
	}
	return y
}

// yardText is the inverse of yardFrom; it does not tell nil from empty stacks.
func yardText(y impl.Yard) string {
	if len(y.Stacks) == 0 {
		return "no stack"
	}
	var parts []string
	for _, stack := range y.Stacks {
		parts = append(parts, strings.Trim(fmt.Sprint(stack), "[]"))
	}
	return strings.Join(parts, ",")
}

func copyOfYard(y impl.Yard) impl.Yard {
	var z impl.Yard
	for _, stack := range y.Stacks {
		z.Stacks = append(z.Stacks, slices.Clone(stack))
	}
	return z
}

// yardOfHeights has the numbers from 1 to 99 in steps of 37.
func yardOfHeights(heights ...int) impl.Yard {
	var y impl.Yard
	n := 1
	for _, height := range heights {
		stack := []int{}
		for range height {
			stack = append(stack, n)
			n = (n+36)%99 + 1
		}
		y.Stacks = append(y.Stacks, stack)
	}
	return y
}

func fullYard(stacks int) impl.Yard {
	return yardOfHeights(slices.Repeat([]int{4}, stacks)...)
}

// yardsWith returns all yards of some stacks with the numbers 1 to count.
func yardsWith(stacks int, count int) []impl.Yard {
	if count == 0 {
		return []impl.Yard{{Stacks: make([][]int, stacks)}}
	}
	var all []impl.Yard
	for _, y := range yardsWith(stacks, count-1) {
		for i, stack := range y.Stacks {
			for tier := 0; tier <= len(stack) && len(stack) < 4; tier++ {
				z := copyOfYard(y)
				z.Stacks[i] = slices.Insert(z.Stacks[i], tier, count)
				all = append(all, z)
			}
		}
	}
	return all
}

// smallYards returns all yards of up to 3 stacks with the numbers 1 to 3, or fewer of them.
func smallYards() []impl.Yard {
	var all []impl.Yard
	for stacks := 1; stacks <= 3; stacks++ {
		for count := range 4 {
			all = append(all, yardsWith(stacks, count)...)
		}
	}
	return all
}

// sampleYards has the small yards and greater ones up to the limits.
func sampleYards() []impl.Yard {
	all := smallYards()
	all = append(all, yardsWith(1, 4)...)
	for stacks := 1; stacks <= 6; stacks++ {
		all = append(all, fullYard(stacks))
		for pattern := range 12 {
			var heights []int
			for i := range stacks {
				heights = append(heights, (pattern+i*(pattern/4+1))%5)
			}
			all = append(all, yardOfHeights(heights...))
		}
	}
	return append(all, yardFrom("99,1"), yardFrom("1 99 50 98"), yardFrom(",,99 98 97 96,,,1 2 3 4"))
}

// numbersOf returns the numbers in a yard, stack after stack.
func numbersOf(y impl.Yard) []int { return slices.Concat(y.Stacks...) }

// numbersAround has every number that may stand in a yard, and ones beyond them.
func numbersAround() []int {
	list := []int{math.MinInt, -1 << 32, 1<<32 + 1, math.MaxInt}
	for n := -101; n <= 201; n++ {
		list = append(list, n)
	}
	return list
}

// noStacks has indices of stacks that a yard of some stacks does not have.
func noStacks(stacks int) []int {
	return []int{-1, -stacks, stacks, stacks + 1, 7, 1 << 32, -1 << 32, math.MaxInt, math.MinInt}
}

func invalidYards() map[string]impl.Yard {
	all := map[string]impl.Yard{
		"no stack":                        {},
		"an empty list of stacks":         {Stacks: [][]int{}},
		"seven empty stacks":              yardFrom(",,,,,,"),
		"seven stacks":                    yardFrom("1,2,3,4,5,6,7"),
		"one number in the seventh stack": yardFrom(",,,,,,7"),
		"many stacks":                     {Stacks: make([][]int, 1<<16)},
		"a stack of five":                 yardFrom("1 2 3 4 5"),
		"a last stack of five":            yardFrom("1,,2 3 4 5 6"),
		"a long stack":                    {Stacks: [][]int{make([]int, 1<<16)}},
		"a number twice in a stack":       yardFrom("5 5"),
		"a lowest number that is the top": yardFrom("5 6 7 5"),
		"a number twice in two stacks":    yardFrom("5,5"),
		"a number below and above":        yardFrom("1 2 5,,3 5 4"),
		"a number in all stacks":          yardFrom("5,5,5,5,5,5"),
		"zeros":                           yardFrom("0 0"),
	}
	for _, n := range []int{0, -1, 100, 101, 256, -99, math.MaxInt, math.MinInt, 1<<32 + 1} {
		all[fmt.Sprint("the number ", n)] = impl.Yard{Stacks: [][]int{{n}}}
		all[fmt.Sprint("below others the number ", n)] = impl.Yard{Stacks: [][]int{{1, 2}, {n, 3}, {4}}}
		all[fmt.Sprint("as a top the number ", n)] = impl.Yard{Stacks: [][]int{{1, 2}, {4}, {3, 5, n}}}
	}
	return all
}

func isNoYard(y impl.Yard) bool { return len(y.Stacks) == 0 }

func wantNoPut(t *testing.T, y impl.Yard, stack int, n int) {
	t.Helper()
	if z, ok := impl.PutBox(y, stack, n); ok || !isNoYard(z) {
		t.Errorf("PutBox of %d on stack %d of %s = %s, %v", n, stack, yardText(y), yardText(z), ok)
	}
}

func wantNoTake(t *testing.T, y impl.Yard, n int) {
	t.Helper()
	if z, ok := impl.TakeBox(y, n); ok || !isNoYard(z) {
		t.Errorf("TakeBox of %d from %s = %s, %v", n, yardText(y), yardText(z), ok)
	}
}

func wantNoMove(t *testing.T, y impl.Yard, from int, to int) {
	t.Helper()
	if z, n, ok := impl.MoveTop(y, from, to); ok || n != 0 || !isNoYard(z) {
		t.Errorf("MoveTop from %d to %d of %s = %s, %d, %v", from, to, yardText(y), yardText(z), n, ok)
	}
}

func wantNoTop(t *testing.T, y impl.Yard, stack int) {
	t.Helper()
	if n, ok := impl.TopOf(y, stack); ok || n != 0 {
		t.Errorf("TopOf stack %d of %s = %d, %v", stack, yardText(y), n, ok)
	}
}

func wantNoPlace(t *testing.T, y impl.Yard, n int) {
	t.Helper()
	if stack, tier, ok := impl.PlaceOf(y, n); ok || stack != 0 || tier != 0 {
		t.Errorf("PlaceOf %d in %s = %d, %d, %v", n, yardText(y), stack, tier, ok)
	}
	if list, ok := impl.BlockersOf(y, n); ok || len(list) != 0 {
		t.Errorf("BlockersOf %d in %s = %v, %v", n, yardText(y), list, ok)
	}
}

func wantPut(t *testing.T, y impl.Yard, stack int, n int, want string) {
	t.Helper()
	if z, ok := impl.PutBox(y, stack, n); !ok || yardText(z) != want {
		t.Errorf("PutBox of %d on stack %d of %s = %s, %v, want %s", n, stack, yardText(y), yardText(z), ok, want)
	}
}

func wantTake(t *testing.T, y impl.Yard, n int, want string) {
	t.Helper()
	if z, ok := impl.TakeBox(y, n); !ok || yardText(z) != want {
		t.Errorf("TakeBox of %d from %s = %s, %v, want %s", n, yardText(y), yardText(z), ok, want)
	}
}

func wantMove(t *testing.T, y impl.Yard, from int, to int, n int, want string) {
	t.Helper()
	if z, top, ok := impl.MoveTop(y, from, to); !ok || top != n || yardText(z) != want {
		t.Errorf("MoveTop from %d to %d of %s = %s, %d, %v, want %s, %d", from, to, yardText(y), yardText(z), top, ok, want, n)
	}
}

func wantTop(t *testing.T, y impl.Yard, stack int, want int) {
	t.Helper()
	if n, ok := impl.TopOf(y, stack); !ok || n != want {
		t.Errorf("TopOf stack %d of %s = %d, %v, want %d", stack, yardText(y), n, ok, want)
	}
}

func wantPlace(t *testing.T, y impl.Yard, n int, stack int, tier int) {
	t.Helper()
	if s, k, ok := impl.PlaceOf(y, n); !ok || s != stack || k != tier {
		t.Errorf("PlaceOf %d in %s = %d, %d, %v, want %d, %d", n, yardText(y), s, k, ok, stack, tier)
	}
}

func wantBlockers(t *testing.T, y impl.Yard, n int, want ...int) {
	t.Helper()
	if list, ok := impl.BlockersOf(y, n); !ok || !slices.Equal(list, want) {
		t.Errorf("BlockersOf %d in %s = %v, %v, want %v", n, yardText(y), list, ok, want)
	}
}

func wantSame(t *testing.T, a impl.Yard, b impl.Yard, want bool) {
	t.Helper()
	if same, ok := impl.SameYard(a, b); !ok || same != want {
		t.Errorf("SameYard of %s and %s = %v, %v, want %v", yardText(a), yardText(b), same, ok, want)
	}
}

func wantNoSame(t *testing.T, a impl.Yard, b impl.Yard) {
	t.Helper()
	if same, ok := impl.SameYard(a, b); ok || same {
		t.Errorf("SameYard of %s and %s = %v, %v", yardText(a), yardText(b), same, ok)
	}
}

func TestLimitsOfYards(t *testing.T) {
	if impl.MaxStacks != 6 || impl.MaxTiers != 4 {
		t.Errorf("the limits are %d and %d", impl.MaxStacks, impl.MaxTiers)
	}
}

func TestValidYards(t *testing.T) {
	for _, y := range append(sampleYards(), impl.Yard{Stacks: make([][]int, 1)}, impl.Yard{Stacks: make([][]int, 6)}) {
		if !impl.IsValidYard(y) {
			t.Errorf("%s is not valid", yardText(y))
		}
	}
	for _, s := range []string{"", ",", ",,,,,", "1", "99", "1 99", "1 2 3 4", "4 3 2 1", "1,2,3,4,5,6"} {
		if !impl.IsValidYard(yardFrom(s)) {
			t.Errorf("%q is not valid", s)
		}
	}
}

func TestInvalidYards(t *testing.T) {
	for name, y := range invalidYards() {
		if impl.IsValidYard(y) {
			t.Errorf("a yard with %s is valid", name)
		}
	}
}

func TestYardsOfAllNumbersOfStacks(t *testing.T) {
	for stacks := range 20 {
		if got, want := impl.IsValidYard(impl.Yard{Stacks: make([][]int, stacks)}), 1 <= stacks && stacks <= 6; got != want {
			t.Errorf("IsValidYard of %d stacks = %v", stacks, got)
		}
	}
}

func TestStacksOfAllHeightsAtAllPlaces(t *testing.T) {
	for stacks := 1; stacks <= 6; stacks++ {
		for i := range stacks {
			for height := range 20 {
				heights := slices.Repeat([]int{2}, stacks)
				heights[i] = height
				if got, want := impl.IsValidYard(yardOfHeights(heights...)), height <= 4; got != want {
					t.Errorf("IsValidYard with the heights %v = %v", heights, got)
				}
			}
		}
	}
}

func TestYardsWithEveryNumberAtEveryPlace(t *testing.T) {
	for stacks := 1; stacks <= 6; stacks++ {
		for i := range stacks {
			for tier := range 4 {
				for _, n := range numbersAround() {
					y := fullYard(stacks)
					y.Stacks[i][tier] = 0
					want := 1 <= n && n <= 99 && !slices.Contains(numbersOf(y), n)
					y.Stacks[i][tier] = n
					if got := impl.IsValidYard(y); got != want {
						t.Fatalf("IsValidYard of %s = %v", yardText(y), got)
					}
				}
			}
		}
	}
}

func TestInvalidYardsYieldNothing(t *testing.T) {
	valid := yardFrom("1 2,3")
	for _, y := range invalidYards() {
		for _, n := range []int{-1, 0, 1, 2, 3, 5, 50, 99, 100, math.MaxInt} {
			for _, stack := range []int{-1, 0, 1, 2, 5, 6, 7} {
				wantNoPut(t, y, stack, n)
			}
			wantNoTake(t, y, n)
			wantNoPlace(t, y, n)
		}
		for stack := -1; stack <= 7; stack++ {
			wantNoTop(t, y, stack)
			for to := -1; to <= 7; to++ {
				wantNoMove(t, y, stack, to)
			}
		}
		if n, ok := impl.FreePlaces(y); ok || n != 0 {
			t.Errorf("FreePlaces of %s = %d, %v", yardText(y), n, ok)
		}
		if list, ok := impl.StackHeights(y); ok || len(list) != 0 {
			t.Errorf("StackHeights of %s = %v, %v", yardText(y), list, ok)
		}
		wantNoSame(t, y, valid)
		wantNoSame(t, valid, y)
		wantNoSame(t, y, y)
		wantNoSame(t, y, copyOfYard(y))
	}
}

// A stack of five is taken down to four by the functions that remove a number.
func TestInvalidYardsThatWouldBecomeValid(t *testing.T) {
	wantNoTake(t, yardFrom("1 2 3 4 5"), 5)
	wantNoMove(t, yardFrom("1 2 3 4 5,"), 0, 1)
	wantNoTake(t, yardFrom("1 2 1"), 1)
	wantNoTake(t, yardFrom("1,1"), 1)
	wantNoTake(t, yardFrom("1 100"), 100)
	wantNoTake(t, yardFrom("1 0"), 0)
	wantNoPut(t, yardFrom("1 2 3 4 5,"), 1, 6)
	wantNoTop(t, yardFrom("1,2 2"), 0)
	wantNoPlace(t, yardFrom("1,2 2"), 1)
}

func TestStacksThatThereAreNot(t *testing.T) {
	for _, y := range sampleYards() {
		for _, stack := range noStacks(len(y.Stacks)) {
			wantNoTop(t, y, stack)
			wantNoPut(t, y, stack, 77)
			for other := range y.Stacks {
				wantNoMove(t, y, stack, other)
				wantNoMove(t, y, other, stack)
			}
			for _, other := range noStacks(len(y.Stacks)) {
				wantNoMove(t, y, stack, other)
			}
		}
	}
}

func TestNumbersThatStandNowhere(t *testing.T) {
	for _, y := range sampleYards() {
		standing := numbersOf(y)
		for _, n := range numbersAround() {
			if !slices.Contains(standing, n) {
				wantNoTake(t, y, n)
				wantNoPlace(t, y, n)
			}
		}
	}
}

func TestPutBox(t *testing.T) {
	y := yardFrom("1 2,3,,4 5 6,7 8 9 10")
	wantPut(t, y, 0, 20, "1 2 20,3,,4 5 6,7 8 9 10")
	wantPut(t, y, 1, 99, "1 2,3 99,,4 5 6,7 8 9 10")
	wantPut(t, y, 2, 20, "1 2,3,20,4 5 6,7 8 9 10")
	wantPut(t, y, 3, 20, "1 2,3,,4 5 6 20,7 8 9 10")
	wantPut(t, yardFrom(""), 0, 1, "1")
	wantPut(t, yardFrom("99 2 3"), 0, 1, "99 2 3 1")
	wantPut(t, yardFrom(",,,,,"), 5, 99, ",,,,,99")
	wantPut(t, impl.Yard{Stacks: make([][]int, 2)}, 1, 5, ",5")
	wantNoPut(t, y, 4, 20)
	wantNoPut(t, y, 5, 20)
	wantNoPut(t, y, -1, 20)
	for _, n := range []int{-1, 0, 100, math.MaxInt, math.MinInt} {
		wantNoPut(t, y, 0, n)
	}
	for n := 1; n <= 10; n++ {
		for stack := range 5 {
			wantNoPut(t, y, stack, n)
		}
	}
}

// putOn appends to a copy, as an oracle; it tells whether the number can be put.
func putOn(y impl.Yard, stack int, n int) (string, bool) {
	if n < 1 || n > 99 || len(y.Stacks[stack]) == 4 || slices.Contains(numbersOf(y), n) {
		return "", false
	}
	z := copyOfYard(y)
	z.Stacks[stack] = append(z.Stacks[stack], n)
	return yardText(z), true
}

func TestPutBoxOfEveryNumberOnEveryStack(t *testing.T) {
	for _, y := range sampleYards() {
		for stack := range y.Stacks {
			for _, n := range numbersAround() {
				if want, can := putOn(y, stack, n); can {
					wantPut(t, y, stack, n, want)
				} else {
					wantNoPut(t, y, stack, n)
				}
			}
		}
	}
}

func TestAPutNumberIsTheTopAndCanBeTakenAgain(t *testing.T) {
	for _, y := range sampleYards() {
		for stack, boxes := range y.Stacks {
			for n := 1; n <= 99; n++ {
				z, ok := impl.PutBox(y, stack, n)
				if !ok {
					continue
				}
				if !impl.IsValidYard(z) {
					t.Fatalf("PutBox of %d on stack %d of %s is no yard: %s", n, stack, yardText(y), yardText(z))
				}
				wantTop(t, z, stack, n)
				wantPlace(t, z, n, stack, len(boxes))
				wantBlockers(t, z, n)
				wantTake(t, z, n, yardText(y))
			}
		}
	}
}

func TestTakeBox(t *testing.T) {
	y := yardFrom("1 2,3,,4 5 6,7 8 9 10")
	wantTake(t, y, 2, "1,3,,4 5 6,7 8 9 10")
	wantTake(t, y, 3, "1 2,,,4 5 6,7 8 9 10")
	wantTake(t, y, 6, "1 2,3,,4 5,7 8 9 10")
	wantTake(t, y, 10, "1 2,3,,4 5 6,7 8 9")
	wantTake(t, yardFrom("9"), 9, "")
	wantTake(t, yardFrom(",,,,,1"), 1, ",,,,,")
	wantTake(t, yardFrom("99 1"), 1, "99")
	for _, n := range []int{1, 4, 5, 7, 8, 9} {
		wantNoTake(t, y, n)
	}
	for _, n := range []int{0, 11, 99, 100, -1, math.MaxInt, math.MinInt} {
		wantNoTake(t, y, n)
	}
	wantNoTake(t, yardFrom(""), 0)
	wantNoTake(t, yardFrom(""), 1)
}

func TestOnlyTopsCanBeTaken(t *testing.T) {
	for _, y := range sampleYards() {
		for i, stack := range y.Stacks {
			for tier, n := range stack {
				if tier < len(stack)-1 {
					wantNoTake(t, y, n)
					continue
				}
				z := copyOfYard(y)
				z.Stacks[i] = slices.Clone(stack[:tier])
				wantTake(t, y, n, yardText(z))
				wantPut(t, z, i, n, yardText(y))
			}
		}
	}
}

func TestMoveTop(t *testing.T) {
	y := yardFrom("1 2,3,,4 5 6,7 8 9 10")
	wantMove(t, y, 0, 1, 2, "1,3 2,,4 5 6,7 8 9 10")
	wantMove(t, y, 1, 0, 3, "1 2 3,,,4 5 6,7 8 9 10")
	wantMove(t, y, 1, 2, 3, "1 2,,3,4 5 6,7 8 9 10")
	wantMove(t, y, 4, 3, 10, "1 2,3,,4 5 6 10,7 8 9")
	wantMove(t, y, 3, 0, 6, "1 2 6,3,,4 5,7 8 9 10")
	wantMove(t, yardFrom("99,"), 0, 1, 99, ",99")
	wantMove(t, yardFrom("1,,,,,2 3 4"), 0, 5, 1, ",,,,,2 3 4 1")
	for stack := range 5 {
		wantNoMove(t, y, stack, stack)
		wantNoMove(t, y, 2, stack)
		wantNoMove(t, y, stack, 4)
		wantNoMove(t, y, stack, 5)
		wantNoMove(t, y, stack, -1)
	}
	wantNoMove(t, yardFrom("1 2"), 0, 0)
	wantNoMove(t, yardFrom("1 2"), 0, 1)
	wantNoMove(t, yardFrom(","), 0, 1)
	wantNoMove(t, fullYard(6), 0, 1)
	wantNoMove(t, fullYard(6), 3, 3)
}

func TestMoveTopBetweenAllStacks(t *testing.T) {
	for _, y := range sampleYards() {
		for from, lower := range y.Stacks {
			for to, upper := range y.Stacks {
				if from == to || len(lower) == 0 || len(upper) == 4 {
					wantNoMove(t, y, from, to)
					continue
				}
				n := lower[len(lower)-1]
				z := copyOfYard(y)
				z.Stacks[from] = slices.Clone(lower[:len(lower)-1])
				z.Stacks[to] = append(z.Stacks[to], n)
				wantMove(t, y, from, to, n, yardText(z))
				wantMove(t, z, to, from, n, yardText(y))
			}
		}
	}
}

func TestTopOf(t *testing.T) {
	y := yardFrom("1 2,99,,6 5 4,7 8 10 9")
	for stack, want := range []int{2, 99, 0, 4, 9} {
		wantTop(t, y, stack, want)
	}
	wantTop(t, impl.Yard{Stacks: make([][]int, 6)}, 5, 0)
	wantNoTop(t, y, -1)
	wantNoTop(t, y, 5)
	for _, y := range sampleYards() {
		for i, stack := range y.Stacks {
			wantTop(t, y, i, append([]int{0}, stack...)[len(stack)])
		}
	}
}

func TestPlaceOf(t *testing.T) {
	y := yardFrom("1 2,99,,6 5 4,7 8 10 9")
	wantPlace(t, y, 1, 0, 0)
	wantPlace(t, y, 2, 0, 1)
	wantPlace(t, y, 99, 1, 0)
	wantPlace(t, y, 6, 3, 0)
	wantPlace(t, y, 4, 3, 2)
	wantPlace(t, y, 9, 4, 3)
	wantPlace(t, yardFrom(",,,,,4 3 2 1"), 1, 5, 3)
	wantNoPlace(t, y, 3)
	wantNoPlace(t, y, 0)
	wantNoPlace(t, yardFrom(""), 0)
	for _, y := range sampleYards() {
		for i, stack := range y.Stacks {
			for tier, n := range stack {
				wantPlace(t, y, n, i, tier)
			}
		}
	}
}

func TestBlockersOf(t *testing.T) {
	y := yardFrom("1 2,99,,6 5 4,7 8 10 9")
	wantBlockers(t, y, 1, 2)
	wantBlockers(t, y, 2)
	wantBlockers(t, y, 99)
	wantBlockers(t, y, 6, 4, 5)
	wantBlockers(t, y, 5, 4)
	wantBlockers(t, y, 4)
	wantBlockers(t, y, 7, 9, 10, 8)
	wantBlockers(t, y, 8, 9, 10)
	wantBlockers(t, y, 9)
	wantNoPlace(t, y, 11)
}

// The blockers can be taken in their order, and then the number itself.
func TestBlockersOfEveryNumberCanBeTaken(t *testing.T) {
	for _, y := range sampleYards() {
		for _, stack := range y.Stacks {
			for tier, n := range stack {
				want := slices.Clone(stack[tier+1:])
				slices.Reverse(want)
				wantBlockers(t, y, n, want...)
				z, ok := y, true
				for _, top := range append(want, n) {
					if z, ok = impl.TakeBox(z, top); !ok {
						t.Fatalf("%d cannot be taken on the way to %d of %s", top, n, yardText(y))
					}
				}
			}
		}
	}
}

func TestFreePlacesAndStackHeights(t *testing.T) {
	for _, c := range []struct {
		yard    string
		free    int
		heights []int
	}{
		{"", 4, []int{0}},
		{",,,,,", 24, []int{0, 0, 0, 0, 0, 0}},
		{"1 2 3 4", 0, []int{4}},
		{"7,,", 11, []int{1, 0, 0}},
		{"1 2,99,,6 5 4,7 8 10 9", 10, []int{2, 1, 0, 3, 4}},
		{yardText(fullYard(6)), 0, []int{4, 4, 4, 4, 4, 4}},
		{yardText(fullYard(5)) + ",9", 3, []int{4, 4, 4, 4, 4, 1}},
	} {
		if n, ok := impl.FreePlaces(yardFrom(c.yard)); !ok || n != c.free {
			t.Errorf("FreePlaces of %q = %d, %v, want %d", c.yard, n, ok, c.free)
		}
		if list, ok := impl.StackHeights(yardFrom(c.yard)); !ok || !slices.Equal(list, c.heights) {
			t.Errorf("StackHeights of %q = %v, %v, want %v", c.yard, list, ok, c.heights)
		}
	}
	for _, y := range sampleYards() {
		var want []int
		for _, stack := range y.Stacks {
			want = append(want, len(stack))
		}
		if list, ok := impl.StackHeights(y); !ok || !slices.Equal(list, want) {
			t.Errorf("StackHeights of %s = %v, %v, want %v", yardText(y), list, ok, want)
		}
	}
}

func TestAsManyNumbersAsFreePlacesCanBePut(t *testing.T) {
	for _, y := range sampleYards() {
		count := 0
		z := y
		for n := 1; n <= 99; n++ {
			for stack := range y.Stacks {
				if next, ok := impl.PutBox(z, stack, n); ok {
					z = next
					count++
				}
			}
		}
		if free, ok := impl.FreePlaces(y); !ok || free != count {
			t.Errorf("FreePlaces of %s = %d, %v, but %d can be put", yardText(y), free, ok, count)
		}
		if free, ok := impl.FreePlaces(z); !ok || free != 0 {
			t.Errorf("FreePlaces of %s = %d, %v", yardText(z), free, ok)
		}
	}
}

func TestSameYard(t *testing.T) {
	for _, c := range []struct {
		a, b string
		want bool
	}{
		{"1 2,3,", "1 2,3,", true},
		{"1 2,3,", ",3,1 2", true},
		{"1 2,3,", ",1 2,3", true},
		{"", "", true},
		{",,,,,", ",,,,,", true},
		{"1,,", ",,1", true},
		{"1 2,3", "1 2,3,", false},
		{"1,2", "1,2,,,,", false},
		{"1,2,", "1,2,3", false},
		{"1,,", "1,2,", false},
		{"", ",", false},
		{"1 2,3", "2 1,3", false},
		{"1 2 3 4", "4 3 2 1", false},
		{"1 2,3", "1,2 3", false},
		{"1 2,3", "1 3,2", false},
		{"1 2", "1,2", false},
		{"1 2", "12", false},
		{"1 2", "1", false},
		{"1", "1 2", false},
		{"1,12", "11,2", false},
		{"1", "2", false},
		{"1", "", false},
		{"1 2 3 4,5 6 7 8", "5 6 7 8,1 2 3 4", true},
		{"1 2 3 4,5 6 7 8", "5 6 7 8,1 2 3 9", false},
	} {
		wantSame(t, yardFrom(c.a), yardFrom(c.b), c.want)
		wantSame(t, yardFrom(c.b), yardFrom(c.a), c.want)
	}
	wantSame(t, impl.Yard{Stacks: [][]int{nil, {1}}}, impl.Yard{Stacks: [][]int{{1}, {}}}, true)
}

// samePairs takes each stack of a away from those of b, as an oracle.
func samePairs(a impl.Yard, b impl.Yard) bool {
	left := slices.Clone(b.Stacks)
	for _, stack := range a.Stacks {
		i := slices.IndexFunc(left, func(other []int) bool { return slices.Equal(stack, other) })
		if i < 0 {
			return false
		}
		left = slices.Delete(left, i, i+1)
	}
	return len(left) == 0
}

func TestSameYardOfAllPairsOfSmallYards(t *testing.T) {
	all := smallYards()
	for _, a := range all {
		for _, b := range all {
			wantSame(t, a, b, samePairs(a, b))
		}
	}
}

func TestSameYardOfTurnedAndChangedYards(t *testing.T) {
	for _, y := range sampleYards() {
		for i := range y.Stacks {
			z := impl.Yard{Stacks: slices.Concat(y.Stacks[i:], y.Stacks[:i])}
			wantSame(t, y, z, true)
			slices.Reverse(z.Stacks)
			wantSame(t, z, y, true)
			for k, stack := range z.Stacks {
				changed := copyOfYard(z)
				slices.Reverse(changed.Stacks[k])
				wantSame(t, y, changed, len(stack) < 2)
			}
			if moved, _, ok := impl.MoveTop(z, 0, len(z.Stacks)-1); ok {
				wantSame(t, y, moved, samePairs(y, moved))
			}
		}
		if len(y.Stacks) < 6 {
			wantSame(t, y, impl.Yard{Stacks: append(slices.Clone(y.Stacks), nil)}, false)
		}
	}
}

// packedYard is a yard whose stacks are parts of one array and whose list of stacks is the
// beginning of a longer one.
type packedYard struct {
	yard  impl.Yard
	rows  [][]int
	array []int
}

// packYard puts the stacks into the array in an order, with a gap behind each of them and room
// behind the last one, all of it full of one number.
func packYard(y impl.Yard, order []int, gap int, filler int) packedYard {
	p := packedYard{
		rows:  make([][]int, len(y.Stacks), len(y.Stacks)+3),
		array: slices.Repeat([]int{filler}, len(numbersOf(y))+gap*len(order)+5),
	}
	start := 0
	for _, i := range order {
		end := start + copy(p.array[start:], y.Stacks[i])
		p.rows[i] = p.array[start:end]
		start = end + gap
	}
	p.rows = append(p.rows, []int{filler}, p.array)
	p.yard.Stacks = p.rows[:len(y.Stacks)]
	return p
}

// packedYards packs a yard in several ways.
func packedYards(y impl.Yard) []packedYard {
	var upwards, turned []int
	for i := range y.Stacks {
		upwards = append(upwards, i)
		turned = append(turned, (i+2)%len(y.Stacks))
	}
	downwards := slices.Clone(upwards)
	slices.Reverse(downwards)
	var all []packedYard
	for _, order := range [][]int{upwards, downwards, turned} {
		for gap := range 2 {
			for _, filler := range []int{-7, 0, 1, 88} {
				all = append(all, packYard(y, order, gap, filler))
			}
		}
	}
	return all
}

// sameMemory reports whether a and b are the same part of the same array.
func sameMemory(a []int, b []int) bool {
	return len(a) == len(b) && cap(a) == cap(b) && (cap(a) == 0 || &a[:1][0] == &b[:1][0])
}

// sharesElement reports whether two of the lists share an element, those beyond their lengths
// included.
func sharesElement[T any](lists ...[]T) bool {
	met := map[*T]bool{}
	for _, list := range lists {
		whole := list[:cap(list)]
		for i := range whole {
			if met[&whole[i]] {
				return true
			}
			met[&whole[i]] = true
		}
	}
	return false
}

// numbersToAsk has numbers of the yard, at most 30 of them, and others.
func numbersToAsk(y impl.Yard) []int {
	list := append([]int{-7, 0, 1, 50, 88, 99, 100}, numbersOf(y)...)
	slices.Sort(list)
	list = slices.Compact(list)
	return list[:min(len(list), 37)]
}

// answersAbout has what every function of chapter 5 says about a yard.
func answersAbout(y impl.Yard) []string {
	var all []string
	add := func(parts ...any) { all = append(all, fmt.Sprintln(parts...)) }
	for _, n := range numbersToAsk(y) {
		for stack := -1; stack <= min(len(y.Stacks), 7); stack++ {
			z, ok := impl.PutBox(y, stack, n)
			add("put", stack, n, yardText(z), ok)
		}
		z, ok := impl.TakeBox(y, n)
		add("take", n, yardText(z), ok)
		stack, tier, ok := impl.PlaceOf(y, n)
		add("place", n, stack, tier, ok)
		list, ok := impl.BlockersOf(y, n)
		add("blockers", n, list, ok)
	}
	for from := -1; from <= min(len(y.Stacks), 7); from++ {
		for to := -1; to <= min(len(y.Stacks), 7); to++ {
			z, n, ok := impl.MoveTop(y, from, to)
			add("move", from, to, yardText(z), n, ok)
		}
		n, ok := impl.TopOf(y, from)
		add("top", from, n, ok)
	}
	add("valid", impl.IsValidYard(y))
	free, ok := impl.FreePlaces(y)
	add("free", free, ok)
	heights, ok := impl.StackHeights(y)
	add("heights", heights, ok)
	return append(all, answersAboutSame(y)...)
}

// answersAboutSame compares a yard with ones that share its stacks.
func answersAboutSame(y impl.Yard) []string {
	var all []string
	reversed := slices.Clone(y.Stacks)
	slices.Reverse(reversed)
	for _, stacks := range [][][]int{y.Stacks, reversed, reversed[:len(reversed)/2], append(reversed, nil)} {
		z := impl.Yard{Stacks: stacks}
		same, ok := impl.SameYard(y, z)
		again, fine := impl.SameYard(z, y)
		all = append(all, fmt.Sprintln("same", same, ok, again, fine))
	}
	return all
}

// newMemory calls every function of chapter 5 that returns slices and returns all of them, the
// stacks and lists of numbers apart from the lists of stacks.
func newMemory(y impl.Yard) ([][]int, [][][]int) {
	var lists [][]int
	var rows [][][]int
	keep := func(z impl.Yard) {
		lists = append(lists, z.Stacks...)
		rows = append(rows, z.Stacks)
	}
	for stack := range y.Stacks {
		z, _ := impl.PutBox(y, stack, 77)
		keep(z)
		for to := range y.Stacks {
			z, _, _ := impl.MoveTop(y, stack, to)
			keep(z)
		}
	}
	for _, n := range numbersOf(y) {
		z, _ := impl.TakeBox(y, n)
		keep(z)
		blockers, _ := impl.BlockersOf(y, n)
		lists = append(lists, blockers)
	}
	heights, _ := impl.StackHeights(y)
	return append(lists, heights), rows
}

func TestPutBoxOnStacksOfOneArray(t *testing.T) {
	array := []int{1, 2, 3, 4, 5, 6, 7}
	y := impl.Yard{Stacks: [][]int{array[:2], array[2:2], array[2:3], array[3:5]}}
	wantPut(t, y, 0, 9, "1 2 9,,3,4 5")
	wantPut(t, y, 1, 9, "1 2,9,3,4 5")
	wantPut(t, y, 2, 9, "1 2,,3 9,4 5")
	wantPut(t, y, 3, 9, "1 2,,3,4 5 9")
	wantPut(t, y, 3, 6, "1 2,,3,4 5 6")
	wantMove(t, y, 0, 2, 2, "1,,3 2,4 5")
	wantMove(t, y, 2, 0, 3, "1 2 3,,,4 5")
	wantMove(t, y, 3, 1, 5, "1 2,5,3,4")
	wantTake(t, y, 2, "1,,3,4 5")
	wantTop(t, y, 1, 0)
	wantBlockers(t, y, 1, 2)
	wantNoTake(t, y, 6)
	wantNoPlace(t, y, 6)
	if !slices.Equal(array, []int{1, 2, 3, 4, 5, 6, 7}) {
		t.Errorf("the array is changed to %v", array)
	}
}

// One array and one list of stacks with room behind them are answered like separate ones, and
// neither of them is changed.
func TestStacksOfOneArrayAreAnsweredLikeSeparateOnes(t *testing.T) {
	for _, y := range sampleYards() {
		want := answersAbout(y)
		for _, p := range packedYards(y) {
			array, rows := slices.Clone(p.array), slices.Clone(p.rows)
			if got := answersAbout(p.yard); !slices.Equal(got, want) {
				t.Errorf("the answers about %s in the array %v are others", yardText(y), array)
			}
			if !slices.Equal(p.array, array) {
				t.Fatalf("the array %v of %s is changed to %v", array, yardText(y), p.array)
			}
			if !slices.EqualFunc(p.rows, rows, sameMemory) {
				t.Fatalf("the list of stacks of %s is changed", yardText(y))
			}
		}
	}
}

// The same memory may be a stack of both yards.
func TestSameYardOfYardsInOneArray(t *testing.T) {
	array := []int{1, 2, 3, 4, 5}
	y := impl.Yard{Stacks: [][]int{array[3:5], array[:1], array[1:3]}}
	wantSame(t, y, impl.Yard{Stacks: [][]int{array[:1], array[1:3], array[3:5]}}, true)
	wantSame(t, y, impl.Yard{Stacks: [][]int{array[:2], array[2:3], array[3:5]}}, false)
	wantSame(t, y, impl.Yard{Stacks: [][]int{array[:1], array[1:3], array[3:4]}}, false)
	wantSame(t, y, impl.Yard{Stacks: y.Stacks[:2]}, false)
	wantNoSame(t, y, impl.Yard{Stacks: [][]int{array[:2], array[1:3], array[3:5]}})
	if !slices.Equal(array, []int{1, 2, 3, 4, 5}) || yardText(y) != "4 5,1,2 3" {
		t.Errorf("the yard is changed to %s", yardText(y))
	}
}

func TestYardsAreLeftAlone(t *testing.T) {
	all := invalidYards()
	for _, y := range sampleYards() {
		all[yardText(y)] = y
	}
	for name, y := range all {
		before, rows := copyOfYard(y), slices.Clone(y.Stacks)
		answersAbout(y)
		if yardText(y) != yardText(before) || !slices.EqualFunc(y.Stacks, rows, sameMemory) {
			t.Errorf("%s: the yard is changed", name)
		}
	}
}

func TestResultsAboutYardsAreNew(t *testing.T) {
	for _, y := range sampleYards() {
		lists, rows := newMemory(y)
		again, rowsAgain := newMemory(y)
		if sharesElement(slices.Concat(lists, again, y.Stacks)...) {
			t.Errorf("results for %s share numbers", yardText(y))
		}
		if sharesElement(append(slices.Concat(rows, rowsAgain), y.Stacks)...) {
			t.Errorf("results for %s share lists of stacks", yardText(y))
		}
		for _, p := range packedYards(y) {
			lists, rows := newMemory(p.yard)
			if sharesElement(append(lists, p.array)...) || sharesElement(append(rows, p.rows)...) {
				t.Errorf("results for %s share memory with one array", yardText(y))
			}
		}
	}
}

func TestResultsStayWhenTheYardChanges(t *testing.T) {
	for _, y := range sampleYards() {
		for _, p := range packedYards(y) {
			lists, _ := newMemory(p.yard)
			want := copyOfYard(impl.Yard{Stacks: lists})
			spoil(p.array)
			clear(p.rows)
			if !slices.EqualFunc(lists, want.Stacks, slices.Equal[[]int]) {
				t.Fatalf("a change of %s changes a result", yardText(y))
			}
		}
	}
}

// Each yard is made of the one before it, and none of them changes afterwards.
func TestYardsStayWhenOthersAreMadeOfThem(t *testing.T) {
	next := dice(7)
	for stacks := 1; stacks <= 6; stacks++ {
		y := packYard(fullYard(stacks), []int{0, 1, 2, 3, 4, 5}[:stacks], 0, 88).yard
		history, texts := []impl.Yard{y}, []string{yardText(y)}
		for range 1000 {
			z, ok := impl.PutBox(y, next(stacks), next(99)+1)
			switch next(3) {
			case 0:
				top, _ := impl.TopOf(y, next(stacks))
				z, ok = impl.TakeBox(y, top)
			case 1:
				// A yard of one stack has no other stack to move to.
				if stacks > 1 {
					z, _, ok = impl.MoveTop(y, next(stacks), next(stacks))
				}
			}
			if !ok {
				continue
			}
			y = z
			history, texts = append(history, y), append(texts, yardText(y))
		}
		for i, earlier := range history {
			if !impl.IsValidYard(earlier) || yardText(earlier) != texts[i] {
				t.Fatalf("yard %d is now %s, not %s", i, yardText(earlier), texts[i])
			}
		}
	}
}
