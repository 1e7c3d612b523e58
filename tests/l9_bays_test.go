package tests

import (
	"fmt"
	"math"
	"regexp"
	"slices"
	"strings"
	"testing"

	"loop.example/g00906/impl"
)

// bayFrom reads the rows of a bay like the stacks of a yard: "1 2,,3" has an empty row in the
// middle.
func bayFrom(high int, rows string) impl.Bay {
	return impl.Bay{High: high, Slots: yardFrom(rows).Stacks}
}

// rowsText is the inverse of bayFrom without the height; it does not tell nil from empty rows.
func rowsText(b impl.Bay) string { return yardText(impl.Yard{Stacks: b.Slots}) }

func bayLabel(b impl.Bay) string { return fmt.Sprintf("%d high: %s", b.High, rowsText(b)) }

func copyOfBay(b impl.Bay) impl.Bay {
	return impl.Bay{High: b.High, Slots: copyOfYard(impl.Yard{Stacks: b.Slots}).Stacks}
}

func isNoBay(b impl.Bay) bool { return b.High == 0 && len(b.Slots) == 0 }

func numbersIn(b impl.Bay) []int { return slices.Concat(b.Slots...) }

// bayOfHeights has the numbers from 1 to 99 in steps of 37.
func bayOfHeights(high int, heights ...int) impl.Bay {
	return impl.Bay{High: high, Slots: yardOfHeights(heights...).Stacks}
}

func fullBay(high int, rows int) impl.Bay {
	return bayOfHeights(high, slices.Repeat([]int{high}, rows)...)
}

// baysOf makes bays of every height of the yards that fit.
func baysOf(yards []impl.Yard) []impl.Bay {
	var all []impl.Bay
	for _, y := range yards {
		for high := 1; high <= 4 && len(y.Stacks) <= 5; high++ {
			if !slices.ContainsFunc(y.Stacks, func(stack []int) bool { return len(stack) > high }) {
				all = append(all, impl.Bay{High: high, Slots: copyOfYard(y).Stacks})
			}
		}
	}
	return all
}

// smallBays returns all bays of up to 3 rows with the numbers 1 to 3, or fewer of them, and all
// of one row with the numbers 1 to 4.
func smallBays() []impl.Bay { return baysOf(append(smallYards(), yardsWith(1, 4)...)) }

// sampleBays has the small bays and greater ones up to the limits.
func sampleBays() []impl.Bay {
	all := append(baysOf(sampleYards()), bayFrom(1, "99,1,50,2,98"), bayFrom(4, "9 8 7 6,,1 3 2 4,,5"))
	for high := 1; high <= 4; high++ {
		for rows := 1; rows <= 5; rows++ {
			all = append(all, fullBay(high, rows), impl.Bay{High: high, Slots: make([][]int, rows)})
		}
	}
	return all
}

// mixedBay has at most a number of containers.
func mixedBay(next func(n int) int, count int) impl.Bay {
	high, rows := 1+next(4), 1+next(5)
	y, _ := mixedYard(next, rows, next(count+1), 0)
	for i, row := range y.Stacks {
		y.Stacks[i] = row[:min(len(row), high)]
	}
	return impl.Bay{High: high, Slots: y.Stacks}
}

// baySamples has mixed bays of all sizes, each with at most a number of containers.
func baySamples(seed int, count int, most int) []impl.Bay {
	next := dice(seed)
	var all []impl.Bay
	for range count {
		all = append(all, mixedBay(next, most))
	}
	return all
}

// isBayByRule counts how often every number stands in a bay, as an oracle.
func isBayByRule(b impl.Bay) bool {
	counts := map[int]int{}
	for _, row := range b.Slots {
		if len(row) > b.High {
			return false
		}
		for _, n := range row {
			counts[n]++
			if n < 1 || n > 99 || counts[n] > 1 {
				return false
			}
		}
	}
	return b.High > 0 && b.High < 5 && len(b.Slots) > 0 && len(b.Slots) < 6
}

// invalidBays has those of chapter 5 that are not valid at any height, and more.
func invalidBays() map[string]impl.Bay {
	all := map[string]impl.Bay{
		"nothing":                     {},
		"rows without a height":       {Slots: [][]int{{}, {}}},
		"a height without rows":       {High: 3},
		"six empty rows":              bayFrom(4, ",,,,,"),
		"six rows":                    bayFrom(1, "1,2,3,4,5,6"),
		"one number in the sixth row": bayFrom(2, ",,,,,7"),
		"two on each other, one high": bayFrom(1, "1 2"),
		"a second row too high":       bayFrom(1, "1,2 3"),
		"three on each other":         bayFrom(2, "1,2 3 4"),
		"four on each other":          bayFrom(3, "1 2 3 4"),
		"a last row too high":         bayFrom(3, "1,,,,2 3 4 5"),
		"a first row too high":        bayFrom(2, "1 2 3,,4"),
		"five on each other":          bayFrom(4, "1 2 3 4 5"),
		"a number twice in a row":     bayFrom(3, "5 6 5"),
		"a number twice in two rows":  bayFrom(2, "1 5,,5 2"),
		"a number in all rows":        bayFrom(1, "5,5,5,5,5"),
	}
	for _, high := range []int{0, -1, -4, 5, 6, 256, 1<<32 + 3, -1 << 32, math.MaxInt, math.MinInt} {
		all[fmt.Sprint("the height ", high)] = bayFrom(high, "1 2,3")
		all[fmt.Sprint("empty rows and the height ", high)] = bayFrom(high, ",")
	}
	for name, y := range invalidYards() {
		for high := 1; high <= 4; high++ {
			all[fmt.Sprint(name, ", ", high, " high")] = impl.Bay{High: high, Slots: y.Stacks}
		}
	}
	return all
}

// overstowsByTaking takes every number out of the rows, as an oracle, and leaves what stands
// above it; it fails if a number is not there any more.
func overstowsByTaking(b impl.Bay, order []int) ([]int, bool) {
	z, counts := copyOfBay(b), []int{}
	for _, n := range order {
		row := slices.IndexFunc(z.Slots, func(boxes []int) bool { return slices.Contains(boxes, n) })
		if row < 0 {
			return nil, false
		}
		tier := slices.Index(z.Slots[row], n)
		counts = append(counts, len(z.Slots[row])-1-tier)
		z.Slots[row] = slices.Delete(z.Slots[row], tier, tier+1)
	}
	return counts, true
}

// clearByTops takes the smallest of the highest numbers of all rows again and again, as an
// oracle.
func clearByTops(b impl.Bay) []int {
	z, order := copyOfBay(b), []int{}
	for range numbersIn(b) {
		smallest := 0
		for i, row := range z.Slots {
			best := z.Slots[smallest]
			if len(row) > 0 && (len(best) == 0 || row[len(row)-1] < best[len(best)-1]) {
				smallest = i
			}
		}
		row := z.Slots[smallest]
		order, z.Slots[smallest] = append(order, row[len(row)-1]), row[:len(row)-1]
	}
	return order
}

// clearOrders returns all unloading orders of all numbers in which none has an overstow, as an
// oracle, the lexicographically smallest one first.
func clearOrders(b impl.Bay) [][]int {
	count := len(numbersIn(b))
	var clear [][]int
	for _, order := range ordersOf(impl.Yard{Stacks: b.Slots}, count) {
		counts, _ := overstowsByTaking(b, order)
		if len(order) == count && !slices.ContainsFunc(counts, func(n int) bool { return n > 0 }) {
			clear = append(clear, order)
		}
	}
	slices.SortFunc(clear, slices.Compare[[]int])
	return clear
}

// balanceBySides adds up row by row with its distance from the middle, as an oracle.
func balanceBySides(b impl.Bay) int {
	balance := 0
	for i, row := range b.Slots {
		switch distance := 2*i - (len(b.Slots) - 1); {
		case distance > 0:
			balance += len(row)
		case distance < 0:
			balance -= len(row)
		}
	}
	return balance
}

// textByCells writes each number at its place among dots, as an oracle.
func textByCells(b impl.Bay) string {
	line := []byte(strings.Repeat(".. ", len(b.Slots)))
	line[len(line)-1] = '\n'
	text := slices.Repeat(line, b.High)
	for i, row := range b.Slots {
		for tier, n := range row {
			copy(text[(b.High-1-tier)*len(line)+3*i:], fmt.Sprintf("%02d", n))
		}
	}
	return string(text)
}

var bayShape = regexp.MustCompile(`\A(?:(?:\.\.|[0-9][0-9])(?: (?:\.\.|[0-9][0-9])){0,4}\n){1,4}\z`)

// isBayText tells by the shape of the lines and what stands below each number, as an oracle.
func isBayText(s string) bool {
	if !bayShape.MatchString(s) {
		return false
	}
	met := map[string]bool{"00": true}
	lines := strings.Split(strings.TrimSuffix(s, "\n"), "\n")
	for i, line := range lines {
		if len(line) != len(lines[0]) {
			return false
		}
		for k := 0; k < len(line); k += 3 {
			cell := line[k : k+2]
			if cell == ".." {
				continue
			}
			if met[cell] || i+1 < len(lines) && strings.HasPrefix(lines[i+1][min(k, len(lines[i+1])):], "..") {
				return false
			}
			met[cell] = true
		}
	}
	return true
}

func wantLoaded(t *testing.T, b impl.Bay, row int, n int, want string) {
	t.Helper()
	if z, ok := impl.LoadBox(b, row, n); !ok || z.High != b.High || rowsText(z) != want {
		t.Errorf("LoadBox of %d on row %d of %s = %s, %v, want %s", n, row, bayLabel(b), bayLabel(z), ok, want)
	}
}

func wantNoLoaded(t *testing.T, b impl.Bay, row int, n int) {
	t.Helper()
	if z, ok := impl.LoadBox(b, row, n); ok || !isNoBay(z) {
		t.Errorf("LoadBox of %d on row %d of %s = %s, %v", n, row, bayLabel(b), bayLabel(z), ok)
	}
}

func wantUnloaded(t *testing.T, b impl.Bay, row int, n int, want string) {
	t.Helper()
	if z, top, ok := impl.UnloadRow(b, row); !ok || top != n || z.High != b.High || rowsText(z) != want {
		t.Errorf("UnloadRow %d of %s = %s, %d, %v, want %s, %d", row, bayLabel(b), bayLabel(z), top, ok, want, n)
	}
}

func wantNoUnloaded(t *testing.T, b impl.Bay, row int) {
	t.Helper()
	if z, n, ok := impl.UnloadRow(b, row); ok || n != 0 || !isNoBay(z) {
		t.Errorf("UnloadRow %d of %s = %s, %d, %v", row, bayLabel(b), bayLabel(z), n, ok)
	}
}

func wantSlot(t *testing.T, b impl.Bay, n int, row int, tier int) {
	t.Helper()
	if r, k, ok := impl.SlotOf(b, n); !ok || r != row || k != tier {
		t.Errorf("SlotOf %d in %s = %d, %d, %v, want %d, %d", n, bayLabel(b), r, k, ok, row, tier)
	}
}

func wantNoSlot(t *testing.T, b impl.Bay, n int) {
	t.Helper()
	if row, tier, ok := impl.SlotOf(b, n); ok || row != 0 || tier != 0 {
		t.Errorf("SlotOf %d in %s = %d, %d, %v", n, bayLabel(b), row, tier, ok)
	}
}

func wantOverstows(t *testing.T, b impl.Bay, order []int, want ...int) {
	t.Helper()
	if counts, ok := impl.OverstowsOf(b, order); !ok || !slices.Equal(counts, want) {
		t.Errorf("OverstowsOf %v in %s = %v, %v, want %v", order, bayLabel(b), counts, ok, want)
	}
}

func wantNoOverstows(t *testing.T, name string, b impl.Bay, order []int) {
	t.Helper()
	if counts, ok := impl.OverstowsOf(b, order); ok || len(counts) != 0 {
		t.Errorf("OverstowsOf %s in %s = %v, %v", name, bayLabel(b), counts, ok)
	}
}

func wantClear(t *testing.T, b impl.Bay, want ...int) {
	t.Helper()
	if order, ok := impl.ClearOrder(b); !ok || !slices.Equal(order, want) {
		t.Errorf("ClearOrder of %s = %v, %v, want %v", bayLabel(b), order, ok, want)
	}
}

func wantBalance(t *testing.T, b impl.Bay, want int) {
	t.Helper()
	if n, ok := impl.BayBalance(b); !ok || n != want {
		t.Errorf("BayBalance of %s = %d, %v, want %d", bayLabel(b), n, ok, want)
	}
}

// wantText wants a text of a bay that gives the bay back.
func wantText(t *testing.T, b impl.Bay, want string) {
	t.Helper()
	s, ok := impl.BayText(b)
	if !ok || s != want {
		t.Errorf("BayText of %s = %q, %v, want %q", bayLabel(b), s, ok, want)
	}
	if z, ok := impl.ParseBay(want); !ok || bayLabel(z) != bayLabel(b) {
		t.Errorf("ParseBay(%q) = %s, %v, want %s", want, bayLabel(z), ok, bayLabel(b))
	}
}

func wantNoBayIn(t *testing.T, s string) {
	t.Helper()
	if b, ok := impl.ParseBay(s); ok || !isNoBay(b) {
		t.Errorf("ParseBay(%.90q) = %s, %v", s, bayLabel(b), ok)
	}
}

// wantBayIfText wants a bay exactly for the texts of bays, and tells whether s is one.
func wantBayIfText(t *testing.T, s string) bool {
	t.Helper()
	if !isBayText(s) {
		wantNoBayIn(t, s)
		return false
	}
	b, ok := impl.ParseBay(s)
	if text, fine := impl.BayText(b); !ok || !fine || text != s || !isBayByRule(b) || textByCells(b) != s {
		t.Errorf("ParseBay(%q) = %s, %v, whose text is %q", s, bayLabel(b), ok, text)
	}
	return true
}

// bayOrders has unloading orders of a bay, and lists that are none.
func bayOrders(b impl.Bay) [][]int {
	numbers := numbersIn(b)
	numbers = numbers[:min(len(numbers), 20)]
	downwards := slices.Clone(numbers)
	slices.Reverse(downwards)
	all := [][]int{nil, {77}, {0}, numbers, downwards, numbers[len(numbers)/2:]}
	for i, n := range numbers {
		all = append(all, numbers[i:i+1], append(slices.Clone(numbers), n))
	}
	return all
}

// wantUnderstood compares what all functions say about a valid bay with the oracles.
func wantUnderstood(t *testing.T, b impl.Bay) {
	t.Helper()
	if !impl.IsValidBay(b) {
		t.Errorf("%s is not valid", bayLabel(b))
	}
	wantText(t, b, textByCells(b))
	wantBalance(t, b, balanceBySides(b))
	wantClear(t, b, clearByTops(b)...)
	for _, order := range bayOrders(b) {
		if counts, ok := overstowsByTaking(b, order); ok {
			wantOverstows(t, b, order, counts...)
		} else {
			wantNoOverstows(t, fmt.Sprint(order), b, order)
		}
	}
	for i, row := range b.Slots {
		for tier, n := range row {
			wantSlot(t, b, n, i, tier)
		}
		if len(row) == 0 {
			wantNoUnloaded(t, b, i)
			continue
		}
		z, top := copyOfBay(b), len(row)-1
		z.Slots[i] = z.Slots[i][:top]
		wantUnloaded(t, b, i, row[top], rowsText(z))
		wantLoaded(t, z, i, row[top], rowsText(b))
	}
}

// wantNothingOf wants zero values of every function for an invalid bay.
func wantNothingOf(t *testing.T, b impl.Bay) {
	t.Helper()
	if impl.IsValidBay(b) {
		t.Errorf("%s is valid", bayLabel(b))
	}
	for _, n := range []int{-1, 0, 1, 2, 3, 5, 7, 50, 99, 100, math.MaxInt} {
		for row := -1; row <= 6; row++ {
			wantNoLoaded(t, b, row, n)
		}
		wantNoSlot(t, b, n)
	}
	for row := -1; row <= 6; row++ {
		wantNoUnloaded(t, b, row)
	}
	for _, order := range [][]int{nil, {}, {1}, {5}, {2, 1}, {1, 2, 3}, {7}, {77}} {
		wantNoOverstows(t, fmt.Sprint(order), b, order)
	}
	if order, ok := impl.ClearOrder(b); ok || len(order) != 0 {
		t.Errorf("ClearOrder of %s = %v, %v", bayLabel(b), order, ok)
	}
	if n, ok := impl.BayBalance(b); ok || n != 0 {
		t.Errorf("BayBalance of %s = %d, %v", bayLabel(b), n, ok)
	}
	if s, ok := impl.BayText(b); ok || s != "" {
		t.Errorf("BayText of %s = %q, %v", bayLabel(b), s, ok)
	}
}

func TestLimitsOfBays(t *testing.T) {
	if impl.MaxRows != 5 || impl.MaxHigh != 4 {
		t.Errorf("the limits are %d and %d", impl.MaxRows, impl.MaxHigh)
	}
}

func TestValidBays(t *testing.T) {
	for _, b := range []impl.Bay{
		bayFrom(1, ""), bayFrom(4, ""), bayFrom(1, "1"), bayFrom(1, "99"), bayFrom(1, "1,2,3,4,5"), bayFrom(2, "1 2"),
		bayFrom(3, "1 2 3"), bayFrom(4, "1 2 3 4"), bayFrom(4, "4 3 2 1,,,,99 98 97 96"), bayFrom(4, ",,,,"), bayFrom(4, "1"),
	} {
		wantUnderstood(t, b)
	}
	for _, b := range append(sampleBays(), baySamples(127, 1000, 20)...) {
		wantUnderstood(t, b)
	}
}

func TestInvalidBaysYieldNothing(t *testing.T) {
	for name, b := range invalidBays() {
		if isBayByRule(b) {
			t.Errorf("%s: %s is no invalid bay", name, bayLabel(b))
		}
		wantNothingOf(t, b)
	}
}

// A row that is too high is taken down to its height by the function that removes a number, and
// the other rows are valid.
func TestInvalidBaysThatWouldBecomeValid(t *testing.T) {
	wantNoUnloaded(t, bayFrom(1, "1 2"), 0)
	wantNoUnloaded(t, bayFrom(4, "1 2 3 4 5"), 0)
	wantNoUnloaded(t, bayFrom(2, "1 1"), 0)
	wantNoUnloaded(t, bayFrom(2, "1 0"), 0)
	wantNoUnloaded(t, bayFrom(2, "1 100"), 0)
	wantNoUnloaded(t, bayFrom(1, "1,2 3"), 0)
	wantNoLoaded(t, bayFrom(1, "1 2,"), 1, 3)
	wantNoLoaded(t, bayFrom(0, ","), 1, 3)
	wantNoLoaded(t, bayFrom(5, ","), 1, 3)
	wantNoSlot(t, bayFrom(2, "1,2 2"), 1)
	wantNoSlot(t, bayFrom(5, "1,2"), 1)
	wantNoOverstows(t, "1", bayFrom(1, "1,2 3"), []int{1})
	wantNoOverstows(t, "nothing", bayFrom(0, "1,2"), nil)
}

func TestBaysOfAllHeightsAndNumbersOfRows(t *testing.T) {
	for high := -10; high <= 20; high++ {
		for rows := range 20 {
			b, want := impl.Bay{High: high, Slots: make([][]int, rows)}, 1 <= high && high <= 4 && 1 <= rows && rows <= 5
			if got := impl.IsValidBay(b); got != want {
				t.Errorf("IsValidBay of %d empty rows, %d high = %v", rows, high, got)
			}
			if !want {
				wantNothingOf(t, b)
			}
		}
	}
}

func TestRowsOfAllHeightsAtAllPlaces(t *testing.T) {
	for high := 1; high <= 4; high++ {
		for rows := 1; rows <= 5; rows++ {
			for i := range rows {
				for height := range 12 {
					heights := slices.Repeat([]int{high / 2}, rows)
					heights[i] = height
					b := bayOfHeights(high, heights...)
					if got, want := impl.IsValidBay(b), height <= high; got != want {
						t.Errorf("IsValidBay of %s = %v", bayLabel(b), got)
					}
				}
			}
		}
	}
}

func TestBaysWithEveryNumberAtEveryPlace(t *testing.T) {
	for high := 1; high <= 4; high++ {
		for rows := 1; rows <= 5; rows++ {
			for i := range rows * high {
				b := fullBay(high, rows)
				for _, n := range numbersAround() {
					b.Slots[i/high][i%high] = n
					if got, want := impl.IsValidBay(b), isBayByRule(b); got != want {
						t.Fatalf("IsValidBay of %s = %v", bayLabel(b), got)
					}
				}
			}
		}
	}
}

func TestRowsThatThereAreNot(t *testing.T) {
	for _, b := range sampleBays() {
		for _, row := range noStacks(len(b.Slots)) {
			wantNoUnloaded(t, b, row)
			for _, n := range []int{1, 77, 99, 0, 100} {
				wantNoLoaded(t, b, row, n)
			}
		}
	}
}

func TestLoadBox(t *testing.T) {
	b := bayFrom(3, "1 2,3,,4 5 6")
	wantLoaded(t, b, 0, 20, "1 2 20,3,,4 5 6")
	wantLoaded(t, b, 1, 99, "1 2,3 99,,4 5 6")
	wantLoaded(t, b, 2, 20, "1 2,3,20,4 5 6")
	wantLoaded(t, bayFrom(4, "1 2,3,,4 5 6"), 3, 20, "1 2,3,,4 5 6 20")
	wantLoaded(t, bayFrom(1, ""), 0, 1, "1")
	wantLoaded(t, bayFrom(1, ",,,,"), 4, 99, ",,,,99")
	wantLoaded(t, impl.Bay{High: 2, Slots: make([][]int, 2)}, 1, 5, ",5")
	wantNoLoaded(t, b, 3, 20)
	wantNoLoaded(t, b, 4, 20)
	wantNoLoaded(t, b, -1, 20)
	for _, n := range []int{-1, 0, 100, 101, math.MaxInt, math.MinInt} {
		wantNoLoaded(t, b, 0, n)
	}
	for n := 1; n <= 6; n++ {
		for row := range 4 {
			wantNoLoaded(t, b, row, n)
		}
	}
	// A full row is as high as the bay.
	for high := 1; high <= 4; high++ {
		for rows := 1; rows <= 5; rows++ {
			for row := range rows {
				wantNoLoaded(t, fullBay(high, rows), row, 99)
				wantNoLoaded(t, fullBay(high, rows), row, 2)
			}
		}
	}
}

func TestLoadBoxOfEveryNumberOnEveryRow(t *testing.T) {
	for _, b := range append(sampleBays(), baySamples(131, 100, 20)...) {
		for row := range b.Slots {
			for _, n := range numbersAround() {
				z := copyOfBay(b)
				z.Slots[row] = append(z.Slots[row], n)
				if isBayByRule(z) {
					wantLoaded(t, b, row, n, rowsText(z))
				} else {
					wantNoLoaded(t, b, row, n)
				}
			}
		}
	}
}

func TestALoadedNumberIsUnloadedAgainFromItsRow(t *testing.T) {
	for _, b := range append(sampleBays(), baySamples(137, 200, 20)...) {
		for row, boxes := range b.Slots {
			for n := 1; n <= 99; n++ {
				z, ok := impl.LoadBox(b, row, n)
				if !ok {
					continue
				}
				if !impl.IsValidBay(z) {
					t.Fatalf("LoadBox of %d on row %d of %s is no bay: %s", n, row, bayLabel(b), bayLabel(z))
				}
				wantSlot(t, z, n, row, len(boxes))
				wantOverstows(t, z, []int{n}, 0)
				wantUnloaded(t, z, row, n, rowsText(b))
			}
		}
	}
}

func TestUnloadRow(t *testing.T) {
	b := bayFrom(4, "1 2,3,,4 5 6,7 8 9 10")
	wantUnloaded(t, b, 0, 2, "1,3,,4 5 6,7 8 9 10")
	wantUnloaded(t, b, 1, 3, "1 2,,,4 5 6,7 8 9 10")
	wantUnloaded(t, b, 3, 6, "1 2,3,,4 5,7 8 9 10")
	wantUnloaded(t, b, 4, 10, "1 2,3,,4 5 6,7 8 9")
	wantNoUnloaded(t, b, 2)
	wantNoUnloaded(t, b, 5)
	wantNoUnloaded(t, b, -1)
	// The highest number is the one in the highest place, not the greatest one.
	wantUnloaded(t, bayFrom(3, "99 50 1,98"), 0, 1, "99 50,98")
	wantUnloaded(t, bayFrom(1, "9"), 0, 9, "")
	wantUnloaded(t, bayFrom(1, ",,,,1"), 4, 1, ",,,,")
	for rows := 1; rows <= 5; rows++ {
		for row := range rows {
			wantNoUnloaded(t, impl.Bay{High: 4, Slots: make([][]int, rows)}, row)
		}
	}
}

func TestUnloadRowUntilItIsEmpty(t *testing.T) {
	for _, b := range append(sampleBays(), baySamples(139, 200, 20)...) {
		for row, boxes := range b.Slots {
			z := b
			for _, n := range slices.Backward(boxes) {
				after, top, ok := impl.UnloadRow(z, row)
				if !ok || top != n {
					t.Fatalf("UnloadRow %d of %s = %s, %d, %v, want %d", row, bayLabel(z), bayLabel(after), top, ok, n)
				}
				wantNoSlot(t, after, n)
				z = after
			}
			wantNoUnloaded(t, z, row)
			for _, n := range boxes {
				z, _ = impl.LoadBox(z, row, n)
			}
			if bayLabel(z) != bayLabel(b) {
				t.Errorf("%s is loaded again as %s", bayLabel(b), bayLabel(z))
			}
		}
	}
}

func TestSlotOf(t *testing.T) {
	b := bayFrom(4, "1 2,3,,4 5 6,99 8 9 10")
	wantSlot(t, b, 1, 0, 0)
	wantSlot(t, b, 2, 0, 1)
	wantSlot(t, b, 3, 1, 0)
	wantSlot(t, b, 5, 3, 1)
	wantSlot(t, b, 6, 3, 2)
	wantSlot(t, b, 99, 4, 0)
	wantSlot(t, b, 10, 4, 3)
	for _, b := range append(sampleBays(), baySamples(149, 100, 20)...) {
		standing := numbersIn(b)
		for _, n := range numbersAround() {
			if !slices.Contains(standing, n) {
				wantNoSlot(t, b, n)
				wantNoOverstows(t, fmt.Sprint(n), b, []int{n})
			}
		}
	}
}

func TestOverstowsOf(t *testing.T) {
	b := bayFrom(4, "1 2,3,,4 5 6,10 9 8 7")
	wantOverstows(t, b, orderFrom("1 3"), 1, 0)
	wantOverstows(t, b, orderFrom("2 1"), 0, 0)
	wantOverstows(t, b, orderFrom("1 2"), 1, 0)
	// What stands above is counted again for each number below it, until it is taken out.
	wantOverstows(t, b, orderFrom("4 5 6"), 2, 1, 0)
	wantOverstows(t, b, orderFrom("5 4 6"), 1, 1, 0)
	wantOverstows(t, b, orderFrom("6 4 5"), 0, 1, 0)
	wantOverstows(t, b, orderFrom("5 6 4"), 1, 0, 0)
	wantOverstows(t, b, orderFrom("10 9 8 7"), 3, 2, 1, 0)
	wantOverstows(t, b, orderFrom("7 8 9 10"), 0, 0, 0, 0)
	wantOverstows(t, b, orderFrom("8 10 7 9"), 1, 2, 0, 0)
	// Numbers below, and those of other rows, do not count.
	wantOverstows(t, b, orderFrom("6 2 3 7"), 0, 0, 0, 0)
	wantOverstows(t, b, orderFrom("10 4 1 3"), 3, 2, 1, 0)
	wantOverstows(t, b, orderFrom("4 10 5 1 9"), 2, 3, 1, 1, 2)
	wantOverstows(t, b, orderFrom("6 7 2 3 5 8 1 9 4 10"), 0, 0, 0, 0, 0, 0, 0, 0, 0, 0)
	// Greater and smaller numbers count alike.
	wantOverstows(t, bayFrom(3, "50 1 99"), orderFrom("50"), 2)
	wantOverstows(t, bayFrom(3, "50 1 99"), orderFrom("1 50"), 1, 1)
}

func TestEmptyUnloadingOrders(t *testing.T) {
	for _, b := range sampleBays() {
		wantOverstows(t, b, nil)
		wantOverstows(t, b, []int{})
	}
}

// All lists of different numbers, and all of these with one more number at any place.
func TestOverstowsOfAllOrdersOfSmallBays(t *testing.T) {
	for _, b := range smallBays() {
		for _, order := range ordersOf(impl.Yard{Stacks: b.Slots}, 4) {
			counts, _ := overstowsByTaking(b, order)
			wantOverstows(t, b, order, counts...)
			for i := range len(order) + 1 {
				for n := range 6 {
					list := slices.Insert(slices.Clone(order), i, n)
					if counts, ok := overstowsByTaking(b, list); ok {
						wantOverstows(t, b, list, counts...)
					} else {
						wantNoOverstows(t, fmt.Sprint(list), b, list)
					}
				}
			}
		}
	}
}

func TestOverstowsOfMixedOrders(t *testing.T) {
	next := dice(151)
	for range 2000 {
		b := mixedBay(next, 20)
		standing, order := numbersIn(b), []int{}
		for range next(len(standing) + 1) {
			k := next(len(standing))
			order = append(order, standing[k])
			standing = slices.Delete(standing, k, k+1)
		}
		counts, _ := overstowsByTaking(b, order)
		wantOverstows(t, b, order, counts...)
	}
}

// invalidUnloadings has lists that are no unloading orders of the bay "1 2 3,4 5 6,7 8 9,".
func invalidUnloadings() map[string][]int {
	all := map[string][]int{
		"a number twice":                     {1, 1},
		"a top twice":                        {3, 3},
		"a number twice with others between": {3, 6, 2, 3},
		"a number twice at the end":          {3, 2, 1, 6, 5, 5},
		"all numbers and the first again":    {3, 2, 1, 6, 5, 4, 9, 8, 7, 3},
		"a number that is not in the bay":    {10},
		"another one at the end":             {3, 2, 1, 10},
		"another one at the beginning":       {10, 3, 2, 1},
		"another one in the middle":          {3, 10, 2},
		"the whole bay many times":           slices.Repeat([]int{1, 2, 3, 4, 5, 6, 7, 8, 9}, 1<<13),
		"every number":                       yardNumbers(),
	}
	for _, n := range []int{0, -1, -3, 100, 101, 256, 1<<32 + 3, -1 << 32, math.MaxInt, math.MinInt} {
		all[fmt.Sprint("only ", n)] = []int{n}
		all[fmt.Sprint("at the end ", n)] = []int{3, 2, n}
		all[fmt.Sprint("at the beginning ", n)] = []int{n, 3, 2}
		all[fmt.Sprint("in the middle ", n)] = []int{3, n, 2}
	}
	return all
}

func TestListsThatAreNoUnloadingOrders(t *testing.T) {
	for name, order := range invalidUnloadings() {
		for _, b := range []impl.Bay{
			bayFrom(3, "1 2 3,4 5 6,7 8 9,"), bayFrom(4, "3 2 1,,6 5 4 9,7 8"), bayFrom(2, "1 2,3 4,5 6,7 8,9"), bayFrom(1, ""),
		} {
			wantNoOverstows(t, name, b, order)
		}
	}
}

func TestClearOrder(t *testing.T) {
	wantClear(t, bayFrom(3, "1 2,3,"), 2, 1, 3)
	wantClear(t, bayFrom(1, "3,1,2"), 1, 2, 3)
	wantClear(t, bayFrom(1, "5,4,3,2,1"), 1, 2, 3, 4, 5)
	wantClear(t, bayFrom(4, "1 2 3 4"), 4, 3, 2, 1)
	wantClear(t, bayFrom(4, "4 3 2 1"), 1, 2, 3, 4)
	wantClear(t, bayFrom(2, "99"), 99)
	// A smaller number comes as soon as nothing stands above it.
	wantClear(t, bayFrom(3, "1 9,5,6"), 5, 6, 9, 1)
	wantClear(t, bayFrom(3, "1 4,5,6"), 4, 1, 5, 6)
	wantClear(t, bayFrom(3, "1 4 7,5,6"), 5, 6, 7, 4, 1)
	wantClear(t, bayFrom(3, "9 1,8 2,7 3"), 1, 2, 3, 7, 8, 9)
	wantClear(t, bayFrom(3, "1 9,2 8,3 7"), 7, 3, 8, 2, 9, 1)
	wantClear(t, bayFrom(4, "1 20 2 10,15 3"), 3, 10, 2, 15, 20, 1)
	wantClear(t, bayFrom(4, "7 8 9 10,4 5 6,,3,1 2"), 2, 1, 3, 6, 5, 4, 10, 9, 8, 7)
	// Numbers are not compared as texts.
	wantClear(t, bayFrom(1, "10,9"), 9, 10)
	for high := 1; high <= 4; high++ {
		for rows := 1; rows <= 5; rows++ {
			wantClear(t, impl.Bay{High: high, Slots: make([][]int, rows)})
		}
	}
}

// wantClearOfAll compares a clear order with all unloading orders, and returns the number of
// those without overstows.
func wantClearOfAll(t *testing.T, b impl.Bay) int {
	t.Helper()
	all := clearOrders(b)
	wantClear(t, b, all[0]...)
	return len(all)
}

// A clear order has every number once and no overstows, and so has no lexicographically smaller
// order of all numbers.
func TestClearOrderOfAllSmallBays(t *testing.T) {
	bays := append(smallBays(), baysOf(yardsWith(2, 4))...)
	several := 0
	for _, b := range append(bays, baysOf(yardsWith(3, 4))...) {
		if wantClearOfAll(t, b) > 1 {
			several++
		}
	}
	if several < 1000 {
		t.Errorf("only %d bays have several clear orders", several)
	}
}

func TestClearOrderOfMixedBays(t *testing.T) {
	several, single := 0, 0
	for _, b := range baySamples(157, 600, 6) {
		if wantClearOfAll(t, b) > 1 {
			several++
		} else {
			single++
		}
	}
	for _, b := range baySamples(163, 20, 7) {
		wantClearOfAll(t, b)
	}
	if several < 100 || single < 100 {
		t.Errorf("%d and %d bays have several clear orders and one", several, single)
	}
}

func TestAClearOrderHasNoOverstows(t *testing.T) {
	for _, b := range append(sampleBays(), baySamples(167, 3000, 20)...) {
		order, ok := impl.ClearOrder(b)
		standing, sorted := slices.Sorted(slices.Values(numbersIn(b))), slices.Sorted(slices.Values(order))
		if !ok || !slices.Equal(sorted, standing) {
			t.Fatalf("ClearOrder of %s = %v, %v", bayLabel(b), order, ok)
		}
		wantOverstows(t, b, order, make([]int, len(order))...)
	}
}

// The numbers of a clear order are unloaded one after the other from the rows of their slots.
func TestAClearOrderUnloadsTheBay(t *testing.T) {
	for _, b := range append(sampleBays(), baySamples(173, 500, 20)...) {
		order, _ := impl.ClearOrder(b)
		z := b
		for _, n := range order {
			row, _, ok := impl.SlotOf(z, n)
			after, top, fine := impl.UnloadRow(z, row)
			if !ok || !fine || top != n {
				t.Fatalf("%d of %v is not unloaded from %s, but %d, %v", n, order, bayLabel(z), top, fine)
			}
			z = after
		}
		if len(numbersIn(z)) != 0 || len(z.Slots) != len(b.Slots) || z.High != b.High {
			t.Errorf("%s is left of %s", bayLabel(z), bayLabel(b))
		}
	}
}

func TestBayBalance(t *testing.T) {
	wantBalance(t, bayFrom(3, "1 2,3,"), -2)
	// An even number of rows.
	wantBalance(t, bayFrom(3, "1,2 3"), 1)
	wantBalance(t, bayFrom(3, "1 2 3,"), -3)
	wantBalance(t, bayFrom(3, ",1 2 3"), 3)
	wantBalance(t, bayFrom(4, "1,2 3,4 5 6,7 8 9 10"), 4)
	wantBalance(t, bayFrom(4, "1,2 3,,"), -3)
	wantBalance(t, bayFrom(4, "1,,,2"), 0)
	wantBalance(t, bayFrom(4, ",1 2,3,"), -1)
	// The middle row of an odd number of rows does not count.
	wantBalance(t, bayFrom(4, "1,2 3 4 5,6"), 0)
	wantBalance(t, bayFrom(4, "1,2 3 4 5,6 7 8"), 2)
	wantBalance(t, bayFrom(4, ",1,2 3 4 5,,"), -1)
	wantBalance(t, bayFrom(4, ",,1 2 3 4,5,"), 1)
	wantBalance(t, bayFrom(4, ",,,,1 2"), 2)
	wantBalance(t, bayFrom(4, "1 2 3 4,5 6 7 8,,,"), -8)
	wantBalance(t, bayFrom(4, ",,9,1 2 3 4,5 6 7 8"), 8)
	// One row is the middle one.
	for high := 1; high <= 4; high++ {
		wantBalance(t, bayFrom(high, ""), 0)
		wantBalance(t, fullBay(high, 1), 0)
	}
	for rows := 1; rows <= 5; rows++ {
		wantBalance(t, fullBay(4, rows), 0)
		wantBalance(t, impl.Bay{High: 1, Slots: make([][]int, rows)}, 0)
	}
}

func TestBalanceOfOneNumberInEachRow(t *testing.T) {
	for rows := 1; rows <= 5; rows++ {
		for row := range rows {
			b, ok := impl.LoadBox(impl.Bay{High: 1, Slots: make([][]int, rows)}, row, 7)
			if !ok {
				t.Fatalf("row %d of %d is not loaded", row, rows)
			}
			wantBalance(t, b, balanceBySides(b))
		}
	}
}

func TestBalanceOfMirroredBays(t *testing.T) {
	uneven := 0
	for _, b := range append(sampleBays(), baySamples(179, 500, 20)...) {
		balance, _ := impl.BayBalance(b)
		mirrored := copyOfBay(b)
		slices.Reverse(mirrored.Slots)
		wantBalance(t, mirrored, -balance)
		if balance != 0 {
			uneven++
		}
	}
	if uneven < 100 {
		t.Errorf("only %d bays are out of balance", uneven)
	}
}

func TestBayText(t *testing.T) {
	wantText(t, bayFrom(3, "1 2,3,"), ".. .. ..\n02 .. ..\n01 03 ..\n")
	wantText(t, bayFrom(1, ""), "..\n")
	wantText(t, bayFrom(2, ""), "..\n..\n")
	wantText(t, bayFrom(3, ""), "..\n..\n..\n")
	wantText(t, bayFrom(4, ""), "..\n..\n..\n..\n")
	wantText(t, bayFrom(1, ",,,,"), ".. .. .. .. ..\n")
	wantText(t, bayFrom(1, "1"), "01\n")
	wantText(t, bayFrom(1, "9,10,99"), "09 10 99\n")
	wantText(t, bayFrom(2, "9,10,99"), ".. .. ..\n09 10 99\n")
	wantText(t, bayFrom(2, "9 90"), "90\n09\n")
	wantText(t, bayFrom(4, "1 2 3 4"), "04\n03\n02\n01\n")
	wantText(t, bayFrom(4, ",11,12 13,14 15 16,17 18 19 20"), ".. .. .. .. 20\n.. .. .. 16 19\n.. .. 13 15 18\n.. 11 12 14 17\n")
	wantText(t, bayFrom(2, "50 40,30 20"), "40 20\n50 30\n")
	wantText(t, bayFrom(3, ",7 70,"), ".. .. ..\n.. 70 ..\n.. 07 ..\n")
	for n := 1; n <= 99; n++ {
		wantText(t, impl.Bay{High: 1, Slots: [][]int{{}, {n}}}, fmt.Sprintf(".. %02d\n", n))
	}
}

// The text of the greatest bay has 60 bytes, and different bays have different texts.
func TestTextsOfBaysAreDifferent(t *testing.T) {
	if s, ok := impl.BayText(fullBay(4, 5)); !ok || len(s) != 60 {
		t.Errorf("the text of the greatest bay is %q, %v", s, ok)
	}
	met := map[string]string{}
	for _, b := range append(sampleBays(), baySamples(181, 2000, 20)...) {
		s, ok := impl.BayText(b)
		if other, known := met[s]; !ok || known && other != bayLabel(b) {
			t.Errorf("BayText of %s and %s = %q, %v", bayLabel(b), other, s, ok)
		}
		met[s] = bayLabel(b)
	}
}

func TestParseBayRejects(t *testing.T) {
	for _, s := range []string{
		// No line at all, and a last line that is not ended.
		"", " ", ".", "..", "01", ". .", "01 ..", "01\n02", "..\n..", ".. 01\n.. 02", "..\n..\n..\n..\n..",
		// Empty lines.
		"\n", "\n\n", "\n01\n", "01\n\n", "01\n\n02\n", "\n\n\n\n", "..\n\n", "\n..\n",
		// A number above a gap.
		"01 ..\n.. 02\n", "01\n..\n", ".. 01\n.. ..\n", "01 02\n.. ..\n", "01\n..\n..\n", "01\n..\n02\n", "01\n02\n..\n",
		"..\n01\n..\n02\n", "01\n..\n..\n02\n", ".. 09 ..\n01 .. 03\n02 10 04\n",
		// No leading zero, or more digits than two.
		"1 ..\n", "1\n", ".. 1\n", " 1\n", "1 \n", "001\n", "100\n", "012\n", "01 002\n", "099\n", "1 2\n", "0\n", "9\n",
		// The number 00, and numbers with signs.
		"00\n", "00 ..\n", ".. 00\n", "00\n01\n", "01\n00\n", "01 00\n", "-1\n", "+1\n", "-01\n", "+01\n", "-0\n", "01 -2\n",
		// A number twice.
		"01 01\n", "01\n01\n", "01 ..\n02 01\n", "99 .. 99\n", "05\n06\n05\n", "07 ..\n.. 07\n",
		// Spaces.
		"0102\n", "01  02\n", " 01 02\n", "01 02 \n", "01 02\n 03 04\n", "01\t02\n", "01,02\n", "....\n", ".. ..  ..\n", ".. \n",
		" ..\n", "01 ..02\n", "01.. 02\n", "0 1\n", ". .\n", "01 02\n \n",
		// Lines of different lengths.
		"01 02\n03\n", "01\n02 03\n", ".. ..\n01\n", "..\n01 02\n", ".. ..\n..\n", "..\n.. ..\n", ".. .. ..\n.. ..\n.. .. ..\n",
		// Other gaps.
		".\n", "...\n", "__\n", "--\n", "  \n", "0.\n", ".0\n", "1.\n", ".1\n", "xx\n", "0x\n", "0a\n", "..\x00\n", "\x00\n",
		// Other ends of lines.
		"01\r\n", "01\r", "01\n\r", "..\v", "01\\n", "01\n ", "01\n.", "01\n0", "01\u0085", "01\u2028",
		// Other digits and bytes.
		"０１\n", "٠١\n", "0\u00b2\n", "0\xff\n", "\xff\xfe\n", "\u20240\n", "\ufeff01\n", "1e\n", "0_1\n", "1_0\n", "0b1\n",
		"<nil>\n", "ABC0001F small 12000 plain 3\n",
	} {
		wantNoBayIn(t, s)
	}
}

// The lines of greater bays, which would be valid with one line or one row less.
func TestParseBayAtTheLimits(t *testing.T) {
	for lines := range 8 {
		for rows := range 8 {
			numbers := yardNumbers()
			for _, filled := range []bool{false, true} {
				s := ""
				for range lines {
					var cells []string
					for range rows {
						cell := ".."
						if filled {
							cell, numbers = fmt.Sprintf("%02d", numbers[0]), numbers[1:]
						}
						cells = append(cells, cell)
					}
					s += strings.Join(cells, " ") + "\n"
				}
				if got, want := wantBayIfText(t, s), 1 <= lines && lines <= 4 && 1 <= rows && rows <= 5; got != want {
					t.Errorf("%q is a text of a bay: %v", s, got)
				}
			}
		}
	}
}

func TestParseBayRejectsLongStrings(t *testing.T) {
	for _, part := range []string{"..\n", "01\n", ".. ", "01 ", "\n", " ", ".. .. .. .. ..\n", "0", "9", ".", "a"} {
		for _, length := range []int{61, 3998, 3999, 4000, 4001, 4002, 1 << 20} {
			s := strings.Repeat(part, length/len(part)+1)[:length]
			wantNoBayIn(t, s)
			wantNoBayIn(t, s[1:]+"\n")
			wantNoBayIn(t, "01\n"+s)
			wantNoBayIn(t, s+"\n01\n")
		}
	}
}

func TestParseBayOfAllShortStrings(t *testing.T) {
	texts := 0
	for _, s := range wordsOver("01. \n", 7) {
		if wantBayIfText(t, s) {
			texts++
		}
	}
	for _, s := range wordsOver("1.\n", 9) {
		wantBayIfText(t, s)
	}
	if texts < 20 {
		t.Errorf("only %d short strings are texts", texts)
	}
}

// All tables of cells with gaps, numbers below and above them, and the same number again.
func TestParseBayOfAllTablesOfCells(t *testing.T) {
	cells := []string{"..", "01", "02", "10"}
	texts, others := 0, 0
	for _, size := range [][2]int{{1, 1}, {1, 2}, {2, 1}, {1, 5}, {2, 2}, {3, 1}, {4, 1}, {5, 1}, {2, 3}, {3, 2}, {4, 2}, {1, 6}} {
		for _, list := range listsOf(size[0]*size[1], len(cells)) {
			s := ""
			for i, n := range list {
				s += cells[n] + " "
				if (i+1)%size[1] == 0 {
					s = strings.TrimSuffix(s, " ") + "\n"
				}
			}
			if wantBayIfText(t, s) {
				texts++
			} else {
				others++
			}
		}
	}
	if texts < 200 || others < 10000 {
		t.Errorf("%d tables are texts and %d are not", texts, others)
	}
}

func TestParseBayWithEveryByteAtEveryPlace(t *testing.T) {
	for _, b := range []impl.Bay{
		bayFrom(1, ""), bayFrom(1, "1"), bayFrom(1, ",9"), bayFrom(2, "10 20,30"), bayFrom(3, "1 2,3,"), bayFrom(4, "9 8 7,,99"),
		bayFrom(4, ",11,12 13,14 15 16,17 18 19 20"),
	} {
		s := textByCells(b)
		for i := range len(s) {
			wantBayIfText(t, s[:i])
			wantBayIfText(t, s[i:])
			wantBayIfText(t, s[:i]+s[i+1:])
			wantBayIfText(t, s[:i]+s[i:i+1]+s[i:])
			for c := range 256 {
				wantBayIfText(t, replaced(s, i, byte(c)))
				wantBayIfText(t, s[:i]+string([]byte{byte(c)})+s[i:])
			}
		}
		for c := range 256 {
			wantBayIfText(t, s+string([]byte{byte(c)}))
		}
	}
}

// Cells, lines and columns of a text are left out, doubled and exchanged.
func TestParseBayOfTextsWithOtherLines(t *testing.T) {
	texts, others := 0, 0
	count := func(s string) {
		if wantBayIfText(t, s) {
			texts++
		} else {
			others++
		}
	}
	for _, b := range append(sampleBays(), baySamples(191, 300, 20)...) {
		lines := strings.SplitAfter(textByCells(b), "\n")
		lines = lines[:len(lines)-1]
		for i, line := range lines {
			count(strings.Join(slices.Delete(slices.Clone(lines), i, i+1), ""))
			count(strings.Join(slices.Insert(slices.Clone(lines), i, line), ""))
			for k := range lines {
				swapped := slices.Clone(lines)
				swapped[i], swapped[k] = swapped[k], swapped[i]
				count(strings.Join(swapped, ""))
			}
			shorter := slices.Clone(lines)
			shorter[i] = line[3:]
			count(strings.Join(shorter, ""))
			longer := slices.Clone(lines)
			longer[i] = ".. " + line
			count(strings.Join(longer, ""))
		}
	}
	if texts < 1000 || others < 1000 {
		t.Errorf("%d changed texts are texts and %d are not", texts, others)
	}
}

// bayAnswers has what every function of chapter 9 that takes a bay says.
func bayAnswers(b impl.Bay, orders [][]int) []string {
	var all []string
	add := func(parts ...any) { all = append(all, fmt.Sprintln(parts...)) }
	add("valid", impl.IsValidBay(b))
	for row := -1; row <= min(len(b.Slots), 6); row++ {
		for _, n := range []int{-7, 0, 1, 50, 77, 88, 99, 100} {
			z, ok := impl.LoadBox(b, row, n)
			add("load", row, n, bayLabel(z), ok)
		}
		z, n, ok := impl.UnloadRow(b, row)
		add("unload", row, bayLabel(z), n, ok)
	}
	for _, n := range numbersToAsk(impl.Yard{Stacks: b.Slots}) {
		row, tier, ok := impl.SlotOf(b, n)
		add("slot", n, row, tier, ok)
	}
	for _, order := range orders {
		counts, ok := impl.OverstowsOf(b, order)
		add("overstows", counts, ok)
	}
	order, ok := impl.ClearOrder(b)
	add("clear", order, ok)
	balance, ok := impl.BayBalance(b)
	add("balance", balance, ok)
	s, ok := impl.BayText(b)
	add("text", s, ok)
	return all
}

// packedBays has the rows of a bay as parts of one array in several ways.
func packedBays(b impl.Bay) []packedYard { return packedYards(impl.Yard{Stacks: b.Slots}) }

// Rows and orders in arrays with something behind them are answered like separate ones, and
// none of them is changed.
func TestBaysLeaveTheirArgumentsAlone(t *testing.T) {
	for _, b := range append(sampleBays(), baySamples(193, 100, 20)...) {
		orders := bayOrders(b)
		want := bayAnswers(b, orders)
		var packed, arrays [][]int
		for _, order := range orders {
			part, array := withRoom(order, 88)
			packed, arrays = append(packed, part), append(arrays, array)
		}
		for _, p := range packedBays(b) {
			array, rows := slices.Clone(p.array), slices.Clone(p.rows)
			if got := bayAnswers(impl.Bay{High: b.High, Slots: p.yard.Stacks}, packed); !slices.Equal(got, want) {
				t.Errorf("the answers about %s in the array %v are others", bayLabel(b), array)
			}
			if !slices.Equal(p.array, array) || !slices.EqualFunc(p.rows, rows, sameMemory) {
				t.Fatalf("the bay %s is changed to %v", bayLabel(b), p.array)
			}
		}
		for i, array := range arrays {
			if !slices.Equal(array, append(slices.Clone(orders[i]), 88, 88, 88)) {
				t.Errorf("the order %v is changed to %v", orders[i], array)
			}
		}
	}
}

func TestInvalidBaysAndOrdersAreLeftAlone(t *testing.T) {
	for name, b := range invalidBays() {
		before, rows := copyOfBay(b), slices.Clone(b.Slots)
		bayAnswers(b, [][]int{{1, 2}})
		if bayLabel(b) != bayLabel(before) || !slices.EqualFunc(b.Slots, rows, sameMemory) {
			t.Errorf("%s: the bay is changed", name)
		}
	}
	for name, order := range invalidUnloadings() {
		b, before := bayFrom(3, "1 2 3,4 5 6,7 8 9,"), slices.Clone(order)
		bayAnswers(b, [][]int{order})
		if rowsText(b) != "1 2 3,4 5 6,7 8 9," || !slices.Equal(order, before) {
			t.Errorf("%s: an argument is changed", name)
		}
	}
}

func TestRowsOfOneArray(t *testing.T) {
	array := []int{1, 2, 3, 4, 5, 6, 7}
	b := impl.Bay{High: 3, Slots: [][]int{array[:2], array[2:2], array[2:3], array[3:5]}}
	wantLoaded(t, b, 0, 9, "1 2 9,,3,4 5")
	wantLoaded(t, b, 1, 9, "1 2,9,3,4 5")
	wantLoaded(t, b, 2, 9, "1 2,,3 9,4 5")
	wantLoaded(t, b, 3, 6, "1 2,,3,4 5 6")
	wantUnloaded(t, b, 0, 2, "1,,3,4 5")
	wantUnloaded(t, b, 2, 3, "1 2,,,4 5")
	wantNoUnloaded(t, b, 1)
	wantNoSlot(t, b, 6)
	wantOverstows(t, b, array[:5], 1, 0, 0, 1, 0)
	wantNoOverstows(t, "six numbers", b, array[:6])
	wantClear(t, b, 2, 1, 3, 5, 4)
	wantBalance(t, b, 1)
	wantText(t, b, ".. .. .. ..\n02 .. .. 05\n01 .. 03 04\n")
	// The same memory may be a row and an order.
	wantOverstows(t, b, array[3:5], 1, 0)
	if !slices.Equal(array, []int{1, 2, 3, 4, 5, 6, 7}) {
		t.Errorf("the array is changed to %v", array)
	}
}

// newBayLists calls every function of chapter 9 that returns slices and returns all of them, the
// lists of rows apart.
func newBayLists(b impl.Bay, orders [][]int) ([][]int, [][][]int) {
	var lists [][]int
	var rows [][][]int
	keep := func(z impl.Bay) { lists, rows = append(lists, z.Slots...), append(rows, z.Slots) }
	for row := range b.Slots {
		z, _ := impl.LoadBox(b, row, 77)
		keep(z)
		z, _, _ = impl.UnloadRow(b, row)
		keep(z)
	}
	for _, order := range orders {
		counts, _ := impl.OverstowsOf(b, order)
		lists = append(lists, counts)
	}
	order, _ := impl.ClearOrder(b)
	z, _ := impl.ParseBay(textByCells(b))
	keep(z)
	return append(lists, order), rows
}

func TestResultsAboutBaysAreNew(t *testing.T) {
	for _, b := range append(sampleBays(), baySamples(197, 100, 20)...) {
		orders := bayOrders(b)
		for _, p := range packedBays(b) {
			lists, rows := newBayLists(impl.Bay{High: b.High, Slots: p.yard.Stacks}, orders)
			again, rowsAgain := newBayLists(impl.Bay{High: b.High, Slots: p.yard.Stacks}, orders)
			if sharesElement(append(slices.Concat(lists, again), p.array)...) {
				t.Fatalf("results for %s share numbers", bayLabel(b))
			}
			if sharesElement(append(slices.Concat(rows, rowsAgain), p.rows)...) {
				t.Fatalf("results for %s share lists of rows", bayLabel(b))
			}
			for _, order := range orders {
				if sharesElement(append(slices.Clone(lists), order)...) {
					t.Fatalf("results for %s share numbers with an order", bayLabel(b))
				}
			}
		}
	}
}

func TestResultsAboutBaysStayWhenArgumentsChange(t *testing.T) {
	for _, b := range append(sampleBays(), baySamples(199, 100, 20)...) {
		for _, p := range packedBays(b) {
			var orders [][]int
			for _, order := range bayOrders(b) {
				orders = append(orders, slices.Clone(order))
			}
			lists, _ := newBayLists(impl.Bay{High: b.High, Slots: p.yard.Stacks}, orders)
			want := copyOfYard(impl.Yard{Stacks: lists}).Stacks
			spoil(p.array)
			clear(p.rows)
			for _, order := range orders {
				spoil(order)
			}
			if !slices.EqualFunc(lists, want, slices.Equal[[]int]) {
				t.Fatalf("a change of %s changes a result", bayLabel(b))
			}
		}
	}
}

// A result that is changed does not change what is said later.
func TestChangedResultsAboutBaysChangeNoOther(t *testing.T) {
	for _, b := range append(sampleBays(), baySamples(211, 100, 20)...) {
		orders := bayOrders(b)
		want := bayAnswers(b, orders)
		lists, rows := newBayLists(b, orders)
		for _, list := range lists {
			spoil(list)
		}
		for _, row := range rows {
			clear(row)
		}
		if got := bayAnswers(b, orders); !slices.Equal(got, want) {
			t.Fatalf("the answers about %s are others the second time", bayLabel(b))
		}
	}
}
