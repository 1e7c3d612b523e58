package tests

import (
	"fmt"
	"math"
	"regexp"
	"slices"
	"strconv"
	"strings"
	"testing"

	"loop.example/g00906/impl"
)

// cargoFrom reads a list of containers: "s10p l7r" is a small plain one of 10 kilograms and a
// large reefer of 7; d is dangerous.
func cargoFrom(s string) []impl.Container {
	list := []impl.Container{}
	for _, word := range strings.Fields(s) {
		weight, err := strconv.Atoi(word[1 : len(word)-1])
		if err != nil {
			panic("no containers: " + s)
		}
		list = append(list, cargoBox(len(list), 1+strings.Index("sl", word[:1]), weight, 1+strings.Index("prd", word[len(word)-1:])))
	}
	return list
}

// cargoBox returns a container with the Id of an index; others have another one.
func cargoBox(i int, size int, weight int, cargo int) impl.Container {
	serial := fmt.Sprintf("YRD%04d", 50-i)
	return impl.Container{Id: serial + checkByTable(serial), Size: size, Weight: weight, Cargo: cargo, Port: 1 + i%9}
}

// findingsText writes each finding as its rule, stack and tier: "1@0.2 4@1.0".
func findingsText(list []impl.YardFinding) string {
	var parts []string
	for _, x := range list {
		parts = append(parts, fmt.Sprintf("%d@%d.%d", x.Rule, x.Stack, x.Tier))
	}
	return strings.Join(parts, " ")
}

// findingsByRule asks for every rule at every place, as an oracle.
func findingsByRule(y impl.Yard, list []impl.Container, plugs int) []impl.YardFinding {
	all := []impl.YardFinding{}
	for stack, numbers := range y.Stacks {
		for tier := range numbers {
			for rule := 1; rule <= 4; rule++ {
				if breaksByRule(numbers[:tier+1], list, stack < plugs, rule) {
					all = append(all, impl.YardFinding{Rule: rule, Stack: stack, Tier: tier})
				}
			}
		}
	}
	return all
}

// breaksByRule reports whether the highest one of some numbers breaks a rule.
func breaksByRule(numbers []int, list []impl.Container, power bool, rule int) bool {
	tier := len(numbers) - 1
	x := list[numbers[tier]-1]
	switch rule {
	case 1:
		return tier > 0 && list[numbers[tier-1]-1].Weight < x.Weight
	case 2:
		return tier > 0 && list[numbers[tier-1]-1].Size != x.Size
	case 3:
		return tier > 0 && x.Cargo == 3
	}
	return x.Cargo == 2 && !power
}

// allowedByRule asks for every rule on every stack that is not full, as an oracle.
func allowedByRule(y impl.Yard, list []impl.Container, plugs int, n int) []int {
	allowed := []int{}
	for stack, numbers := range y.Stacks {
		raised := append(slices.Clone(numbers), n)
		fine := len(numbers) < 4
		for rule := 1; rule <= 4; rule++ {
			fine = fine && !breaksByRule(raised, list, stack < plugs, rule)
		}
		if fine {
			allowed = append(allowed, stack)
		}
	}
	return allowed
}

// helpfulByRule makes every move by hand and counts the findings, as an oracle.
func helpfulByRule(y impl.Yard, list []impl.Container, plugs int) [][]int {
	moves := [][]int{}
	for a, stack := range y.Stacks {
		for b := range y.Stacks {
			if len(stack) == 0 {
				continue
			}
			z, ok := stepByHand(y, impl.Step{Box: stack[len(stack)-1], To: b})
			if ok && len(findingsByRule(z, list, plugs)) < len(findingsByRule(y, list, plugs)) {
				moves = append(moves, []int{a, b})
			}
		}
	}
	return moves
}

// worstByRule counts in one stack after the other, as an oracle.
func worstByRule(y impl.Yard, list []impl.Container, plugs int) (int, int) {
	worst, most := 0, 0
	for stack := range y.Stacks {
		count := 0
		for _, x := range findingsByRule(y, list, plugs) {
			if x.Stack == stack {
				count++
			}
		}
		if count > most {
			worst, most = stack, count
		}
	}
	return worst, most
}

// isFindingByRule says which findings are valid, as an oracle.
func isFindingByRule(x impl.YardFinding) bool {
	switch x.Rule {
	case 1, 2, 3:
		return slices.Contains([]int{0, 1, 2, 3, 4, 5}, x.Stack) && slices.Contains([]int{1, 2, 3}, x.Tier)
	case 4:
		return slices.Contains([]int{0, 1, 2, 3, 4, 5}, x.Stack) && slices.Contains([]int{0, 1, 2, 3}, x.Tier)
	}
	return false
}

// sentenceByRule returns the sentence of the document with any numbers.
func sentenceByRule(x impl.YardFinding) string {
	sentence := map[int]string{
		1: "The container in stack S, tier T is heavier than the one below.",
		2: "The container in stack S, tier T has another size than the one below.",
		3: "The container in stack S, tier T must stand on the ground.",
		4: "The container in stack S, tier T needs power.",
	}[x.Rule]
	return strings.NewReplacer("S", strconv.Itoa(x.Stack), "tier T", "tier "+strconv.Itoa(x.Tier)).Replace(sentence)
}

var findingShape = regexp.MustCompile(`\AThe container in stack [0-5], tier ([1-3] (is heavier than the one below|has another size than the one below|must stand on the ground)|[0-3] needs power)\.\z`)

// validFindings returns all valid findings.
func validFindings() []impl.YardFinding {
	var all []impl.YardFinding
	for rule := 1; rule <= 4; rule++ {
		for stack := range 6 {
			for tier := range 4 {
				if tier > 0 || rule == 4 {
					all = append(all, impl.YardFinding{Rule: rule, Stack: stack, Tier: tier})
				}
			}
		}
	}
	return all
}

// ruledYard is what the functions of chapter 7 are asked about.
type ruledYard struct {
	yard  impl.Yard
	list  []impl.Container
	plugs int
}

func (r ruledYard) String() string {
	return fmt.Sprintf("%s with %v and %d plugs", yardText(r.yard), r.list, r.plugs)
}

// mixedRuledYard has containers that often have equal weights, of which some stand in the yard.
func mixedRuledYard(next func(n int) int) ruledYard {
	r := ruledYard{yard: impl.Yard{Stacks: make([][]int, 1+next(6))}, plugs: next(7)}
	var numbers []int
	for i := range next(13) {
		r.list = append(r.list, cargoBox(i, 1+next(2), 1+next(5), 1+next(3)))
		numbers = append(numbers, i+1)
	}
	for range next(len(numbers) + 1) {
		i := next(len(r.yard.Stacks))
		if len(r.yard.Stacks[i]) < 4 {
			k := next(len(numbers))
			r.yard.Stacks[i] = append(r.yard.Stacks[i], numbers[k])
			numbers = slices.Delete(numbers, k, k+1)
		}
	}
	return r
}

// ruledSamples has mixed yards, and ones at the limits.
func ruledSamples(count int) []ruledYard {
	next := dice(31)
	var all []ruledYard
	for range count {
		all = append(all, mixedRuledYard(next))
	}
	twelve := cargoFrom("s5p s5p s4p l9r l8r l8d l8d s1d s1p s1r s2r s3d")
	for plugs := range 7 {
		all = append(all,
			ruledYard{yardFrom(","), twelve, plugs},
			ruledYard{yardFrom(",,,,,"), nil, plugs},
			ruledYard{yardFrom("1 2 3 12,4 5 6 7,8 9 10 11"), twelve, plugs},
			ruledYard{yardFrom("12 11 10 9,8 7 6 5,4 3 2 1"), twelve, plugs},
			ruledYard{yardFrom("1,2,3,4,5,6"), twelve, plugs},
			ruledYard{yardFrom("1 12,2 11,3 10,4 9,5 8,6 7"), twelve, plugs},
			ruledYard{yardFrom("1 2 3 4"), twelve, plugs})
	}
	return all
}

func wantFindings(t *testing.T, yard string, cargo string, plugs int, want string) {
	t.Helper()
	findings, ok := impl.YardFindings(yardFrom(yard), cargoFrom(cargo), plugs)
	if !ok || findingsText(findings) != want {
		t.Errorf("YardFindings of %s with %s and %d plugs = %s, %v, want %s", yard, cargo, plugs, findingsText(findings), ok, want)
	}
	keeps, ok := impl.KeepsYardRules(yardFrom(yard), cargoFrom(cargo), plugs)
	if !ok || keeps != (want == "") {
		t.Errorf("KeepsYardRules of %s with %s and %d plugs = %v, %v", yard, cargo, plugs, keeps, ok)
	}
}

func wantAllowed(t *testing.T, yard string, cargo string, plugs int, n int, want ...int) {
	t.Helper()
	stacks, ok := impl.AllowedStacks(yardFrom(yard), cargoFrom(cargo), plugs, n)
	if !ok || !slices.Equal(stacks, want) {
		t.Errorf("AllowedStacks for %d in %s with %s and %d plugs = %v, %v, want %v", n, yard, cargo, plugs, stacks, ok, want)
	}
}

func wantNoAllowed(t *testing.T, y impl.Yard, list []impl.Container, plugs int, n int) {
	t.Helper()
	if stacks, ok := impl.AllowedStacks(y, list, plugs, n); ok || len(stacks) != 0 {
		t.Errorf("AllowedStacks for %d in %s with %d containers and %d plugs = %v, %v", n, yardText(y), len(list), plugs, stacks, ok)
	}
}

func wantCounts(t *testing.T, yard string, cargo string, plugs int, want ...int) {
	t.Helper()
	counts, ok := impl.CountFindings(yardFrom(yard), cargoFrom(cargo), plugs)
	if !ok || !slices.Equal(counts, want) {
		t.Errorf("CountFindings of %s with %s and %d plugs = %v, %v, want %v", yard, cargo, plugs, counts, ok, want)
	}
}

func wantWorst(t *testing.T, yard string, cargo string, plugs int, stack int, count int) {
	t.Helper()
	worst, most, ok := impl.WorstStack(yardFrom(yard), cargoFrom(cargo), plugs)
	if !ok || worst != stack || most != count {
		t.Errorf("WorstStack of %s with %s and %d plugs = %d, %d, %v, want %d, %d", yard, cargo, plugs, worst, most, ok, stack, count)
	}
}

// wantMoves wants moves written like the stacks of a yard: "0 1,2 0".
func wantMoves(t *testing.T, yard string, cargo string, plugs int, want string) {
	t.Helper()
	moves, ok := impl.HelpfulMoves(yardFrom(yard), cargoFrom(cargo), plugs)
	if got := yardText(impl.Yard{Stacks: moves}); !ok || got != want {
		t.Errorf("HelpfulMoves of %s with %s and %d plugs = %s, %v, want %s", yard, cargo, plugs, got, ok, want)
	}
}

const noMoves = "no stack"

// wantUnruled wants zero values of every function that takes a yard.
func wantUnruled(t *testing.T, name string, y impl.Yard, list []impl.Container, plugs int) {
	t.Helper()
	if findings, ok := impl.YardFindings(y, list, plugs); ok || len(findings) != 0 {
		t.Errorf("%s: YardFindings = %s, %v", name, findingsText(findings), ok)
	}
	if keeps, ok := impl.KeepsYardRules(y, list, plugs); ok || keeps {
		t.Errorf("%s: KeepsYardRules = %v, %v", name, keeps, ok)
	}
	if counts, ok := impl.CountFindings(y, list, plugs); ok || len(counts) != 0 {
		t.Errorf("%s: CountFindings = %v, %v", name, counts, ok)
	}
	if worst, most, ok := impl.WorstStack(y, list, plugs); ok || worst != 0 || most != 0 {
		t.Errorf("%s: WorstStack = %d, %d, %v", name, worst, most, ok)
	}
	if moves, ok := impl.HelpfulMoves(y, list, plugs); ok || len(moves) != 0 {
		t.Errorf("%s: HelpfulMoves = %v, %v", name, moves, ok)
	}
	for n := -1; n <= 14; n++ {
		if stacks, ok := impl.AllowedStacks(y, list, plugs, n); ok || len(stacks) != 0 {
			t.Errorf("%s: AllowedStacks for %d = %v, %v", name, n, stacks, ok)
		}
	}
}

// wantRuled compares what every function that takes a yard says with the oracles.
func wantRuled(t *testing.T, r ruledYard) {
	t.Helper()
	want := findingsByRule(r.yard, r.list, r.plugs)
	findings, ok := impl.YardFindings(r.yard, r.list, r.plugs)
	if !ok || !slices.Equal(findings, want) {
		t.Errorf("YardFindings of %v = %s, %v, want %s", r, findingsText(findings), ok, findingsText(want))
	}
	if keeps, ok := impl.KeepsYardRules(r.yard, r.list, r.plugs); !ok || keeps != (len(want) == 0) {
		t.Errorf("KeepsYardRules of %v = %v, %v with the findings %s", r, keeps, ok, findingsText(want))
	}
	perRule := make([]int, 4)
	for _, x := range want {
		perRule[x.Rule-1]++
	}
	if counts, ok := impl.CountFindings(r.yard, r.list, r.plugs); !ok || !slices.Equal(counts, perRule) {
		t.Errorf("CountFindings of %v = %v, %v, want %v", r, counts, ok, perRule)
	}
	worst, most, ok := impl.WorstStack(r.yard, r.list, r.plugs)
	if stack, count := worstByRule(r.yard, r.list, r.plugs); !ok || worst != stack || most != count {
		t.Errorf("WorstStack of %v = %d, %d, %v, want %d, %d", r, worst, most, ok, stack, count)
	}
	moves, ok := impl.HelpfulMoves(r.yard, r.list, r.plugs)
	if want := helpfulByRule(r.yard, r.list, r.plugs); !ok || !slices.EqualFunc(moves, want, slices.Equal[[]int]) {
		t.Errorf("HelpfulMoves of %v = %v, %v, want %v", r, moves, ok, want)
	}
	for n := range 14 {
		if n == 0 || n > len(r.list) || slices.Contains(numbersOf(r.yard), n) {
			wantNoAllowed(t, r.yard, r.list, r.plugs, n)
			continue
		}
		stacks, ok := impl.AllowedStacks(r.yard, r.list, r.plugs, n)
		if want := allowedByRule(r.yard, r.list, r.plugs, n); !ok || !slices.Equal(stacks, want) {
			t.Errorf("AllowedStacks for %d in %v = %v, %v, want %v", n, r, stacks, ok, want)
		}
	}
}

func TestConstantsOfTheRules(t *testing.T) {
	rules := []int{impl.RuleHeavy, impl.RuleSize, impl.RuleDanger, impl.RuleReefer}
	if !slices.Equal(rules, []int{1, 2, 3, 4}) {
		t.Errorf("the rules are %v", rules)
	}
}

func TestFindingsOfOneRule(t *testing.T) {
	// The weight of the container directly below counts, not that of a lower one.
	wantFindings(t, "1 2", "s10p s11p", 0, "1@0.1")
	wantFindings(t, "2 1", "s10p s11p", 0, "")
	wantFindings(t, "1 2", "s10p s10p", 0, "")
	wantFindings(t, "1 2 3 4", "s10p s10p s10p s10p", 0, "")
	wantFindings(t, "1 2", "s1p s32000p", 0, "1@0.1")
	wantFindings(t, "1 2", "s32000p s1p", 0, "")
	wantFindings(t, "1 2", "s31999p s32000p", 0, "1@0.1")
	wantFindings(t, "1 2 3", "s10p s5p s7p", 0, "1@0.2")
	wantFindings(t, "1 2 3", "s5p s9p s7p", 0, "1@0.1")
	wantFindings(t, "1 2 3 4", "s1p s2p s3p s4p", 0, "1@0.1 1@0.2 1@0.3")
	wantFindings(t, "4 3 2 1", "s1p s2p s3p s4p", 0, "")
	wantFindings(t, "1,2", "s1p s2p", 0, "")

	wantFindings(t, "1 2", "s10p l10p", 0, "2@0.1")
	wantFindings(t, "2 1", "s10p l10p", 0, "2@0.1")
	wantFindings(t, "1 2", "l10p l10p", 0, "")
	wantFindings(t, "1 2 3", "s10p l10p s10p", 0, "2@0.1 2@0.2")
	wantFindings(t, "1 3 2", "s10p l10p s10p", 0, "2@0.2")
	wantFindings(t, "1,2", "s10p l10p", 0, "")

	wantFindings(t, "1", "s10d", 0, "")
	wantFindings(t, "1 2", "s10p s10d", 0, "3@0.1")
	wantFindings(t, "2 1", "s10p s10d", 0, "")
	wantFindings(t, "1 2", "s10d s10d", 0, "3@0.1")
	wantFindings(t, "1 2 3 4", "s10d s10d s10p s10d", 0, "3@0.1 3@0.3")
	wantFindings(t, "1,2", "s10d s10d", 0, "")

	wantFindings(t, "1", "s10r", 0, "4@0.0")
	wantFindings(t, "1", "s10r", 1, "")
	wantFindings(t, "1 2", "s10p s10r", 0, "4@0.1")
	wantFindings(t, "1 2", "s10p s10r", 1, "")
	wantFindings(t, "1 2", "s10r s10p", 0, "4@0.0")
	wantFindings(t, "1 2 3 4", "s10r s10r s10r s10r", 0, "4@0.0 4@0.1 4@0.2 4@0.3")
	wantFindings(t, "1,2", "s10r s10r", 1, "4@1.0")
}

func TestFindingsOfSeveralRules(t *testing.T) {
	wantFindings(t, "1 2", "s10p l11d", 0, "1@0.1 2@0.1 3@0.1")
	wantFindings(t, "1 2", "s10p l11r", 0, "1@0.1 2@0.1 4@0.1")
	wantFindings(t, "1 2", "s10p l11r", 1, "1@0.1 2@0.1")
	wantFindings(t, "1 2", "s10p s11d", 0, "1@0.1 3@0.1")
	wantFindings(t, "1 2", "s10p s11r", 0, "1@0.1 4@0.1")
	wantFindings(t, "1 2", "s10p l10d", 0, "2@0.1 3@0.1")
	wantFindings(t, "1 2", "s10p l10r", 0, "2@0.1 4@0.1")
	wantFindings(t, "1 2", "l11d s10d", 0, "2@0.1 3@0.1")
	wantFindings(t, "1 2 3,,4 5", "s1r l2r s3d l4p s5d", 0, "4@0.0 1@0.1 2@0.1 4@0.1 1@0.2 2@0.2 3@0.2 1@2.1 2@2.1 3@2.1")
	wantFindings(t, "1 2 3,,4 5", "s1r l2r s3d l4p s5d", 1, "1@0.1 2@0.1 1@0.2 2@0.2 3@0.2 1@2.1 2@2.1 3@2.1")
	wantFindings(t, "4 5,,1 2 3", "s1r l2r s3d l4p s5d", 2, "1@0.1 2@0.1 3@0.1 4@2.0 1@2.1 2@2.1 4@2.1 1@2.2 2@2.2 3@2.2")
	wantFindings(t, "3 2 1,5 4,", "s1r l2r s3d l4p s5d", 0, "2@0.1 4@0.1 2@0.2 4@0.2 2@1.1")
}

func TestYardsWithoutANumberHaveNoFinding(t *testing.T) {
	for stacks := 1; stacks <= 6; stacks++ {
		yard := strings.Repeat(",", stacks-1)
		for plugs := range 7 {
			for _, cargo := range []string{"", "s1r", "s1d l2r s3d l4r s5d l6r s7d l8r s9d l10r s11d l12r"} {
				wantFindings(t, yard, cargo, plugs, "")
				wantCounts(t, yard, cargo, plugs, 0, 0, 0, 0)
				wantWorst(t, yard, cargo, plugs, 0, 0)
				wantMoves(t, yard, cargo, plugs, noMoves)
			}
		}
	}
	if findings, ok := impl.YardFindings(impl.Yard{Stacks: make([][]int, 3)}, nil, 0); !ok || len(findings) != 0 {
		t.Errorf("YardFindings without a container = %v, %v", findings, ok)
	}
}

// Plugs are counted from the first stack, and there may be more of them than stacks.
func TestStacksWithAndWithoutPower(t *testing.T) {
	for stacks := 1; stacks <= 6; stacks++ {
		for height := 1; height*stacks <= 12 && height <= 4; height++ {
			r := ruledYard{list: cargoFrom(strings.Repeat("s5r ", 12))}
			for i := range stacks {
				stack := []int{}
				for tier := range height {
					stack = append(stack, 1+tier*stacks+i)
				}
				r.yard.Stacks = append(r.yard.Stacks, stack)
			}
			for r.plugs = range 7 {
				want := []impl.YardFinding{}
				for i := r.plugs; i < stacks; i++ {
					for tier := range height {
						want = append(want, impl.YardFinding{Rule: 4, Stack: i, Tier: tier})
					}
				}
				findings, ok := impl.YardFindings(r.yard, r.list, r.plugs)
				if !ok || !slices.Equal(findings, want) {
					t.Errorf("YardFindings of %v = %s, %v", r, findingsText(findings), ok)
				}
			}
			for _, plugs := range []int{-1, 7} {
				wantUnruled(t, fmt.Sprint(plugs, " plugs"), r.yard, r.list, plugs)
			}
		}
	}
}

func TestInvalidNumbersOfPlugs(t *testing.T) {
	for _, plugs := range []int{-1, 7, 8, -6, 12, 1 << 32, -1 << 32, math.MaxInt, math.MinInt} {
		for _, yard := range []string{"", "1", ",", "1 2,3", "1,2,3,4,5,6", "1 2 3 4"} {
			wantUnruled(t, fmt.Sprint(plugs, " plugs"), yardFrom(yard), cargoFrom("s6p s5p s4p s3p s2p s1p"), plugs)
		}
		wantUnruled(t, fmt.Sprint(plugs, " plugs and no container"), yardFrom(""), nil, plugs)
	}
}

// The number n stands for the element n - 1, and there may be more containers than numbers.
func TestNumbersStandForContainers(t *testing.T) {
	for count := range 13 {
		list := cargoFrom("s9p l8r s7d l6p s5r l4d s3p l2r s1d l1p s2r l3d")[:count]
		for n := 1; n <= 99; n++ {
			for _, yard := range []string{"%d", ",%d", "%d,"} {
				y := yardFrom(fmt.Sprintf(yard, n))
				if n > count {
					wantUnruled(t, fmt.Sprintf("number %d of %d containers", n, count), y, list, 0)
				} else {
					wantRuled(t, ruledYard{y, list, 0})
				}
			}
		}
	}
	wantFindings(t, "3 1", "s5p l9r s4d", 0, "1@0.1")
	wantFindings(t, "2 3", "s5p l9r s4d", 0, "4@0.0 2@0.1 3@0.1")
	wantFindings(t, "12 11,10", "s1p s1p s1p s1p s1p s1p s1p s1p s1p l1r s3d s2r", 0, "4@0.0 1@0.1 3@0.1 4@1.0")
}

func TestNumbersWithoutContainers(t *testing.T) {
	four := cargoFrom("s9p s8p s7p s6p")
	for _, yard := range []string{
		"5", "5,1", "1,5", "1 5", "5 1", "1 2 3 5", "1,2,3,4,,5", "99", "1 2,3 4,99", "6 5", "13,12,11,10", "1 2 3 4,5",
	} {
		wantUnruled(t, yard+" of four containers", yardFrom(yard), four, 2)
	}
	for _, yard := range []string{"1", "1 2", ",,2", "99", "1 2 3 4"} {
		wantUnruled(t, yard+" without a container", yardFrom(yard), nil, 2)
		wantUnruled(t, yard+" with an empty list", yardFrom(yard), []impl.Container{}, 2)
	}
	for _, yard := range []string{"13", "1 13", "12 11 10 13", "1,2,3,4,5 6 7,13"} {
		wantUnruled(t, yard+" of twelve containers", yardFrom(yard), boxes(12), 6)
	}
	wantFindings(t, "1 2 3 4", "s9p s8p s7p s6p", 2, "")
	wantFindings(t, "4", "s9p s8p s7p s6p", 2, "")
	wantFindings(t, "12", "s1p s1p s1p s1p s1p s1p s1p s1p s1p s1p s1p s1p", 0, "")
}

// All pairs of containers that differ in what the rules look at.
func TestFindingsOfAllPairsOfContainers(t *testing.T) {
	var kinds []impl.Container
	for size := 1; size <= 2; size++ {
		for weight := 1; weight <= 3; weight++ {
			for cargo := 1; cargo <= 3; cargo++ {
				kinds = append(kinds, impl.Container{Size: size, Weight: weight, Cargo: cargo})
			}
		}
	}
	for _, a := range kinds {
		for _, b := range kinds {
			list := []impl.Container{cargoBox(0, a.Size, a.Weight, a.Cargo), cargoBox(1, b.Size, b.Weight, b.Cargo)}
			for _, yard := range []string{"", ",", "1,", ",1", "2,", ",2", "1 2", "2 1", ",1 2", ",2 1", "1,2", "2,1"} {
				for plugs := range 3 {
					wantRuled(t, ruledYard{yardFrom(yard), list, plugs})
				}
			}
		}
	}
}

func TestRulesOfManyYards(t *testing.T) {
	for _, r := range ruledSamples(4000) {
		wantRuled(t, r)
	}
}

// The findings are distinct, in order and valid, and their sentences are recovered.
func TestFindingsOfManyYardsAreRecovered(t *testing.T) {
	for _, r := range ruledSamples(1000) {
		findings, ok := impl.YardFindings(r.yard, r.list, r.plugs)
		if !ok {
			t.Fatalf("no findings of %v", r)
		}
		for i, x := range findings {
			if i > 0 {
				before := findings[i-1]
				if slices.Compare([]int{before.Stack, before.Tier, before.Rule}, []int{x.Stack, x.Tier, x.Rule}) >= 0 {
					t.Errorf("the findings of %v are %s", r, findingsText(findings))
				}
			}
			wantRecoveredFinding(t, x)
		}
	}
}

func TestFindingsAreCountedByRuleAndByStack(t *testing.T) {
	for _, r := range ruledSamples(1000) {
		findings, _ := impl.YardFindings(r.yard, r.list, r.plugs)
		counts, ok := impl.CountFindings(r.yard, r.list, r.plugs)
		sum := 0
		for _, count := range counts {
			sum += count
		}
		if !ok || len(counts) != 4 || sum != len(findings) {
			t.Errorf("the counts of %v are %v for %d findings", r, counts, len(findings))
		}
		keeps, ok := impl.KeepsYardRules(r.yard, r.list, r.plugs)
		if !ok || keeps != (len(findings) == 0) {
			t.Errorf("KeepsYardRules of %v = %v, %v for %d findings", r, keeps, ok, len(findings))
		}
		_, most, ok := impl.WorstStack(r.yard, r.list, r.plugs)
		if !ok || most > len(findings) || most*len(r.yard.Stacks) < len(findings) {
			t.Errorf("the worst stack of %v has %d of %d findings, %v", r, most, len(findings), ok)
		}
	}
}

// A container on an allowed stack adds no finding, and one on another stack with room does.
func TestContainersOnAllowedStacksAddNoFinding(t *testing.T) {
	for _, r := range ruledSamples(1500) {
		before, _ := impl.YardFindings(r.yard, r.list, r.plugs)
		for n := 1; n <= len(r.list); n++ {
			allowed, ok := impl.AllowedStacks(r.yard, r.list, r.plugs, n)
			if ok == slices.Contains(numbersOf(r.yard), n) {
				t.Errorf("AllowedStacks for %d in %v = %v, %v", n, r, allowed, ok)
			}
			for stack := range r.yard.Stacks {
				z, room := impl.PutBox(r.yard, stack, n)
				if !ok || !room {
					if slices.Contains(allowed, stack) {
						t.Errorf("stack %d is allowed for %d in %v", stack, n, r)
					}
					continue
				}
				after, _ := impl.YardFindings(z, r.list, r.plugs)
				if slices.Contains(allowed, stack) != (len(after) == len(before)) {
					t.Errorf("for %d in %v are allowed %v, on stack %d there are %d findings, before %d", n, r, allowed, stack, len(after), len(before))
				}
			}
		}
	}
}

// Every helpful move makes the findings fewer, and no other move that can be made does.
func TestHelpfulMovesMakeTheFindingsFewer(t *testing.T) {
	helpful, equal, harmful := 0, 0, 0
	for _, r := range ruledSamples(1500) {
		before, _ := impl.YardFindings(r.yard, r.list, r.plugs)
		moves, ok := impl.HelpfulMoves(r.yard, r.list, r.plugs)
		if !ok || !slices.IsSortedFunc(moves, slices.Compare[[]int]) {
			t.Errorf("HelpfulMoves of %v = %v, %v", r, moves, ok)
		}
		made := 0
		for a := range r.yard.Stacks {
			for b := range r.yard.Stacks {
				z, _, ok := impl.MoveTop(r.yard, a, b)
				if !ok {
					continue
				}
				after, _ := impl.YardFindings(z, r.list, r.plugs)
				listed := slices.ContainsFunc(moves, func(m []int) bool { return slices.Equal(m, []int{a, b}) })
				if listed != (len(after) < len(before)) {
					t.Errorf("HelpfulMoves of %v = %v, but from %d to %d there are %d findings, before %d", r, moves, a, b, len(after), len(before))
				}
				switch {
				case len(after) < len(before):
					made++
					helpful++
				case len(after) == len(before):
					equal++
				default:
					harmful++
				}
			}
		}
		if len(moves) != made {
			t.Errorf("HelpfulMoves of %v = %v, but %d moves help", r, moves, made)
		}
	}
	if helpful < 100 || equal < 100 || harmful < 100 {
		t.Errorf("only %d, %d and %d moves are asked for", helpful, equal, harmful)
	}
}

func TestYardFindingText(t *testing.T) {
	for _, c := range []struct {
		finding impl.YardFinding
		want    string
	}{
		{impl.YardFinding{Rule: impl.RuleHeavy, Stack: 0, Tier: 1}, "The container in stack 0, tier 1 is heavier than the one below."},
		{impl.YardFinding{Rule: impl.RuleHeavy, Stack: 5, Tier: 3}, "The container in stack 5, tier 3 is heavier than the one below."},
		{impl.YardFinding{Rule: impl.RuleSize, Stack: 2, Tier: 3}, "The container in stack 2, tier 3 has another size than the one below."},
		{impl.YardFinding{Rule: impl.RuleDanger, Stack: 4, Tier: 2}, "The container in stack 4, tier 2 must stand on the ground."},
		{impl.YardFinding{Rule: impl.RuleReefer, Stack: 1, Tier: 0}, "The container in stack 1, tier 0 needs power."},
		{impl.YardFinding{Rule: impl.RuleReefer, Stack: 5, Tier: 3}, "The container in stack 5, tier 3 needs power."},
		{impl.YardFinding{Rule: impl.RuleReefer, Stack: 0, Tier: 0}, "The container in stack 0, tier 0 needs power."},
	} {
		if s, ok := impl.YardFindingText(c.finding); !ok || s != c.want {
			t.Errorf("YardFindingText(%v) = %q, %v", c.finding, s, ok)
		}
		if x, ok := impl.ParseYardFinding(c.want); !ok || x != c.finding {
			t.Errorf("ParseYardFinding(%q) = %v, %v", c.want, x, ok)
		}
	}
}

func wantRecoveredFinding(t *testing.T, x impl.YardFinding) {
	t.Helper()
	s, ok := impl.YardFindingText(x)
	if !ok || s != sentenceByRule(x) || !findingShape.MatchString(s) {
		t.Errorf("YardFindingText(%v) = %q, %v", x, s, ok)
	}
	if got, ok := impl.ParseYardFinding(s); !ok || got != x {
		t.Errorf("ParseYardFinding(%q) = %v, %v, want %v", s, got, ok, x)
	}
}

func TestEveryValidFindingIsRecoveredFromItsSentence(t *testing.T) {
	met := map[string]bool{}
	for _, x := range validFindings() {
		wantRecoveredFinding(t, x)
		met[sentenceByRule(x)] = true
	}
	if len(met) != 3*6*3+6*4 {
		t.Errorf("%d sentences", len(met))
	}
}

// Every number around the limits for each of the three fields.
func TestInvalidFindingsHaveNoSentence(t *testing.T) {
	numbers := []int{math.MinInt, -1 << 32, 1 << 32, 1<<32 + 1, math.MaxInt, 10, 100}
	for n := -3; n <= 8; n++ {
		numbers = append(numbers, n)
	}
	for _, rule := range numbers {
		for _, stack := range numbers {
			for _, tier := range numbers {
				x := impl.YardFinding{Rule: rule, Stack: stack, Tier: tier}
				if isFindingByRule(x) {
					wantRecoveredFinding(t, x)
				} else if s, ok := impl.YardFindingText(x); ok || s != "" {
					t.Errorf("YardFindingText(%v) = %q, %v", x, s, ok)
				}
			}
		}
	}
}

func wantNoFinding(t *testing.T, s string) {
	t.Helper()
	if x, ok := impl.ParseYardFinding(s); ok || x != (impl.YardFinding{}) {
		t.Errorf("ParseYardFinding(%.90q) = %v, %v", s, x, ok)
	}
}

// wantFindingIfSentence wants a finding exactly for the sentences.
func wantFindingIfSentence(t *testing.T, s string) {
	t.Helper()
	if !findingShape.MatchString(s) {
		wantNoFinding(t, s)
		return
	}
	x, ok := impl.ParseYardFinding(s)
	if text, fine := impl.YardFindingText(x); !ok || !fine || text != s || sentenceByRule(x) != s {
		t.Errorf("ParseYardFinding(%q) = %v, %v", s, x, ok)
	}
}

func TestParseYardFindingRejects(t *testing.T) {
	for _, s := range []string{
		"", " ", ".", "\x00", "The container in stack ", "The container in stack , tier ", "needs power.", " needs power.",
		"The container in stack 1, tier 0 needs power", "The container in stack 1, tier 0 needs power..",
		"The container in stack 1, tier 0 needs power!", "The container in stack 1, tier 0 needs power. ",
		"The container in stack 1, tier 0 needs power.\n", " The container in stack 1, tier 0 needs power.",
		"the container in stack 1, tier 0 needs power.", "The Container in stack 1, tier 0 needs power.",
		"THE CONTAINER IN STACK 1, TIER 0 NEEDS POWER.", "The container in stack 1, tier 0 needs Power.",
		"The container in stack 1, Tier 0 needs power.", "The container in stack 1, tier 0  needs power.",
		"The  container in stack 1, tier 0 needs power.", "The container in stack 1,  tier 0 needs power.",
		"The container in stack 1,tier 0 needs power.", "The container in stack 1 tier 0 needs power.",
		"The container in stack 1 , tier 0 needs power.", "The container in stack  1, tier 0 needs power.",
		"The container in stack1, tier 0 needs power.", "The container in stack 1, tier0 needs power.",
		"The container in stack 1, tier 0needs power.", "The container in stack 1, tier 0 needspower.",
		"The container in stack +1, tier 0 needs power.", "The container in stack -1, tier 0 needs power.",
		"The container in stack 1, tier +0 needs power.", "The container in stack 1, tier -0 needs power.",
		"The container in stack 1, tier -1 needs power.", "The container in stack -0, tier 0 needs power.",
		"The container in stack 01, tier 0 needs power.", "The container in stack 1, tier 00 needs power.",
		"The container in stack 1, tier 01 needs power.", "The container in stack 00, tier 0 needs power.",
		"The container in stack 6, tier 0 needs power.", "The container in stack 1, tier 4 needs power.",
		"The container in stack 10, tier 0 needs power.", "The container in stack 1, tier 10 needs power.",
		"The container in stack 9, tier 9 needs power.", "The container in stack 999999, tier 0 needs power.",
		"The container in stack 4294967297, tier 0 needs power.", "The container in stack 1, tier 18446744073709551616 needs power.",
		"The container in stack 0x1, tier 0 needs power.", "The container in stack 1_0, tier 0 needs power.",
		"The container in stack 1.0, tier 0 needs power.", "The container in stack one, tier zero needs power.",
		"The container in stack , tier 0 needs power.", "The container in stack 1, tier  needs power.",
		"The container in stack S, tier T needs power.", "The container in stack ١, tier 0 needs power.",
		"The container in stack 0, tier 0 is heavier than the one below.", "The container in stack 0, tier 0 must stand on the ground.",
		"The container in stack 0, tier 0 has another size than the one below.", "The container in stack 5, tier 0 must stand on the ground.",
		"The container in stack 6, tier 1 is heavier than the one below.", "The container in stack 0, tier 4 must stand on the ground.",
		"The container in stack 0, tier 1 is lighter than the one below.", "The container in stack 0, tier 1 is heavier than the one above.",
		"The container in stack 0, tier 1 is heavier.", "The container in stack 0, tier 1 has another size.",
		"The container in stack 0, tier 1 stands on the ground.", "The container in stack 0, tier 1 has no power.",
		"The container in stack 0, tier 1 is", "The container in stack 0, tier 1 .", "The container in stack 0, tier 1.",
		"The container in stack 0, tier 1", "The container in stack 0, tier 1 ", "The container in tier 1, stack 0 needs power.",
		"The container in stack 0, tier 1, tier 1 needs power.", "The container in stack 0, tier 1 needs power.needs power.",
		"The container in stack The container in stack 0, tier 1 needs power.", "0, tier 1 needs power.",
		"The container in stack 0, tier 1 needs power.The container in stack 0, tier 1 needs power.",
		"The container in stack 0, tier 1 must stand on the ground. needs power.", "A container in stack 0, tier 1 needs power.",
		"\ufeffThe container in stack 0, tier 1 needs power.", "The container in stack 0,\u00a0tier 1 needs power.",
		strings.Repeat("The container in stack 0, tier 1 needs power.", 1<<12), strings.Repeat(" ", 1<<20), strings.Repeat("0", 1<<20),
		"The container in stack " + strings.Repeat("0", 5000) + "1, tier 0 needs power.",
		"The container in stack 0, tier 1 needs power." + strings.Repeat(" ", 5000),
	} {
		wantNoFinding(t, s)
	}
}

func TestParseYardFindingWithAllNumbers(t *testing.T) {
	for stack := -20; stack <= 110; stack++ {
		for tier := -20; tier <= 110; tier++ {
			for rule := 1; rule <= 4; rule++ {
				wantFindingIfSentence(t, sentenceByRule(impl.YardFinding{Rule: rule, Stack: stack, Tier: tier}))
			}
		}
	}
}

// Every byte of a sentence is replaced, left out, doubled and exchanged with the next one, and
// every byte is put at every place.
func TestParseYardFindingWithEveryByteAtEveryPlace(t *testing.T) {
	for rule := 1; rule <= 4; rule++ {
		for _, x := range []impl.YardFinding{{Rule: rule, Stack: 0, Tier: 1}, {Rule: rule, Stack: 5, Tier: 3}, {Rule: rule, Stack: 3, Tier: 2}} {
			s := sentenceByRule(x)
			for i := range len(s) {
				for c := range 256 {
					wantFindingIfSentence(t, replaced(s, i, byte(c)))
					wantFindingIfSentence(t, s[:i]+string([]byte{byte(c)})+s[i:])
				}
				wantNoFinding(t, s[:i])
				wantNoFinding(t, s[i+1:])
				wantNoFinding(t, s[:i]+s[i+1:])
				wantNoFinding(t, s[:i]+s[i:i+1]+s[i:])
				if i > 0 && s[i] != s[i-1] {
					wantFindingIfSentence(t, s[:i-1]+s[i:i+1]+s[i-1:i]+s[i+1:])
				}
			}
		}
	}
}

// The beginning of one sentence with the end of another one.
func TestParseYardFindingOfMixedSentences(t *testing.T) {
	sentences := []string{}
	for _, x := range validFindings() {
		if x.Stack%5 == 0 && x.Tier != 2 {
			sentences = append(sentences, sentenceByRule(x))
		}
	}
	for _, a := range sentences {
		for _, b := range sentences {
			for i := 20; i <= len(a); i++ {
				wantFindingIfSentence(t, a[:i]+b[min(i, len(b)):])
				wantFindingIfSentence(t, a[:i]+b[max(0, len(b)-len(a)+i):])
			}
			wantNoFinding(t, a+b)
		}
	}
}

func TestAllowedStacks(t *testing.T) {
	// 1 to 4 are small ones from heavy to light, 5 is large, 6 a reefer, and 7 dangerous.
	const cargo = "s9p s8p s7p s6p l8p s5r s4d"
	wantAllowed(t, ",,", cargo, 0, 1, 0, 1, 2)
	wantAllowed(t, "1,2,", cargo, 0, 3, 0, 1, 2)
	wantAllowed(t, "1,3,", cargo, 0, 2, 0, 2)
	wantAllowed(t, "3,2", cargo, 0, 1)
	wantAllowed(t, "3,2,,", cargo, 0, 1, 2, 3)
	wantAllowed(t, "1 2 3 4,,", cargo, 0, 5, 1, 2)
	wantAllowed(t, "1 2 3,,", cargo, 0, 4, 0, 1, 2)
	wantAllowed(t, "1 2 3 4", cargo, 0, 7)
	wantAllowed(t, "1 2 3 4", cargo, 6, 5)
	wantAllowed(t, "4 3 2 1,5 6 7", "s1p s2p s3p s4p s5p s4p s3p s2p s1p", 0, 8, 1)
	wantAllowed(t, "5", cargo, 0, 1)
	wantAllowed(t, "5", cargo, 0, 4)
	wantAllowed(t, "1", cargo, 0, 5)
	wantAllowed(t, ",5,1,", cargo, 0, 7, 0, 3)
	wantAllowed(t, "1,2,3,4,5,", cargo, 0, 7, 5)
	wantAllowed(t, "1,2,3,4,5,6", cargo, 0, 7)
	wantAllowed(t, "7", cargo, 1, 6)
	// Dangerous cargo may have others above it.
	wantAllowed(t, "1", "s4d s3p", 0, 2, 0)
}

func TestAllowedStacksForReefers(t *testing.T) {
	const cargo = "s9p s8p s7p s6p l8p s5r"
	wantAllowed(t, "1,,2,", cargo, 0, 6)
	wantAllowed(t, "1,,2,", cargo, 1, 6, 0)
	wantAllowed(t, "1,,2,", cargo, 2, 6, 0, 1)
	wantAllowed(t, "1,,2,", cargo, 3, 6, 0, 1, 2)
	wantAllowed(t, "1,,2,", cargo, 4, 6, 0, 1, 2, 3)
	wantAllowed(t, "1,,2,", cargo, 6, 6, 0, 1, 2, 3)
	wantAllowed(t, "5,,2,", cargo, 3, 6, 1, 2)
	wantAllowed(t, "1 2 3 4,,", cargo, 2, 6, 1)
	wantAllowed(t, "1 2 3 4,,", cargo, 1, 6)
}

// Rules that others break already count for nothing.
func TestAllowedStacksWithFindings(t *testing.T) {
	wantAllowed(t, "1 2,3", "s1p s9p l1r s9p", 0, 4, 0)
	wantAllowed(t, "1 2,3", "s1p s9p l1r l1p", 0, 4, 1)
	wantAllowed(t, "1 2,3", "s1d l2d s3r s3p", 0, 4, 1)
	wantAllowed(t, "1 2 3,", "s1p l2d s3r s3p", 0, 4, 0, 1)
	// Equal weights break nothing.
	wantAllowed(t, "1,2", "s5p s4p s5p", 0, 3, 0)
}

func TestNumbersThatAreNotAllowedAnywhere(t *testing.T) {
	next := dice(11)
	for range 60 {
		r := mixedRuledYard(next)
		standing := numbersOf(r.yard)
		for _, n := range numbersAround() {
			if n < 1 || n > len(r.list) || slices.Contains(standing, n) {
				wantNoAllowed(t, r.yard, r.list, r.plugs, n)
			}
		}
	}
	wantNoAllowed(t, yardFrom(","), nil, 0, 1)
	wantNoAllowed(t, yardFrom(","), nil, 0, 0)
	wantNoAllowed(t, yardFrom("1 2,3"), boxes(4), 0, 1)
	wantNoAllowed(t, yardFrom("1 2,3"), boxes(4), 0, 2)
	wantNoAllowed(t, yardFrom("1 2,3"), boxes(4), 0, 3)
	wantNoAllowed(t, yardFrom("1 2,3"), boxes(4), 0, 5)
	wantNoAllowed(t, yardFrom("1 2 3 4"), boxes(5), 0, 4)
	wantNoAllowed(t, yardFrom(",,,,,"), boxes(12), 6, 13)
}

func TestCountFindings(t *testing.T) {
	wantCounts(t, "1 2,3,", "s10p s12p l8r s5d", 1, 1, 0, 0, 1)
	wantCounts(t, "1 2,3,", "s10p s12p l8r s5d", 2, 1, 0, 0, 0)
	wantCounts(t, "1 2 3", "s10p l11d s12d", 0, 2, 2, 2, 0)
	wantCounts(t, "1 2 3,4", "s10p s9p s9r l12r", 0, 0, 0, 0, 2)
	wantCounts(t, "1 2 3 4", "s1r l2r s3r l4r", 0, 3, 3, 0, 4)
	wantCounts(t, "1 2 3 4,5 6 7 8,9 10 11 12", "s1d l2d s3d l4d s1d l2d s3d l4d s1d l2d s3d l4d", 0, 9, 9, 9, 0)
	wantCounts(t, "4 3 2 1", "s1p s2p s3p s4p", 0, 0, 0, 0, 0)
	wantCounts(t, "1", "s1d", 0, 0, 0, 0, 0)
}

func TestWorstStack(t *testing.T) {
	wantWorst(t, "1 2,3,", "s10p s12p l8r s5d", 1, 0, 1)
	wantWorst(t, "3,1 2,", "s10p s12p l8r s5d", 1, 1, 1)
	wantWorst(t, ",,1", "s1r", 0, 2, 1)
	wantWorst(t, ",,1", "s1r", 3, 0, 0)
	wantWorst(t, "1,2 3,4 5", "s1p s1p s2p s1p l2d", 0, 2, 3)
	wantWorst(t, "1,4 5,2 3", "s1p s1p s2p s1p l2d", 0, 1, 3)
	wantWorst(t, "1 2,3 4,5 6", "s1p s2p s1p l2p s1p l2p", 0, 1, 2)
	wantWorst(t, "1,2,3,4,5,6", "s1r s1r s1r s1r s1r s1r", 0, 0, 1)
	wantWorst(t, "1,2,3,4,5,6", "s1r s1r s1r s1r s1r s1r", 4, 4, 1)
	wantWorst(t, "1,2,3,4,5,6", "s1r s1r s1r s1r s1r s1r", 6, 0, 0)
	wantWorst(t, ",,,,,1 2 3 4", "s1r l2r s3r l4r", 0, 5, 10)
	wantWorst(t, "1 2,3 4", "s2p s1p s4p s3p", 0, 0, 0)
	// One container with three findings and three with one each are alike.
	wantWorst(t, "1 2,3 4 5 6", "s1p l2d s1p s2p s3p s4p", 0, 0, 3)
	wantWorst(t, "3 4 5 6,1 2", "s1p l2d s1p s2p s3p s4p", 0, 0, 3)
}

func TestHelpfulMoves(t *testing.T) {
	wantMoves(t, "1 2,3,", "s10p s12p l8r s5d", 1, "0 2")
	wantMoves(t, "1 2,3,", "s10p s12p l8r s5d", 2, "0 2")
	// A stack with power helps a reefer.
	wantMoves(t, ",1", "s1r", 1, "1 0")
	wantMoves(t, ",1", "s1r", 2, noMoves)
	wantMoves(t, ",1", "s1r", 0, noMoves)
	wantMoves(t, "1,2,3", "s5r s5r s5r", 1, "1 0,2 0")
	wantMoves(t, "1,,,2", "s5r s5r", 2, "3 0,3 1")
	// One finding for another one is of no help, and one for three is.
	wantMoves(t, "2,1", "s2r s1p", 1, noMoves)
	wantMoves(t, "3,2 1", "s2p s1p l1p", 0, noMoves)
	wantMoves(t, "1 2,3", "s1p s2p s1p", 0, noMoves)
	wantMoves(t, "1 2,3", "s1p l2d l1p", 0, "0 1")
	wantMoves(t, "1 2,3", "s1p l2d s1p", 0, noMoves)
	wantMoves(t, "1 2,3,", "s1p l2d s1p", 0, "0 2")
	// Full stacks take nothing, empty ones give nothing.
	wantMoves(t, "1 2,3 4 5 6", "s1p s2p s9p s9p s9p s9p", 0, noMoves)
	wantMoves(t, "1 2,3 4 5", "s1p s2p s9p s9p s9p", 0, "0 1")
	wantMoves(t, "1 2,3 4 5 6,", "s1p s2p s9p s9p s9p s9p", 0, "0 2")
	wantMoves(t, ",,,1 2,,", "s1p s2p", 0, "3 0,3 1,3 2,3 4,3 5")
	// A single stack has no other one.
	wantMoves(t, "1 2", "s1p l2d", 0, noMoves)
	wantMoves(t, "1 2 3 4", "s1p s2p s3p s4p", 0, noMoves)
	// Only the topmost container is moved.
	wantMoves(t, "1 2 3,", "s1p s9p s1p", 0, noMoves)
	wantMoves(t, "1 2 3,", "s1p s9p s10p", 0, "0 1")
	wantMoves(t, "1 2,3 4,", "s1p s2p s3p s4p", 0, "0 1,0 2,1 2")
	wantMoves(t, "1 2,3 4,5", "s1p s2p s3p s4p s9p", 0, "0 1,0 2,1 2")
	wantMoves(t, "2 1,4 3", "s1p s2p s3p s4p", 0, noMoves)
}

func TestInvalidYardsHaveNoFindings(t *testing.T) {
	for name, y := range invalidYards() {
		for _, list := range [][]impl.Container{nil, boxes(1), boxes(5), boxes(12)} {
			for _, plugs := range []int{0, 1, 6} {
				wantUnruled(t, name, y, list, plugs)
			}
		}
	}
	// They would become valid by a move, or by a container more.
	wantUnruled(t, "a stack of five", yardFrom("1 2 3 4 5,"), boxes(12), 0)
	wantUnruled(t, "a number twice at the top", yardFrom("1,2 1"), boxes(12), 0)
}

func TestInvalidListsHaveNoFindings(t *testing.T) {
	for name, list := range invalidLists() {
		for _, yard := range []string{"", ",,", "1", "1,2", "2 1", ",3"} {
			for _, plugs := range []int{0, 2, 6} {
				wantUnruled(t, name, yardFrom(yard), list, plugs)
			}
		}
	}
}

func TestInvalidArgumentsTogether(t *testing.T) {
	wantUnruled(t, "nothing", impl.Yard{}, nil, 0)
	wantUnruled(t, "nothing valid", yardFrom("1 1"), boxes(13), -1)
	wantUnruled(t, "nothing valid at all", yardFrom("100"), []impl.Container{{}}, math.MinInt)
	wantUnruled(t, "only a valid yard", yardFrom("1"), boxes(13), 7)
	wantUnruled(t, "only a valid list", yardFrom("1 1"), boxes(12), 7)
	wantUnruled(t, "only valid plugs", yardFrom("1 1"), boxes(13), 6)
}

// ruleAnswers has what every function of chapter 7 that takes a yard says.
func ruleAnswers(r ruledYard) []string {
	var all []string
	add := func(parts ...any) { all = append(all, fmt.Sprintln(parts...)) }
	findings, ok := impl.YardFindings(r.yard, r.list, r.plugs)
	add("findings", findingsText(findings), ok)
	keeps, ok := impl.KeepsYardRules(r.yard, r.list, r.plugs)
	add("keeps", keeps, ok)
	counts, ok := impl.CountFindings(r.yard, r.list, r.plugs)
	add("counts", counts, ok)
	worst, most, ok := impl.WorstStack(r.yard, r.list, r.plugs)
	add("worst", worst, most, ok)
	moves, ok := impl.HelpfulMoves(r.yard, r.list, r.plugs)
	add("moves", moves, ok)
	for n := range 14 {
		stacks, ok := impl.AllowedStacks(r.yard, r.list, r.plugs, n)
		add("allowed", n, stacks, ok)
	}
	return all
}

// Arguments in arrays with something behind them are answered like separate ones, and none of
// them is changed.
func TestRulesLeaveTheirArgumentsAlone(t *testing.T) {
	for _, r := range ruledSamples(150) {
		want := ruleAnswers(r)
		for _, filler := range []impl.Container{spoiledBox, cargoFrom("s1p")[0], boxes(1)[0]} {
			list, array := withRoom(r.list, filler)
			for _, p := range packedYards(r.yard) {
				numbers, rows := slices.Clone(p.array), slices.Clone(p.rows)
				if got := ruleAnswers(ruledYard{p.yard, list, r.plugs}); !slices.Equal(got, want) {
					t.Errorf("the answers about %v in the array %v are others", r, numbers)
				}
				if !slices.Equal(p.array, numbers) || !slices.EqualFunc(p.rows, rows, sameMemory) {
					t.Fatalf("the yard of %v is changed to %v", r, p.array)
				}
			}
			if !slices.Equal(array, append(slices.Clone(r.list), filler, filler, filler)) {
				t.Errorf("the list of %v is changed to %v", r, array)
			}
		}
	}
}

func TestInvalidArgumentsAreLeftAlone(t *testing.T) {
	for name, y := range invalidYards() {
		before, rows := copyOfYard(y), slices.Clone(y.Stacks)
		ruleAnswers(ruledYard{y, boxes(5), 1})
		if yardText(y) != yardText(before) || !slices.EqualFunc(y.Stacks, rows, sameMemory) {
			t.Errorf("%s: the yard is changed", name)
		}
	}
	for name, list := range invalidLists() {
		before := slices.Clone(list)
		ruleAnswers(ruledYard{yardFrom("1,2"), list, 1})
		if !slices.Equal(list, before) {
			t.Errorf("%s: the list is changed", name)
		}
	}
}

// newLists calls every function of chapter 7 that returns slices and returns all of them.
func newLists(r ruledYard) ([]impl.YardFinding, [][]int, [][]int) {
	findings, _ := impl.YardFindings(r.yard, r.list, r.plugs)
	counts, _ := impl.CountFindings(r.yard, r.list, r.plugs)
	moves, _ := impl.HelpfulMoves(r.yard, r.list, r.plugs)
	lists := append([][]int{counts}, moves...)
	for n := 1; n <= len(r.list); n++ {
		stacks, _ := impl.AllowedStacks(r.yard, r.list, r.plugs, n)
		lists = append(lists, stacks)
	}
	return findings, lists, moves
}

func TestResultsOfTheRulesAreNew(t *testing.T) {
	for _, r := range ruledSamples(300) {
		for _, p := range packedYards(r.yard) {
			asked := ruledYard{p.yard, r.list, r.plugs}
			findings, lists, moves := newLists(asked)
			findingsAgain, listsAgain, movesAgain := newLists(asked)
			if sharesElement(append(slices.Concat(lists, listsAgain), p.array)...) {
				t.Fatalf("results for %v share numbers", r)
			}
			if sharesElement(findings, findingsAgain) || sharesElement(moves, movesAgain, p.rows) {
				t.Fatalf("results for %v share memory", r)
			}
		}
	}
}

func TestResultsOfTheRulesStayWhenArgumentsChange(t *testing.T) {
	for _, r := range ruledSamples(100) {
		for _, p := range packedYards(r.yard) {
			list := slices.Clone(r.list)
			findings, lists, moves := newLists(ruledYard{p.yard, list, r.plugs})
			findingsBefore, movesBefore := slices.Clone(findings), copyOfYard(impl.Yard{Stacks: moves}).Stacks
			listsBefore := copyOfYard(impl.Yard{Stacks: lists}).Stacks
			spoil(p.array)
			clear(p.rows)
			spoilAll(list, spoiledBox)
			if !slices.Equal(findings, findingsBefore) || !slices.EqualFunc(lists, listsBefore, slices.Equal[[]int]) ||
				!slices.EqualFunc(moves, movesBefore, slices.Equal[[]int]) {
				t.Fatalf("a change of %v changes a result", r)
			}
		}
	}
}

// A result that is changed does not change what is said later.
func TestChangedResultsOfTheRulesChangeNoOther(t *testing.T) {
	for _, r := range ruledSamples(200) {
		want := ruleAnswers(r)
		findings, lists, moves := newLists(r)
		spoilAll(findings, impl.YardFinding{Rule: -1, Stack: -1, Tier: -1})
		for _, list := range lists {
			spoil(list)
		}
		clear(moves)
		if got := ruleAnswers(r); !slices.Equal(got, want) {
			t.Fatalf("the answers about %v are others the second time", r)
		}
	}
	for _, x := range validFindings() {
		wantRecoveredFinding(t, x)
	}
}
