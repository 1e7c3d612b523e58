package tests

import (
	"fmt"
	"math"
	"regexp"
	"slices"
	"strings"
	"testing"

	"loop.example/g00906/impl"
)

var serialShape = regexp.MustCompile(`\A[A-Z]{3}[0-9]{4}\z`)

// checkByTable computes a check letter from tables of signs, as an oracle; it is empty for
// strings that have none.
func checkByTable(s string) string {
	if !serialShape.MatchString(s) {
		return ""
	}
	const letters = " ABCDEFGHIJKLMNOPQRSTUVWXYZ"
	sum := 0
	for i, factor := range []int{2, 3, 4} {
		sum += factor * strings.Index(letters, s[i:i+1])
	}
	for i, factor := range []int{5, 6, 7, 8} {
		sum += factor * strings.Index("0123456789", s[3+i:4+i])
	}
	return letters[sum%23+1 : sum%23+2]
}

func isIdByTable(s string) bool {
	return len(s) == 8 && checkByTable(s[:7]) != "" && checkByTable(s[:7]) == s[7:]
}

func sampleSerials() []string {
	return []string{
		"AAA0000", "AAA9999", "ZZZ0000", "ZZZ9999", "ABC0001", "AAA0020", "AAA1001",
		"XYZ1234", "MNO5678", "QAZ9009", "BBB0999", "KLM1999",
	}
}

func sampleIds() []string {
	var ids []string
	for _, s := range sampleSerials() {
		ids = append(ids, s+checkByTable(s))
	}
	return ids
}

// replaced returns s with the byte at i changed to c.
func replaced(s string, i int, c byte) string { return s[:i] + string([]byte{c}) + s[i+1:] }

func box(id string) impl.Container {
	return impl.Container{Id: id, Size: impl.SizeSmall, Weight: 12000, Cargo: impl.CargoPlain, Port: 3}
}

// boxes returns n valid containers with Ids in descending order, and different weights, sizes,
// cargos and ports.
func boxes(n int) []impl.Container {
	var list []impl.Container
	for i := range n {
		serial := fmt.Sprintf("TER%04d", 100-i)
		list = append(list, impl.Container{
			Id: serial + checkByTable(serial), Size: 1 + i%2, Weight: 1000 + 7*i, Cargo: 1 + i%3, Port: 1 + i%4,
		})
	}
	return list
}

// invalidLists has a list for every reason for which a list is invalid.
func invalidLists() map[string][]impl.Container {
	heavier := box("ABC0001F")
	heavier.Weight = 13000
	lists := map[string][]impl.Container{
		"one too many":           boxes(13),
		"many too many":          slices.Repeat(boxes(12), 5000),
		"equal containers":       {box("ABC0001F"), box("ABC0001F")},
		"equal Ids":              {box("ABC0001F"), heavier},
		"equal Ids at the ends":  append(append([]impl.Container{box("ABC0001F")}, boxes(10)...), heavier),
		"equal Ids in the tail":  append(boxes(10), box("ABC0001F"), heavier),
		"a zero container":       {{}},
		"a zero one at the end":  append(boxes(3), impl.Container{}),
		"a zero one at the head": append([]impl.Container{{}}, boxes(3)...),
	}
	for name, x := range invalidContainers() {
		lists[name] = []impl.Container{x}
		lists[name+" among others"] = []impl.Container{box("AAA0020A"), x, box("AAA1001W")}
	}
	return lists
}

func invalidContainers() map[string]impl.Container {
	all := map[string]impl.Container{"nothing": {}}
	for _, id := range []string{"", "ABC0001", "ABC0001G", "abc0001F", "ABC0001f", "ABC0001FF", " ABC0001F", "ABC0001F "} {
		all["Id "+id] = box(id)
	}
	for _, n := range []int{math.MinInt, -1, 0, 3, 4, math.MaxInt} {
		x := box("ABC0001F")
		x.Size = n
		all[fmt.Sprint("Size ", n)] = x
	}
	for _, n := range []int{math.MinInt, -1, 0, 32001, math.MaxInt} {
		x := box("ABC0001F")
		x.Weight = n
		all[fmt.Sprint("Weight ", n)] = x
	}
	for _, n := range []int{math.MinInt, -1, 0, 4, 5, math.MaxInt} {
		x := box("ABC0001F")
		x.Cargo = n
		all[fmt.Sprint("Cargo ", n)] = x
	}
	for _, n := range []int{math.MinInt, -1, 0, 10, 11, math.MaxInt} {
		x := box("ABC0001F")
		x.Port = n
		all[fmt.Sprint("Port ", n)] = x
	}
	return all
}

func wantNoLetter(t *testing.T, s string) {
	t.Helper()
	if got, ok := impl.CheckLetter(s); ok || got != "" {
		t.Errorf("CheckLetter(%.40q) = %q, %v", s, got, ok)
	}
}

func wantNoId(t *testing.T, s string) {
	t.Helper()
	if impl.IsValidId(s) {
		t.Errorf("IsValidId(%.40q) is true", s)
	}
	if got, ok := impl.NextId(s); ok || got != "" {
		t.Errorf("NextId(%.40q) = %q, %v", s, got, ok)
	}
	if impl.IsValidContainer(box(s)) {
		t.Errorf("the container %.40q is valid", s)
	}
}

func TestConstantsOfContainers(t *testing.T) {
	limits := []int{impl.MaxContainers, impl.MaxWeight, impl.MaxPort}
	if !slices.Equal(limits, []int{12, 32000, 9}) {
		t.Error("limits", limits)
	}
	kinds := []int{impl.SizeSmall, impl.SizeLarge, impl.CargoPlain, impl.CargoReefer, impl.CargoDanger}
	if !slices.Equal(kinds, []int{1, 2, 1, 2, 3}) {
		t.Error("kinds", kinds)
	}
}

func TestCheckLetter(t *testing.T) {
	for s, want := range map[string]string{
		"ABC0001": "F", "ABC0002": "N",
		"AAA0000": "J", "AAA9999": "N", "ZZZ9999": "I",
		// The remainders 0 and 22, the first and the last one.
		"AAA0020": "A", "AAA1001": "W",
	} {
		if got, ok := impl.CheckLetter(s); !ok || got != want {
			t.Errorf("CheckLetter(%q) = %q, %v", s, got, ok)
		}
	}
}

func TestCheckLetterOfAllLettersAndDigits(t *testing.T) {
	met := map[string]bool{}
	want := func(s string) {
		got, ok := impl.CheckLetter(s)
		if !ok || got != checkByTable(s) || !impl.IsValidId(s+got) {
			t.Fatalf("CheckLetter(%q) = %q, %v", s, got, ok)
		}
		met[got] = true
	}
	for n := range 10000 {
		for _, letters := range []string{"AAA", "ZZZ", "ABC", "XYZ", "QMW"} {
			want(fmt.Sprintf("%s%04d", letters, n))
		}
	}
	for n := range 26 * 26 * 26 {
		letters := string([]byte{byte('A' + n/676), byte('A' + n/26%26), byte('A' + n%26)})
		for _, digits := range []string{"0000", "9999", "1234", "0007"} {
			want(letters + digits)
		}
	}
	if len(met) != 23 || !met["A"] || !met["W"] {
		t.Error("check letters", met)
	}
}

func TestCheckLetterRejects(t *testing.T) {
	for _, s := range []string{
		"", "A", "ABC", "0001", "ABC000", "BC0001", "ABC00011", "AABC0001", "ABC0001F", "0001ABC",
		" ABC0001", "ABC0001 ", "ABC 0001", "abc0001", "ABCDEFG", "1234567", "ABC-001", "ABC+001",
		"AB\xc3\x8400", "\xc3\x84BC000", "ABC000\xd9\xa1", "\x00\x00\x00\x00\x00\x00\x00",
		strings.Repeat("A", 5000), strings.Repeat("ABC0001", 1000),
	} {
		wantNoLetter(t, s)
	}
}

func TestCheckLetterWithEveryByteAtEveryPlace(t *testing.T) {
	for _, serial := range sampleSerials() {
		for i := range len(serial) {
			for c := range 256 {
				s := replaced(serial, i, byte(c))
				got, ok := impl.CheckLetter(s)
				if want := checkByTable(s); got != want || ok != (want != "") {
					t.Errorf("CheckLetter(%q) = %q, %v", s, got, ok)
				}
			}
		}
	}
}

func TestIsValidIdWithEveryByteAtEveryPlace(t *testing.T) {
	for _, id := range sampleIds() {
		if !impl.IsValidId(id) {
			t.Errorf("IsValidId(%q) is false", id)
		}
		for i := range len(id) {
			for c := range 256 {
				s := replaced(id, i, byte(c))
				if got := impl.IsValidId(s); got != isIdByTable(s) {
					t.Errorf("IsValidId(%q) = %v", s, got)
				}
			}
		}
	}
}

func TestIdsInLowerCase(t *testing.T) {
	for _, id := range sampleIds() {
		for _, i := range []int{0, 1, 2, 7} {
			wantNoId(t, replaced(id, i, id[i]+'a'-'A'))
		}
		wantNoId(t, strings.ToLower(id))
		wantNoId(t, strings.ToLower(id[:7])+id[7:])
		for i := 3; i < 7; i++ {
			wantNoId(t, replaced(id, i, 'a'))
		}
		for i := range 3 {
			wantNoLetter(t, replaced(id[:7], i, id[i]+'a'-'A'))
		}
	}
}

func TestIdsWithOtherKindsOfSigns(t *testing.T) {
	for _, id := range sampleIds() {
		for i := range 3 {
			for _, c := range []byte("09@[/:") {
				wantNoId(t, replaced(id, i, c))
				wantNoLetter(t, replaced(id[:7], i, c))
			}
		}
		for i := 3; i < 7; i++ {
			for _, c := range []byte("AZ/:@[") {
				wantNoId(t, replaced(id, i, c))
				wantNoLetter(t, replaced(id[:7], i, c))
			}
		}
		for _, c := range []byte("09@[XYZ\x00\xff ") {
			wantNoId(t, replaced(id, 7, c))
		}
	}
}

func TestIdsOfOtherLengths(t *testing.T) {
	for _, id := range sampleIds() {
		for i := range len(id) {
			wantNoId(t, id[:i])
			wantNoId(t, id[:i]+id[i+1:])
			wantNoId(t, id[:i]+id[i:i+1]+id[i:])
		}
		for _, more := range []string{"0", "A", " ", "\n", "\x00", id} {
			wantNoId(t, id+more)
			wantNoId(t, more+id)
		}
	}
	wantNoId(t, "")
	wantNoId(t, strings.Repeat("A", 1<<20))
}

func TestIdsWithEveryWrongCheckLetter(t *testing.T) {
	for _, id := range sampleIds() {
		for c := byte('A'); c <= 'Z'; c++ {
			if c == id[7] {
				continue
			}
			wantNoId(t, replaced(id, 7, c))
		}
	}
}

func TestNextId(t *testing.T) {
	for id, want := range map[string]string{
		"ABC0001F": "ABC0002N", "AAA0000J": "AAA0001R", "AAA0020A": "AAA0021I",
	} {
		if got, ok := impl.NextId(id); !ok || got != want {
			t.Errorf("NextId(%q) = %q, %v", id, got, ok)
		}
	}
}

func TestNextIdFromFirstToLast(t *testing.T) {
	for _, letters := range []string{"AAA", "ZZZ", "ABC"} {
		id := letters + "0000" + checkByTable(letters+"0000")
		for n := 1; n <= 9999; n++ {
			next, ok := impl.NextId(id)
			serial := fmt.Sprintf("%s%04d", letters, n)
			if !ok || next != serial+checkByTable(serial) || !impl.IsValidId(next) {
				t.Fatalf("NextId(%q) = %q, %v", id, next, ok)
			}
			id = next
		}
		if next, ok := impl.NextId(id); ok || next != "" {
			t.Errorf("NextId(%q) = %q, %v", id, next, ok)
		}
	}
}

func TestContainersAtTheirLimits(t *testing.T) {
	for _, id := range append(sampleIds(), "ABC0001F") {
		for _, size := range []int{impl.SizeSmall, impl.SizeLarge} {
			for _, cargo := range []int{impl.CargoPlain, impl.CargoReefer, impl.CargoDanger} {
				for _, weight := range []int{1, 2, 31999, 32000} {
					for port := 1; port <= 9; port++ {
						x := impl.Container{Id: id, Size: size, Weight: weight, Cargo: cargo, Port: port}
						if !impl.IsValidContainer(x) || !impl.IsValidContainers([]impl.Container{x}) {
							t.Errorf("%+v is not valid", x)
						}
					}
				}
			}
		}
	}
}

func TestContainersBeyondTheirLimits(t *testing.T) {
	for name, x := range invalidContainers() {
		if impl.IsValidContainer(x) {
			t.Errorf("%s: %+v is valid", name, x)
		}
	}
}

func TestListsOfContainers(t *testing.T) {
	if !impl.IsValidContainers(nil) || !impl.IsValidContainers([]impl.Container{}) {
		t.Error("the empty list is not valid")
	}
	for n := range 13 {
		if !impl.IsValidContainers(boxes(n)) {
			t.Errorf("a list of %d is not valid", n)
		}
	}
	for name, list := range invalidLists() {
		if impl.IsValidContainers(list) {
			t.Errorf("%s: the list is valid", name)
		}
	}
}

func TestListsWithAPairOfEqualIds(t *testing.T) {
	for k := range 12 {
		for i := range k {
			list := boxes(12)
			list[k].Id = list[i].Id
			if impl.IsValidContainers(list) {
				t.Errorf("the Ids %d and %d are equal", i, k)
			}
		}
	}
}

// Containers that differ in nothing but their Ids are different.
func TestListOfContainersWithEqualContents(t *testing.T) {
	list := []impl.Container{box("ABC0001F"), box("ABC0002N"), box("AAA0020A")}
	if !impl.IsValidContainers(list) {
		t.Error("the list is not valid")
	}
}

func TestInvalidListsYieldZeroValues(t *testing.T) {
	for name, list := range invalidLists() {
		for _, id := range []string{"ABC0001F", "AAA1001W", boxes(1)[0].Id, "", "x"} {
			if i, ok := impl.FindContainer(list, id); ok || i != 0 {
				t.Errorf("%s: FindContainer of %q = %d, %v", name, id, i, ok)
			}
		}
		if n, ok := impl.TotalWeight(list); ok || n != 0 {
			t.Errorf("%s: TotalWeight = %d, %v", name, n, ok)
		}
		if n, ok := impl.CountUnits(list); ok || n != 0 {
			t.Errorf("%s: CountUnits = %d, %v", name, n, ok)
		}
		for port := -1; port <= 11; port++ {
			if ids, ok := impl.ContainersFor(list, port); ok || len(ids) != 0 {
				t.Errorf("%s: ContainersFor %d = %q, %v", name, port, ids, ok)
			}
		}
		if order, ok := impl.HeaviestFirst(list); ok || len(order) != 0 {
			t.Errorf("%s: HeaviestFirst = %v, %v", name, order, ok)
		}
	}
}

func TestFindContainer(t *testing.T) {
	list := boxes(12)
	for i, x := range list {
		if got, ok := impl.FindContainer(list, x.Id); !ok || got != i {
			t.Errorf("FindContainer of %q = %d, %v", x.Id, got, ok)
		}
		for _, other := range []string{x.Id[:7], strings.ToLower(x.Id), x.Id + " ", replaced(x.Id, 7, 'Z')} {
			if got, ok := impl.FindContainer(list, other); ok || got != 0 {
				t.Errorf("FindContainer of %q = %d, %v", other, got, ok)
			}
		}
	}
	for _, none := range []string{"ABC0001F", "", "x", strings.Repeat("A", 5000)} {
		if got, ok := impl.FindContainer(list, none); ok || got != 0 {
			t.Errorf("FindContainer of %.40q = %d, %v", none, got, ok)
		}
		if got, ok := impl.FindContainer(nil, none); ok || got != 0 {
			t.Errorf("FindContainer of %.40q in nothing = %d, %v", none, got, ok)
		}
	}
}

func TestTotalWeight(t *testing.T) {
	if n, ok := impl.TotalWeight(nil); !ok || n != 0 {
		t.Errorf("TotalWeight of nothing = %d, %v", n, ok)
	}
	list := boxes(12)
	for n := range 13 {
		if got, ok := impl.TotalWeight(list[:n]); !ok || got != 1000*n+7*n*(n-1)/2 {
			t.Errorf("TotalWeight of %d = %d, %v", n, got, ok)
		}
	}
	for i := range list {
		list[i].Weight = 32000
	}
	if got, ok := impl.TotalWeight(list); !ok || got != 384000 {
		t.Errorf("TotalWeight of the heaviest = %d, %v", got, ok)
	}
}

func TestCountUnits(t *testing.T) {
	if n, ok := impl.CountUnits(nil); !ok || n != 0 {
		t.Errorf("CountUnits of nothing = %d, %v", n, ok)
	}
	for large := range 13 {
		list := boxes(12)
		for i := range list {
			list[i].Size = impl.SizeSmall
			if i < large {
				list[i].Size = impl.SizeLarge
			}
		}
		if got, ok := impl.CountUnits(list); !ok || got != 12+large {
			t.Errorf("CountUnits with %d large ones = %d, %v", large, got, ok)
		}
	}
}

func TestContainersFor(t *testing.T) {
	list := boxes(12)
	for port := 1; port <= 9; port++ {
		var want []string
		for i := port - 1; port <= 4 && i < 12; i += 4 {
			want = append(want, list[i].Id)
		}
		if got, ok := impl.ContainersFor(list, port); !ok || !slices.Equal(got, want) {
			t.Errorf("ContainersFor %d = %q, %v", port, got, ok)
		}
		if got, ok := impl.ContainersFor(nil, port); !ok || len(got) != 0 {
			t.Errorf("ContainersFor %d in nothing = %q, %v", port, got, ok)
		}
	}
	list[5].Port = 9
	if got, ok := impl.ContainersFor(list, 9); !ok || !slices.Equal(got, []string{list[5].Id}) {
		t.Errorf("ContainersFor 9 = %q, %v", got, ok)
	}
}

func TestContainersForPortsOutOfRange(t *testing.T) {
	for _, port := range []int{math.MinInt, -3, -1, 0, 10, 11, 257, math.MaxInt} {
		for _, list := range [][]impl.Container{nil, boxes(1), boxes(12)} {
			if got, ok := impl.ContainersFor(list, port); ok || len(got) != 0 {
				t.Errorf("ContainersFor %d of %d = %q, %v", port, len(list), got, ok)
			}
		}
	}
}

// orderByCounting puts every index at the number of containers that come before it, as an oracle.
func orderByCounting(list []impl.Container) []int {
	order := make([]int, len(list))
	for i, x := range list {
		before := 0
		for _, y := range list {
			if y.Weight > x.Weight || y.Weight == x.Weight && y.Id < x.Id {
				before++
			}
		}
		order[before] = i
	}
	return order
}

func TestHeaviestFirst(t *testing.T) {
	b, c, d := box("ABC0002N"), box("ABC0001F"), box("AAA0020A")
	for _, x := range []struct {
		list []impl.Container
		want []int
	}{
		{nil, nil},
		{[]impl.Container{b}, []int{0}},
		{[]impl.Container{b, c}, []int{1, 0}},
		{[]impl.Container{c, b}, []int{0, 1}},
		{[]impl.Container{b, c, d}, []int{2, 1, 0}},
		{[]impl.Container{c, d, b}, []int{1, 0, 2}},
		{boxes(4), []int{3, 2, 1, 0}},
	} {
		if got, ok := impl.HeaviestFirst(x.list); !ok || !slices.Equal(got, x.want) {
			t.Errorf("HeaviestFirst(%v) = %v, %v", x.list, got, ok)
		}
	}
}

func TestHeaviestFirstWithEqualWeights(t *testing.T) {
	for n := range 13 {
		for _, weights := range [][]int{{1}, {32000}, {1, 32000}, {32000, 1}, {5, 6, 5, 4}, {9, 9, 8, 10, 100, 11}, {1, 2, 3, 4, 5}} {
			for step := range 12 {
				list := boxes(n)
				for i := range list {
					list[i].Weight = weights[i%len(weights)]
					k := (5*i + step) % n
					list[i].Id, list[k].Id = list[k].Id, list[i].Id
				}
				if got, ok := impl.HeaviestFirst(list); !ok || !slices.Equal(got, orderByCounting(list)) {
					t.Errorf("HeaviestFirst(%v) = %v, %v", list, got, ok)
				}
			}
		}
	}
}

// callAll calls every function of chapter 2 that takes a list.
func callAll(list []impl.Container) {
	impl.IsValidContainers(list)
	impl.FindContainer(list, "ABC0001F")
	impl.TotalWeight(list)
	impl.CountUnits(list)
	impl.ContainersFor(list, 3)
	impl.HeaviestFirst(list)
}

func TestListsAreLeftAlone(t *testing.T) {
	lists := invalidLists()
	for n := range 13 {
		lists[fmt.Sprint("valid ", n)] = boxes(n)
	}
	for name, list := range lists {
		before := slices.Clone(list)
		callAll(list)
		if !slices.Equal(list, before) {
			t.Errorf("%s: the list is changed", name)
		}
	}
}

func TestElementsBeyondTheLengthAreLeftAlone(t *testing.T) {
	row := append(boxes(2), impl.Container{Id: "x"}, boxes(1)[0])
	before := slices.Clone(row)
	list := row[:2]
	callAll(list)
	if !slices.Equal(row, before) {
		t.Error("an element beyond the length is changed")
	}
	if n, ok := impl.TotalWeight(list); !ok || n != 2007 {
		t.Errorf("TotalWeight of two of four = %d, %v", n, ok)
	}
	if order, ok := impl.HeaviestFirst(list); !ok || !slices.Equal(order, []int{1, 0}) {
		t.Errorf("HeaviestFirst of two of four = %v, %v", order, ok)
	}
}

func TestResultsAboutListsAreNew(t *testing.T) {
	list := boxes(12)
	before := slices.Clone(list)
	ids, _ := impl.ContainersFor(list, 1)
	wantIds := slices.Clone(ids)
	order, _ := impl.HeaviestFirst(list)
	wantOrder := slices.Clone(order)
	for i := range ids {
		ids[i] = "changed"
	}
	for i := range order {
		order[i] = -1
	}
	_, _ = append(ids, "more"), append(order, -1)
	if !slices.Equal(list, before) {
		t.Error("a change of a result changes the list")
	}
	if again, ok := impl.ContainersFor(list, 1); !ok || !slices.Equal(again, wantIds) {
		t.Errorf("the second result of ContainersFor is %q, %v", again, ok)
	}
	if again, ok := impl.HeaviestFirst(list); !ok || !slices.Equal(again, wantOrder) {
		t.Errorf("the second result of HeaviestFirst is %v, %v", again, ok)
	}
}

func TestResultsStayWhenTheListChanges(t *testing.T) {
	list := boxes(12)
	ids, _ := impl.ContainersFor(list, 1)
	order, _ := impl.HeaviestFirst(list)
	wantIds, wantOrder := slices.Clone(ids), slices.Clone(order)
	clear(list)
	if !slices.Equal(ids, wantIds) || !slices.Equal(order, wantOrder) {
		t.Errorf("the results are now %q and %v", ids, order)
	}
}
