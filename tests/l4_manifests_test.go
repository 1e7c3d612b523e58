package tests

import (
	"fmt"
	"math"
	"regexp"
	"slices"
	"strconv"
	"strings"
	"testing"

	"loop.example/g00906/impl"
)

// boxText writes a valid container with a format, as an oracle.
func boxText(x impl.Container) string {
	size := map[int]string{impl.SizeSmall: "small", impl.SizeLarge: "large"}[x.Size]
	cargo := map[int]string{impl.CargoPlain: "plain", impl.CargoReefer: "reefer", impl.CargoDanger: "danger"}[x.Cargo]
	return fmt.Sprintf("%s %s %d %s %d", x.Id, size, x.Weight, cargo, x.Port)
}

func listText(list []impl.Container) string {
	text := ""
	for _, x := range list {
		text += boxText(x) + "\n"
	}
	return text
}

var boxShape = regexp.MustCompile(`\A(.{8}) (?:small|large) ([1-9][0-9]{0,4}) (?:plain|reefer|danger) [1-9]\z`)

// isBoxText tells by the shape of the fields, as an oracle.
func isBoxText(s string) bool {
	fields := boxShape.FindStringSubmatch(s)
	if fields == nil || !isIdByTable(fields[1]) {
		return false
	}
	weight, err := strconv.Atoi(fields[2])
	return err == nil && weight <= 32000
}

// isListText tells by the shape of the lines, as an oracle.
func isListText(s string) bool {
	ids := map[string]bool{}
	for s != "" {
		line, rest, ended := strings.Cut(s, "\n")
		if !ended || !isBoxText(line) || ids[line[:8]] || len(ids) == 12 {
			return false
		}
		ids[line[:8]] = true
		s = rest
	}
	return true
}

// otherBoxes returns containers that differ from x in one field alone, for each field but the Id.
func otherBoxes(x impl.Container) []impl.Container {
	var all []impl.Container
	for _, weight := range []int{1, x.Weight%32000 + 1, 32000} {
		y := x
		y.Weight = weight
		all = append(all, y)
	}
	for size := 1; size <= 2; size++ {
		y := x
		y.Size = size
		all = append(all, y)
	}
	for cargo := 1; cargo <= 3; cargo++ {
		y := x
		y.Cargo = cargo
		all = append(all, y)
	}
	for port := 1; port <= 9; port++ {
		y := x
		y.Port = port
		all = append(all, y)
	}
	return slices.DeleteFunc(all, func(y impl.Container) bool { return y == x })
}

// otherSerials returns n valid containers whose Ids are not among those of boxes.
func otherSerials(n int) []impl.Container {
	list := boxes(n)
	for i := range list {
		serial := "AB" + string([]byte{byte('A' + (5*i)%12)}) + "7777"
		list[i].Id = serial + checkByTable(serial)
	}
	return list
}

// boxIds returns the Ids of a list in ascending order.
func boxIds(list []impl.Container) []string {
	var ids []string
	for _, x := range list {
		ids = append(ids, x.Id)
	}
	slices.Sort(ids)
	return ids
}

func reversedBoxes(list []impl.Container) []impl.Container {
	list = slices.Clone(list)
	slices.Reverse(list)
	return list
}

// listPairs returns all pairs of lists of at most 4 containers in which each container is in
// none, in one of two contents, or in both, some of them with the order turned round.
func listPairs() [][2][]impl.Container {
	heads := boxes(4)
	// The Ids are in an order that is neither ascending nor descending.
	heads[0].Id, heads[1].Id = heads[1].Id, heads[0].Id
	var lists [][]impl.Container
	for pattern := range 81 {
		var list []impl.Container
		for i, x := range heads {
			switch pattern / []int{1, 3, 9, 27}[i] % 3 {
			case 1:
				list = append(list, x)
			case 2:
				others := otherBoxes(x)
				list = append(list, others[(pattern+i)%len(others)])
			}
		}
		lists = append(lists, list)
	}
	var pairs [][2][]impl.Container
	for i, a := range lists {
		for k, b := range lists {
			if (i+k)%2 == 1 {
				b = reversedBoxes(b)
			}
			pairs = append(pairs, [2][]impl.Container{a, b})
		}
	}
	return pairs
}

// overlappingManifests returns two manifests with 4 added, 5 gone and 2 changed containers, which
// together are as many as a manifest may have.
func overlappingManifests() ([]impl.Container, []impl.Container) {
	b := append(otherSerials(3), boxes(9)[5:]...)
	for i := 3; i < 5; i++ {
		b[i] = otherBoxes(b[i])[i]
	}
	return reversedBoxes(boxes(8)), b
}

// changesByPairs compares every container with every other one, as an oracle.
func changesByPairs(a []impl.Container, b []impl.Container) [3][]string {
	var added, gone, changed []impl.Container
	for _, y := range b {
		same, met := false, false
		for _, x := range a {
			met = met || x.Id == y.Id
			same = same || boxText(x) == boxText(y)
		}
		if !met {
			added = append(added, y)
		} else if !same {
			changed = append(changed, y)
		}
	}
	for _, x := range a {
		if !slices.ContainsFunc(b, func(y impl.Container) bool { return y.Id == x.Id }) {
			gone = append(gone, x)
		}
	}
	return [3][]string{boxIds(added), boxIds(gone), boxIds(changed)}
}

// mergedByPutting puts the containers of b one after the other into the list, as an oracle.
func mergedByPutting(a []impl.Container, b []impl.Container) []impl.Container {
	merged := slices.Clone(a)
	for _, y := range b {
		i := slices.IndexFunc(merged, func(x impl.Container) bool { return x.Id == y.Id })
		if i < 0 {
			merged = append(merged, y)
		} else {
			merged[i] = y
		}
	}
	return merged
}

func wantChanges(t *testing.T, a []impl.Container, b []impl.Container, want [3][]string) {
	t.Helper()
	added, gone, changed, ok := impl.ManifestChanges(a, b)
	if !ok || !slices.Equal(added, want[0]) || !slices.Equal(gone, want[1]) || !slices.Equal(changed, want[2]) {
		t.Errorf("ManifestChanges(%v, %v) = %v, %v, %v, %v, not %v", a, b, added, gone, changed, ok, want)
	}
}

func wantMerged(t *testing.T, a []impl.Container, b []impl.Container, want []impl.Container) {
	t.Helper()
	if got, ok := impl.MergeManifests(a, b); !ok || !slices.Equal(got, want) {
		t.Errorf("MergeManifests(%v, %v) = %v, %v, not %v", a, b, got, ok, want)
	}
}

func wantNoMerged(t *testing.T, a []impl.Container, b []impl.Container) {
	t.Helper()
	if got, ok := impl.MergeManifests(a, b); ok || len(got) != 0 {
		t.Errorf("MergeManifests(%v, %v) = %v, %v", a, b, got, ok)
	}
}

func wantBoxIfText(t *testing.T, s string) {
	t.Helper()
	x, ok := impl.ParseContainer(s)
	if !isBoxText(s) {
		if ok || x != (impl.Container{}) {
			t.Errorf("ParseContainer(%.60q) = %+v, %v", s, x, ok)
		}
		return
	}
	text, textOk := impl.ContainerText(x)
	if !ok || boxText(x) != s || !textOk || text != s {
		t.Errorf("ParseContainer(%q) = %+v, %v, whose text is %q", s, x, ok, text)
	}
}

func wantListIfText(t *testing.T, s string) {
	t.Helper()
	list, ok := impl.ParseManifest(s)
	if !isListText(s) {
		if ok || len(list) != 0 {
			t.Errorf("ParseManifest(%.80q) = %v, %v", s, list, ok)
		}
		return
	}
	text, textOk := impl.ManifestText(list)
	if !ok || listText(list) != s || !textOk || text != s {
		t.Errorf("ParseManifest(%q) = %v, %v, whose text is %q", s, list, ok, text)
	}
}

func wantNoBoxText(t *testing.T, s string) {
	t.Helper()
	if x, ok := impl.ParseContainer(s); ok || x != (impl.Container{}) {
		t.Errorf("ParseContainer(%.60q) = %+v, %v", s, x, ok)
	}
}

func wantNoListText(t *testing.T, s string) {
	t.Helper()
	if list, ok := impl.ParseManifest(s); ok || len(list) != 0 {
		t.Errorf("ParseManifest(%.80q) = %v, %v", s, list, ok)
	}
}

func TestContainerText(t *testing.T) {
	for s, x := range map[string]impl.Container{
		"ABC0001F small 12000 plain 3": {
			Id: "ABC0001F", Size: impl.SizeSmall, Weight: 12000, Cargo: impl.CargoPlain, Port: 3,
		},
		"ABC0002N large 1 reefer 1": {
			Id: "ABC0002N", Size: impl.SizeLarge, Weight: 1, Cargo: impl.CargoReefer, Port: 1,
		},
		"ZZZ9999I large 32000 danger 9": {
			Id: "ZZZ9999I", Size: impl.SizeLarge, Weight: 32000, Cargo: impl.CargoDanger, Port: 9,
		},
	} {
		if got, ok := impl.ContainerText(x); !ok || got != s {
			t.Errorf("ContainerText(%+v) = %q, %v", x, got, ok)
		}
		if got, ok := impl.ParseContainer(s); !ok || got != x {
			t.Errorf("ParseContainer(%q) = %+v, %v", s, got, ok)
		}
	}
}

func wantRecoveredBox(t *testing.T, x impl.Container) {
	t.Helper()
	s := boxText(x)
	if got, ok := impl.ContainerText(x); !ok || got != s {
		t.Errorf("ContainerText(%+v) = %q, %v", x, got, ok)
	}
	if got, ok := impl.ParseContainer(s); !ok || got != x {
		t.Errorf("ParseContainer(%q) = %+v, %v", s, got, ok)
	}
}

func TestContainersAreRecoveredFromTheirTexts(t *testing.T) {
	for _, id := range append(sampleIds(), "ABC0001F") {
		for size := 1; size <= 2; size++ {
			for cargo := 1; cargo <= 3; cargo++ {
				for _, weight := range []int{1, 2, 9, 10, 99, 100, 999, 1000, 9999, 10000, 31999, 32000} {
					for port := 1; port <= 9; port++ {
						wantRecoveredBox(t, impl.Container{Id: id, Size: size, Weight: weight, Cargo: cargo, Port: port})
					}
				}
			}
		}
	}
}

func TestEveryWeightInATextOfAContainer(t *testing.T) {
	x := box("ABC0001F")
	for x.Weight = 1; x.Weight <= 32000; x.Weight++ {
		wantRecoveredBox(t, x)
	}
	for weight := 32001; weight < 1000000; weight += 1 + weight/1000 {
		wantNoBoxText(t, fmt.Sprintf("ABC0001F small %d plain 3", weight))
	}
}

func TestInvalidContainersHaveNoText(t *testing.T) {
	for name, x := range invalidContainers() {
		if s, ok := impl.ContainerText(x); ok || s != "" {
			t.Errorf("%s: ContainerText = %q, %v", name, s, ok)
		}
		// Their fields, written one after the other, are no text either.
		wantNoBoxText(t, boxText(x))
	}
}

func TestParseContainerRejects(t *testing.T) {
	for _, s := range []string{
		"", " ", "    ", "ABC0001F", "ABC0001F small", "ABC0001F small 12000", "ABC0001F small 12000 plain",
		"small 12000 plain 3", "ABC0001F 12000 plain 3", "ABC0001F small plain 3", "ABC0001F small 12000 3",
		"ABC0001Fsmall 12000 plain 3", "ABC0001F small12000 plain 3", "ABC0001F small 12000plain 3", "ABC0001F small 12000 plain3",
		"ABC0001F  small 12000 plain 3", "ABC0001F small  12000 plain 3", "ABC0001F small 12000  plain 3", "ABC0001F small 12000 plain  3",
		" ABC0001F small 12000 plain 3", "ABC0001F small 12000 plain 3 ", "ABC0001F small 12000 plain 3 3", "ABC0001F small 12000 plain 3 x",
		"ABC0001F\tsmall 12000 plain 3", "ABC0001F small,12000 plain 3", "ABC0001F small 12000 plain\n3", "ABC0001F\xc2\xa0small 12000 plain 3",
		"ABC0001F small 12000 plain 3\n", "\nABC0001F small 12000 plain 3", "ABC0001F small 12000 plain 3\r", "ABC0001F small 12000 plain 3\x00",
		"ABC0001F tiny 12000 plain 3", "ABC0001F smal 12000 plain 3", "ABC0001F smalls 12000 plain 3", "ABC0001F 1 12000 plain 3",
		"ABC0001F Small 12000 plain 3", "ABC0001F smaLl 12000 plain 3", "ABC0001F LARGE 12000 plain 3", "ABC0001F  12000 plain 3",
		"ABC0001F plain 12000 plain 3", "ABC0001F small 12000 small 3", "ABC0001F small 12000 large 3", "ABC0001F plain 12000 small 3",
		"ABC0001F small 12000 dry 3", "ABC0001F small 12000 Plain 3", "ABC0001F small 12000 reeFer 3", "ABC0001F small 12000 DANGER 3",
		"ABC0001F small 12000 reefe 3", "ABC0001F small 12000 dangers 3", "ABC0001F small 12000 1 3", "ABC0001F small 12000  3",
		"ABC0001F small 012000 plain 3", "ABC0001F small +12000 plain 3", "ABC0001F small -12000 plain 3", "ABC0001F small 12000 plain 03",
		"ABC0001F small 12000 plain +3", "ABC0001F small 12000 plain -3", "ABC0001F small 12000.0 plain 3", "ABC0001F small 1e4 plain 3",
		"ABC0001F small 12_000 plain 3", "ABC0001F small 0x10 plain 3", "ABC0001F small twelve plain 3", "ABC0001F small 12000 plain c",
		"ABC0001F small 0 plain 3", "ABC0001F small -0 plain 3", "ABC0001F small -1 plain 3", "ABC0001F small 32001 plain 3",
		"ABC0001F small 4294979296 plain 3", "ABC0001F small 18446744073709563616 plain 3", "ABC0001F small 12000 plain 18446744073709551619",
		"ABC0001F small 12000 plain 0", "ABC0001F small 12000 plain -1", "ABC0001F small 12000 plain 10", "ABC0001F small 12000 plain 33",
		"ABC0001G small 12000 plain 3", "ABC001F small 12000 plain 3", "abc0001F small 12000 plain 3", "ABC0001f small 12000 plain 3",
		"ABC0001 small 12000 plain 3", "ABC0001FF small 12000 plain 3", "AB00001F small 12000 plain 3", "ABC 0001F small 12000 plain 3",
		"small ABC0001F 12000 plain 3", "ABC0001F small 3 plain 12000", "ABC0001F plain 12000 small 3",
		strings.Repeat(" ", 3999), strings.Repeat(" ", 4000), strings.Repeat(" ", 4001), strings.Repeat("A", 1<<20),
		"ABC0001F small 12000 plain " + strings.Repeat("3", 3973), "ABC0001F small " + strings.Repeat("0", 4000) + "1 plain 3",
	} {
		wantNoBoxText(t, s)
		wantNoListText(t, s+"\n")
	}
}

func TestParseContainerOfAllKindsOfFields(t *testing.T) {
	met := 0
	for _, id := range []string{"ABC0001F", "ZZZ9999I", "ABC0001G", "abc0001f", "ABC0001", ""} {
		for _, size := range []string{"small", "large", "Small", "larg", "plain", "1", ""} {
			for _, weight := range []string{"1", "32000", "12000", "0", "32001", "01", "+1", "-1", "1 ", "x", ""} {
				for _, cargo := range []string{"plain", "reefer", "danger", "Reefer", "dangerous", "small", "3", ""} {
					for _, port := range []string{"1", "9", "0", "10", "09", "+9", "-9", " 9", "x", ""} {
						s := strings.Join([]string{id, size, weight, cargo, port}, " ")
						wantBoxIfText(t, s)
						if isBoxText(s) {
							met++
						}
					}
				}
			}
		}
	}
	if met != 2*2*3*3*2 {
		t.Error("texts of containers", met)
	}
}

func TestParseContainerWithEveryByteAtEveryPlace(t *testing.T) {
	for _, s := range []string{
		"ABC0001F small 12000 plain 3", "ABC0002N large 1 reefer 1", "ZZZ9999I large 32000 danger 9", "AAA0020A small 31 danger 5",
	} {
		wantBoxIfText(t, s)
		for i := range len(s) {
			wantBoxIfText(t, s[:i])
			wantBoxIfText(t, s[i:])
			wantBoxIfText(t, s[:i]+s[i+1:])
			for c := range 256 {
				wantBoxIfText(t, replaced(s, i, byte(c)))
				wantBoxIfText(t, s[:i]+string([]byte{byte(c)})+s[i:])
			}
		}
		for c := range 256 {
			wantBoxIfText(t, s+string([]byte{byte(c)}))
		}
	}
}

func TestParseContainerOfShortWords(t *testing.T) {
	for _, word := range wordsOver("aelmnpr", 4) {
		wantNoBoxText(t, "ABC0001F "+word+" 12000 plain 3")
		wantNoBoxText(t, "ABC0001F small 12000 "+word+" 3")
	}
	for _, word := range wordsOver("0139+-", 3) {
		wantBoxIfText(t, "ABC0001F small "+word+" plain 3")
		wantBoxIfText(t, "ABC0001F small 12000 plain "+word)
	}
}

func TestManifestText(t *testing.T) {
	a, b := box("ABC0001F"), box("ABC0002N")
	b.Size, b.Weight, b.Cargo, b.Port = impl.SizeLarge, 9000, impl.CargoDanger, 1
	for _, x := range []struct {
		list []impl.Container
		want string
	}{
		{nil, ""},
		{[]impl.Container{}, ""},
		{[]impl.Container{a}, "ABC0001F small 12000 plain 3\n"},
		{[]impl.Container{a, b}, "ABC0001F small 12000 plain 3\nABC0002N large 9000 danger 1\n"},
		{[]impl.Container{b, a}, "ABC0002N large 9000 danger 1\nABC0001F small 12000 plain 3\n"},
	} {
		if got, ok := impl.ManifestText(x.list); !ok || got != x.want {
			t.Errorf("ManifestText(%v) = %q, %v", x.list, got, ok)
		}
		if got, ok := impl.ParseManifest(x.want); !ok || !slices.Equal(got, x.list) {
			t.Errorf("ParseManifest(%q) = %v, %v", x.want, got, ok)
		}
	}
}

// longestBoxes returns a manifest with a text of the greatest length.
func longestBoxes() []impl.Container {
	list := boxes(12)
	for i := range list {
		list[i].Size, list[i].Weight, list[i].Cargo, list[i].Port = impl.SizeLarge, 32000-i, impl.CargoReefer+i%2, 9
	}
	return list
}

func TestManifestsAreRecoveredFromTheirTexts(t *testing.T) {
	lists := [][]impl.Container{longestBoxes(), otherSerials(12)}
	for n := range 13 {
		lists = append(lists, boxes(n), reversedBoxes(boxes(n)), otherSerials(n))
	}
	for _, pair := range listPairs()[:81] {
		lists = append(lists, pair[1])
	}
	for _, list := range lists {
		want := listText(list)
		if got, ok := impl.ManifestText(list); !ok || got != want {
			t.Errorf("ManifestText(%v) = %q, %v", list, got, ok)
		}
		if got, ok := impl.ParseManifest(want); !ok || !slices.Equal(got, list) {
			t.Errorf("ParseManifest(%q) = %v, %v", want, got, ok)
		}
	}
	if n := len(listText(longestBoxes())); n != 12*30 {
		t.Error("the longest text of a manifest has the length", n)
	}
}

func TestInvalidListsHaveNoText(t *testing.T) {
	for name, list := range invalidLists() {
		if s, ok := impl.ManifestText(list); ok || s != "" {
			t.Errorf("%s: ManifestText = %q, %v", name, s, ok)
		}
		wantNoListText(t, listText(list[:min(len(list), 13)]))
	}
	for k := range 12 {
		for i := range k {
			list := boxes(12)
			list[k].Id = list[i].Id
			if s, ok := impl.ManifestText(list); ok || s != "" {
				t.Errorf("ManifestText with the equal Ids %d and %d = %q, %v", i, k, s, ok)
			}
			wantNoListText(t, listText(list))
		}
	}
}

func TestParseManifestRejects(t *testing.T) {
	const first, second = "ABC0001F small 12000 plain 3\n", "ABC0002N large 9000 danger 1\n"
	for _, s := range []string{
		" ", "\n", "\n\n", "\r\n", "x", "x\n",
		"ABC0001F small 12000 plain 3", first + "ABC0002N large 9000 danger 1", first + second[:20],
		first + "\n", "\n" + first, first + "\n" + second, first + second + "\n", "\n" + first + second,
		first + " ", " " + first, first + " \n", first + " " + second, "ABC0001F small 12000 plain 3 \n",
		"ABC0001F small 12000 plain 3\r\n", "ABC0001F small 12000 plain 3\r", "ABC0001F small 12000 plain 3 ABC0002N large 9000 danger 1\n",
		"ABC0001F\nsmall 12000 plain 3\n", "ABC0001F small 12000 plain\n 3\n",
		first + first, first + second + first, second + first + second, first + "ABC0001F large 12000 plain 3\n",
		first + "ABC0001F small 12001 plain 3\n", first + "ABC0001F small 12000 reefer 3\n", first + "ABC0001F small 12000 plain 4\n",
		first + "ABC0002N tiny 9000 danger 1\n", "ABC0001G small 12000 plain 3\n" + second, first + second + "\x00", first + "#" + second,
		first + "ABC0002N large 09000 danger 1\n", first + "ABC0002N large 9000 danger 0\n", first + "ABC0002N large 32001 danger 1\n",
	} {
		wantNoListText(t, s)
	}
}

func TestParseManifestOfTooManyContainers(t *testing.T) {
	text := listText(boxes(13))
	wantNoListText(t, text)
	lines := strings.SplitAfter(text, "\n")
	for i := range 13 {
		wantListIfText(t, strings.Join(slices.Delete(slices.Clone(lines), i, i+1), ""))
	}
	wantNoListText(t, listText(boxes(50)))
	wantNoListText(t, listText(boxes(100)))
}

// The text of no manifest has as many bytes as a text may have.
func TestParseManifestAtTheLimitOfStrings(t *testing.T) {
	line := listText(longestBoxes()[:1])
	for _, n := range []int{3999, 4000, 4001, 1 << 20} {
		wantNoListText(t, strings.Repeat("\n", n))
		wantNoListText(t, strings.Repeat(" ", n))
		wantNoListText(t, strings.Repeat(" ", n-1)+"\n")
		wantNoListText(t, strings.Repeat("A", n))
		wantNoListText(t, strings.Repeat(line, n/len(line)+1)[:n])
		wantNoListText(t, strings.Repeat(line, n/len(line))+strings.Repeat("\n", n%len(line)))
		wantNoListText(t, line+strings.Repeat("\n", n-len(line)))
		long := listText(longestBoxes())
		wantNoListText(t, long+strings.Repeat("\n", n-len(long)))
		wantNoListText(t, strings.Repeat("\n", n-len(long))+long)
	}
}

func TestParseManifestWithEveryByteAtEveryPlace(t *testing.T) {
	for _, s := range []string{listText(boxes(2)), listText(otherSerials(3)), "ABC0001F small 12000 plain 3\n"} {
		wantListIfText(t, s)
		for i := range len(s) {
			wantListIfText(t, s[:i])
			wantListIfText(t, s[i:])
			wantListIfText(t, s[:i]+s[i+1:])
			for c := range 256 {
				wantListIfText(t, replaced(s, i, byte(c)))
				wantListIfText(t, s[:i]+string([]byte{byte(c)})+s[i:])
			}
		}
		for c := range 256 {
			wantListIfText(t, s+string([]byte{byte(c)}))
		}
	}
}

// A line is left out, doubled or moved at every place of a full manifest.
func TestParseManifestWithOtherLines(t *testing.T) {
	lines := strings.SplitAfter(listText(boxes(12)), "\n")[:12]
	for i := range lines {
		for k := range 13 {
			for _, list := range [][]string{lines, slices.Delete(slices.Clone(lines), i, i+1), lines[:i]} {
				for _, line := range []string{lines[i], "\n", " \n", "ABC0001F small 12000 plain 3\n", "ABC0001F small 12000 plain 3"} {
					wantListIfText(t, strings.Join(slices.Insert(slices.Clone(list), min(k, len(list)), line), ""))
				}
			}
		}
	}
}

func TestPortCounts(t *testing.T) {
	ports := func(numbers ...int) []impl.Container {
		list := boxes(len(numbers))
		for i, port := range numbers {
			list[i].Port = port
		}
		return list
	}
	for _, x := range []struct {
		list []impl.Container
		want [][2]int
	}{
		{nil, nil},
		{[]impl.Container{}, nil},
		{ports(1), [][2]int{{1, 1}}},
		{ports(9), [][2]int{{9, 1}}},
		{ports(4, 4, 4), [][2]int{{4, 3}}},
		{ports(9, 1), [][2]int{{1, 1}, {9, 1}}},
		{ports(2, 7, 2, 1), [][2]int{{1, 1}, {2, 2}, {7, 1}}},
		{ports(5, 5, 5, 5, 5, 5, 5, 5, 5, 5, 5, 5), [][2]int{{5, 12}}},
		{
			ports(9, 8, 7, 6, 5, 4, 3, 2, 1, 9, 1, 9),
			[][2]int{{1, 2}, {2, 1}, {3, 1}, {4, 1}, {5, 1}, {6, 1}, {7, 1}, {8, 1}, {9, 3}},
		},
	} {
		// A map is read in another order each time.
		for range 50 {
			if got, ok := impl.PortCounts(x.list); !ok || !slices.Equal(got, x.want) {
				t.Errorf("PortCounts(%v) = %v, %v", x.list, got, ok)
			}
		}
	}
}

func TestPortCountsOfAllPorts(t *testing.T) {
	for n := range 13 {
		for step := range 9 {
			for start := range 9 {
				list := boxes(n)
				var numbers [10]int
				for i := range list {
					list[i].Port = 1 + (start+step*i)%9
					numbers[list[i].Port]++
				}
				var want [][2]int
				for port := 1; port <= 9; port++ {
					if numbers[port] > 0 {
						want = append(want, [2]int{port, numbers[port]})
					}
				}
				if got, ok := impl.PortCounts(list); !ok || !slices.Equal(got, want) {
					t.Errorf("PortCounts(%v) = %v, %v", list, got, ok)
				}
			}
		}
	}
}

func TestManifestChanges(t *testing.T) {
	a, b, c, d := box("ABC0001F"), box("ABC0002N"), box("AAA0020A"), box("ZZZ9999I")
	heavy := b
	heavy.Weight = 9500
	list := func(all ...impl.Container) []impl.Container { return all }
	for _, x := range []struct {
		a, b []impl.Container
		want [3][]string
	}{
		{nil, nil, [3][]string{}},
		{nil, list(a), [3][]string{{"ABC0001F"}, nil, nil}},
		{list(a), nil, [3][]string{nil, {"ABC0001F"}, nil}},
		{list(a), list(a), [3][]string{}},
		{list(a, b), list(b, a), [3][]string{}},
		{list(b), list(heavy), [3][]string{nil, nil, {"ABC0002N"}}},
		{list(heavy), list(b), [3][]string{nil, nil, {"ABC0002N"}}},
		{list(a, b), list(heavy, c), [3][]string{{"AAA0020A"}, {"ABC0001F"}, {"ABC0002N"}}},
		{list(d), list(b, a, c), [3][]string{{"AAA0020A", "ABC0001F", "ABC0002N"}, {"ZZZ9999I"}, nil}},
		{list(b, d, a, c), list(d), [3][]string{nil, {"AAA0020A", "ABC0001F", "ABC0002N"}, nil}},
	} {
		wantChanges(t, x.a, x.b, x.want)
	}
}

func TestManifestChangesInOneFieldAlone(t *testing.T) {
	for n := 1; n <= 12; n++ {
		for i, x := range boxes(n) {
			wantChanges(t, boxes(n), boxes(n), [3][]string{})
			for _, y := range otherBoxes(x) {
				changed := boxes(n)
				changed[i] = y
				wantChanges(t, boxes(n), changed, [3][]string{nil, nil, {x.Id}})
				wantChanges(t, changed, reversedBoxes(boxes(n)), [3][]string{nil, nil, {x.Id}})
			}
			// With another Id it is another container.
			other := boxes(n)
			other[i].Id = "ABC0001F"
			wantChanges(t, boxes(n), other, [3][]string{{"ABC0001F"}, {x.Id}, nil})
			wantChanges(t, other, boxes(n), [3][]string{{x.Id}, {"ABC0001F"}, nil})
		}
	}
}

// Contents tell changes, and not the places of the containers.
func TestManifestChangesWithExchangedContents(t *testing.T) {
	for n := 2; n <= 12; n++ {
		turned, renamed := boxes(n), boxes(n)
		for i := range n {
			turned[i] = boxes(n)[(i+1)%n]
			renamed[i].Id = boxes(n)[(i+1)%n].Id
		}
		wantChanges(t, boxes(n), turned, [3][]string{})
		wantChanges(t, boxes(n), renamed, [3][]string{nil, nil, boxIds(boxes(n))})
		wantChanges(t, renamed, boxes(n), [3][]string{nil, nil, boxIds(boxes(n))})
	}
}

func TestManifestChangesOfFullManifests(t *testing.T) {
	a, b := boxes(12), otherSerials(12)
	wantChanges(t, a, b, [3][]string{boxIds(b), boxIds(a), nil})
	wantChanges(t, b, a, [3][]string{boxIds(a), boxIds(b), nil})
	wantChanges(t, nil, a, [3][]string{boxIds(a), nil, nil})
	wantChanges(t, a, []impl.Container{}, [3][]string{nil, boxIds(a), nil})
	for i := range a {
		mixed := append(slices.Clone(b[:i]), a[i:]...)
		wantChanges(t, a, mixed, [3][]string{boxIds(b[:i]), boxIds(a[:i]), nil})
		for k := range mixed {
			mixed[k].Weight = 32000
		}
		wantChanges(t, a, mixed, [3][]string{boxIds(b[:i]), boxIds(a[:i]), boxIds(a[i:])})
	}
}

func TestManifestChangesOfAllSmallManifests(t *testing.T) {
	for _, pair := range listPairs() {
		want := changesByPairs(pair[0], pair[1])
		wantChanges(t, pair[0], pair[1], want)
		wantChanges(t, reversedBoxes(pair[0]), reversedBoxes(pair[1]), want)
		wantChanges(t, pair[1], pair[0], [3][]string{want[1], want[0], want[2]})
	}
}

func TestMergeManifests(t *testing.T) {
	a, b, c := box("ABC0001F"), box("ABC0002N"), box("AAA0020A")
	heavy := b
	heavy.Weight = 9500
	list := func(all ...impl.Container) []impl.Container { return all }
	for _, x := range []struct{ a, b, want []impl.Container }{
		{nil, nil, nil},
		{list(a, b), nil, list(a, b)},
		{nil, list(b, a), list(b, a)},
		{list(a), list(b), list(a, b)},
		{list(b), list(a), list(b, a)},
		{list(a, b), list(b, a), list(a, b)},
		{list(a, b), list(heavy), list(a, heavy)},
		{list(a, heavy), list(b), list(a, b)},
		{list(b, a), list(c, heavy), list(heavy, a, c)},
		{list(c), list(heavy, a, c), list(c, heavy, a)},
	} {
		wantMerged(t, x.a, x.b, x.want)
	}
}

func TestMergeManifestsWithOneOtherField(t *testing.T) {
	for n := 1; n <= 12; n++ {
		for i, x := range boxes(n) {
			for _, y := range append(otherBoxes(x), x) {
				changed := boxes(n)
				changed[i] = y
				wantMerged(t, boxes(n), []impl.Container{y}, changed)
				wantMerged(t, boxes(n), reversedBoxes(changed), changed)
				wantMerged(t, changed, boxes(n), boxes(n))
			}
		}
	}
}

func TestMergeManifestsOfAllSmallManifests(t *testing.T) {
	for _, pair := range listPairs() {
		want := mergedByPutting(pair[0], pair[1])
		wantMerged(t, pair[0], pair[1], want)
		wantMerged(t, pair[1], pair[0], mergedByPutting(pair[1], pair[0]))
		added, _, changed, ok := impl.ManifestChanges(pair[0], pair[1])
		if !ok {
			t.Fatalf("ManifestChanges(%v, %v) failed", pair[0], pair[1])
		}
		wantChanges(t, pair[0], want, [3][]string{added, nil, changed})
	}
}

func TestMergeManifestsAtTheLimit(t *testing.T) {
	a, b := boxes(12), otherSerials(12)
	for n := range 13 {
		for k := range 13 {
			if n+k <= 12 {
				wantMerged(t, a[:n], b[:k], append(slices.Clone(a[:n]), b[:k]...))
			} else {
				wantNoMerged(t, a[:n], b[:k])
			}
			// With n containers in common, k more ones in b.
			if n+k <= 12 {
				wantMerged(t, a[:n], append(slices.Clone(b[:k]), a[:n]...), append(slices.Clone(a[:n]), b[:k]...))
			}
		}
	}
	wantMerged(t, a, a, a)
	wantMerged(t, a, reversedBoxes(a), a)
	for i := range a {
		changed := slices.Clone(a)
		changed[i] = otherBoxes(a[i])[0]
		wantMerged(t, a, changed[i:i+1], changed)
		other := slices.Clone(a)
		other[i].Id = "ABC0001F"
		wantNoMerged(t, a, other)
		wantNoMerged(t, a, other[i:i+1])
		wantNoMerged(t, other[i:i+1], a)
	}
}

func TestSplitManifest(t *testing.T) {
	for n := range 13 {
		for step := range 9 {
			list := boxes(n)
			for i := range list {
				list[i].Port = 1 + (step*i+n)%9
			}
			for port := 1; port <= 9; port++ {
				var with, without []impl.Container
				for _, x := range list {
					if x.Port == port {
						with = append(with, x)
					} else {
						without = append(without, x)
					}
				}
				some, others, ok := impl.SplitManifest(list, port)
				if !ok || !slices.Equal(some, with) || !slices.Equal(others, without) {
					t.Errorf("SplitManifest(%v, %d) = %v, %v, %v", list, port, some, others, ok)
				}
			}
		}
	}
}

func TestSplitManifestWithoutThePort(t *testing.T) {
	list := boxes(12)
	for port := 5; port <= 9; port++ {
		some, others, ok := impl.SplitManifest(list, port)
		if !ok || len(some) != 0 || !slices.Equal(others, list) {
			t.Errorf("SplitManifest at %d = %v, %v, %v", port, some, others, ok)
		}
	}
	for port := 1; port <= 9; port++ {
		if some, others, ok := impl.SplitManifest(nil, port); !ok || len(some) != 0 || len(others) != 0 {
			t.Errorf("SplitManifest of nothing at %d = %v, %v, %v", port, some, others, ok)
		}
		for i := range list {
			list[i].Port = port
		}
		some, others, ok := impl.SplitManifest(list, port)
		if !ok || !slices.Equal(some, list) || len(others) != 0 {
			t.Errorf("SplitManifest at the only port %d = %v, %v, %v", port, some, others, ok)
		}
	}
}

func wantNoSplitManifest(t *testing.T, list []impl.Container, port int) {
	t.Helper()
	if some, others, ok := impl.SplitManifest(list, port); ok || len(some) != 0 || len(others) != 0 {
		t.Errorf("SplitManifest of %d at %d = %v, %v, %v", len(list), port, some, others, ok)
	}
}

func TestSplitManifestAtPortsOutOfRange(t *testing.T) {
	for _, port := range []int{math.MinInt, -3, -1, 0, 10, 11, 257, math.MaxInt} {
		for _, list := range [][]impl.Container{nil, boxes(1), boxes(12)} {
			wantNoSplitManifest(t, list, port)
		}
	}
}

func TestInvalidManifestsYieldZeroValues(t *testing.T) {
	for name, list := range invalidLists() {
		if counts, ok := impl.PortCounts(list); ok || len(counts) != 0 {
			t.Errorf("%s: PortCounts = %v, %v", name, counts, ok)
		}
		for port := -1; port <= 11; port++ {
			wantNoSplitManifest(t, list, port)
		}
		for _, pair := range [][2][]impl.Container{
			{list, boxes(2)}, {boxes(2), list}, {list, nil}, {nil, list}, {list, list}, {boxes(12), list}, {list, otherSerials(12)},
		} {
			wantNoMerged(t, pair[0], pair[1])
			added, gone, changed, ok := impl.ManifestChanges(pair[0], pair[1])
			if ok || len(added)+len(gone)+len(changed) != 0 {
				t.Errorf("%s: ManifestChanges = %v, %v, %v, %v", name, added, gone, changed, ok)
			}
		}
	}
}

// A container that would be replaced is to be valid all the same.
func TestMergeManifestsWithAReplacedInvalidContainer(t *testing.T) {
	for name, x := range invalidContainers() {
		x.Id = "ABC0001F"
		if impl.IsValidContainer(x) {
			continue
		}
		good := []impl.Container{box("ABC0001F"), box("ABC0002N")}
		if got, ok := impl.MergeManifests([]impl.Container{x}, good); ok || len(got) != 0 {
			t.Errorf("%s: MergeManifests = %v, %v", name, got, ok)
		}
	}
}

// A manifest with an Id twice is invalid, also where the other one has this Id.
func TestMergeManifestsWithAnIdTwice(t *testing.T) {
	for i, x := range boxes(12) {
		for _, y := range append(otherBoxes(x), x) {
			twice := []impl.Container{x, y}
			wantNoMerged(t, boxes(12), twice)
			wantNoMerged(t, twice, boxes(12))
			wantNoMerged(t, boxes(12)[:i+1], twice)
			wantNoMerged(t, twice, []impl.Container{x})
		}
	}
}

// callAllOfManifests calls every function of chapter 4 that takes lists.
func callAllOfManifests(a []impl.Container, b []impl.Container) {
	for _, list := range [][]impl.Container{a, b} {
		impl.ManifestText(list)
		impl.PortCounts(list)
		for port := range 11 {
			impl.SplitManifest(list, port)
		}
		impl.ManifestChanges(list, list)
		impl.MergeManifests(list, list)
	}
	impl.ManifestChanges(a, b)
	impl.ManifestChanges(b, a)
	impl.MergeManifests(a, b)
	impl.MergeManifests(b, a)
}

func TestManifestsAreLeftAlone(t *testing.T) {
	lists := invalidLists()
	for n := range 13 {
		lists[fmt.Sprint("valid ", n)] = boxes(n)
		lists[fmt.Sprint("others ", n)] = otherSerials(n)
	}
	changed := boxes(6)
	for i := range changed {
		changed[i] = otherBoxes(changed[i])[i]
	}
	for name, list := range lists {
		for _, other := range [][]impl.Container{boxes(6), changed, otherSerials(3)} {
			before, otherBefore := slices.Clone(list), slices.Clone(other)
			callAllOfManifests(list, other)
			if !slices.Equal(list, before) || !slices.Equal(other, otherBefore) {
				t.Errorf("%s: a list is changed", name)
			}
		}
	}
}

func TestContainersBeyondTheLengthAreLeftAlone(t *testing.T) {
	row := append(boxes(2), impl.Container{Id: "x"}, boxes(1)[0])
	row = slices.Grow(row, 20)
	others := append(otherSerials(2), impl.Container{}, otherSerials(1)[0])
	before, othersBefore := slices.Clone(row), slices.Clone(others)
	callAllOfManifests(row[:2], others[:2])
	wantMerged(t, row[:2], others[:2], append(boxes(2), otherSerials(2)...))
	wantChanges(t, row[:2], others[:2], [3][]string{boxIds(otherSerials(2)), boxIds(boxes(2)), nil})
	if s, ok := impl.ManifestText(row[:2]); !ok || s != listText(boxes(2)) {
		t.Errorf("ManifestText of two of four = %q, %v", s, ok)
	}
	if counts, ok := impl.PortCounts(row[:2]); !ok || !slices.Equal(counts, [][2]int{{1, 1}, {2, 1}}) {
		t.Errorf("PortCounts of two of four = %v, %v", counts, ok)
	}
	if some, rest, ok := impl.SplitManifest(row[:2], 1); !ok || !slices.Equal(some, boxes(1)) || !slices.Equal(rest, boxes(2)[1:]) {
		t.Errorf("SplitManifest of two of four = %v, %v, %v", some, rest, ok)
	}
	if !slices.Equal(row, before) || !slices.Equal(others, othersBefore) {
		t.Error("an element beyond the length is changed")
	}
}

// spoilAll changes every element of a slice, those beyond its length too.
func spoilAll[T any](list []T, with T) {
	whole := list[:cap(list)]
	for i := range whole {
		whole[i] = with
	}
}

var spoiledBox = impl.Container{Id: "spoiled", Size: -1, Weight: -1, Cargo: -1, Port: -1}

func TestMergedManifestsAreNew(t *testing.T) {
	for n := range 13 {
		for k := range 13 - n {
			a, b := boxes(n), otherSerials(k)
			for _, pair := range [][2][]impl.Container{{a, b}, {a, a}, {a, nil}, {nil, b}} {
				first, _ := impl.MergeManifests(pair[0], pair[1])
				want := slices.Clone(first)
				spoilAll(first, spoiledBox)
				wantMerged(t, pair[0], pair[1], want)
				if !slices.Equal(a, boxes(n)) || !slices.Equal(b, otherSerials(k)) {
					t.Fatal("a change of the merged manifest changes a list")
				}
			}
		}
	}
}

func TestSplitManifestsAreNew(t *testing.T) {
	for n := range 13 {
		for port := 1; port <= 9; port++ {
			list := boxes(n)
			some, others, _ := impl.SplitManifest(list, port)
			wantSome, wantOthers := slices.Clone(some), slices.Clone(others)
			spoilAll(some, spoiledBox)
			if !slices.Equal(others, wantOthers) || !slices.Equal(list, boxes(n)) {
				t.Errorf("a change of the containers of %d for %d changes more", n, port)
			}
			some, others, _ = impl.SplitManifest(list, port)
			spoilAll(others, spoiledBox)
			if !slices.Equal(some, wantSome) || !slices.Equal(list, boxes(n)) {
				t.Errorf("a change of the containers of %d not for %d changes more", n, port)
			}
			some, others, _ = impl.SplitManifest(list, port)
			clear(list)
			if !slices.Equal(some, wantSome) || !slices.Equal(others, wantOthers) {
				t.Errorf("a change of the list of %d changes the containers for %d", n, port)
			}
		}
	}
}

func TestChangesOfManifestsAreNew(t *testing.T) {
	a, b := overlappingManifests()
	want := changesByPairs(a, b)
	for k := range 3 {
		added, gone, changed, _ := impl.ManifestChanges(a, b)
		results := [3][]string{added, gone, changed}
		spoilAll(results[k], "spoiled")
		for i := range 3 {
			if i != k && !slices.Equal(results[i], want[i]) {
				t.Errorf("a change of result %d changes result %d", k, i)
			}
		}
		wantChanges(t, a, b, want)
	}
}

func TestParsedManifestsAndCountsAreNew(t *testing.T) {
	for n := range 13 {
		text := listText(boxes(n))
		first, _ := impl.ParseManifest(text)
		spoilAll(first, spoiledBox)
		if again, ok := impl.ParseManifest(text); !ok || !slices.Equal(again, boxes(n)) {
			t.Errorf("the second result of ParseManifest of %d is %v, %v", n, again, ok)
		}
		list := boxes(n)
		counts, _ := impl.PortCounts(list)
		want := slices.Clone(counts)
		spoilAll(counts, [2]int{-1, -1})
		if again, ok := impl.PortCounts(list); !ok || !slices.Equal(again, want) {
			t.Errorf("the second result of PortCounts of %d is %v, %v", n, again, ok)
		}
	}
}

func TestResultsStayWhenTheManifestsChange(t *testing.T) {
	a, b := overlappingManifests()
	wantIds, wantList := changesByPairs(a, b), mergedByPutting(a, b)
	added, gone, changed, _ := impl.ManifestChanges(a, b)
	merged, _ := impl.MergeManifests(a, b)
	counts, _ := impl.PortCounts(a)
	wantCounts := slices.Clone(counts)
	spoilAll(a, spoiledBox)
	spoilAll(b, spoiledBox)
	if !slices.Equal(added, wantIds[0]) || !slices.Equal(gone, wantIds[1]) || !slices.Equal(changed, wantIds[2]) {
		t.Errorf("the changes are now %v, %v, %v", added, gone, changed)
	}
	if !slices.Equal(merged, wantList) || !slices.Equal(counts, wantCounts) {
		t.Errorf("the results are now %v and %v", merged, counts)
	}
}

// A map is read in another order each time.
func TestResultsAboutManifestsAreTheSameEachTime(t *testing.T) {
	a, b := overlappingManifests()
	wantIds, wantList := changesByPairs(a, b), mergedByPutting(a, b)
	for range 200 {
		wantChanges(t, a, b, wantIds)
		wantMerged(t, a, b, wantList)
		if s, ok := impl.ManifestText(a); !ok || s != listText(a) {
			t.Errorf("ManifestText = %q, %v", s, ok)
		}
		if list, ok := impl.ParseManifest(listText(a)); !ok || !slices.Equal(list, a) {
			t.Errorf("ParseManifest = %v, %v", list, ok)
		}
	}
}
