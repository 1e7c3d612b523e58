package tests

import (
	"fmt"
	"math"
	"regexp"
	"slices"
	"strings"
	"testing"

	"loop.example/g00906/impl"
)

// voyage returns the rotation with the given pairs of a port and its days.
func voyage(pairs ...int) impl.Rotation {
	var r impl.Rotation
	for i := 0; i < len(pairs); i += 2 {
		r.Ports = append(r.Ports, pairs[i])
		r.Days = append(r.Days, pairs[i+1])
	}
	return r
}

// longVoyage returns a valid rotation of 1..12 calls with all different days; ports are called
// several times if there are more calls than ports in the pattern.
func longVoyage(n int, ports ...int) impl.Rotation {
	var r impl.Rotation
	for i := range n {
		r.Ports = append(r.Ports, ports[i%len(ports)])
		r.Days = append(r.Days, 1+(7*i+3)%40)
	}
	// The last call may be a neighbor of the first one.
	if n > 1 && r.Ports[n-1] == r.Ports[0] {
		r.Ports[n-1] = 9
	}
	return r
}

// shortVoyages returns all valid rotations of at most 4 calls at the ports 1 to 3 with 1, 2 or 40 days.
func shortVoyages() []impl.Rotation {
	var all []impl.Rotation
	rows := []impl.Rotation{{}}
	for range 4 {
		var next []impl.Rotation
		for _, r := range rows {
			for port := 1; port <= 3; port++ {
				for _, days := range []int{1, 2, 40} {
					next = append(next, impl.Rotation{
						Ports: append(slices.Clone(r.Ports), port), Days: append(slices.Clone(r.Days), days),
					})
				}
			}
		}
		rows = next
		for _, r := range rows {
			if keepsNeighborsApart(r.Ports) {
				all = append(all, r)
			}
		}
	}
	return all
}

func keepsNeighborsApart(ports []int) bool {
	if len(ports) == 1 {
		return true
	}
	round := append(slices.Clone(ports), ports[0])
	for i, port := range round[1:] {
		if round[i] == port {
			return false
		}
	}
	return true
}

func sampleVoyages() []impl.Rotation {
	all := shortVoyages()
	for n := 1; n <= 12; n++ {
		all = append(all,
			longVoyage(n, 1, 2), longVoyage(n, 8, 7), longVoyage(n, 1, 2, 3), longVoyage(n, 5, 1, 5, 2),
			longVoyage(n, 1, 2, 3, 4, 5, 6, 7, 8), longVoyage(n, 4, 3, 2, 1, 2, 3))
	}
	all = append(all, voyage(9, 40), voyage(1, 1), voyage(1, 40, 9, 40))
	return all
}

func sameVoyage(a impl.Rotation, b impl.Rotation) bool {
	return slices.Equal(a.Ports, b.Ports) && slices.Equal(a.Days, b.Days)
}

func copyVoyage(r impl.Rotation) impl.Rotation {
	return impl.Rotation{Ports: slices.Clone(r.Ports), Days: slices.Clone(r.Days)}
}

func emptyVoyage(r impl.Rotation) bool { return len(r.Ports) == 0 && len(r.Days) == 0 }

// walkedDays goes from call to call, as an oracle.
func walkedDays(r impl.Rotation, i int, k int) int {
	days := 0
	for i != k {
		days += r.Days[i]
		i++
		if i == len(r.Ports) {
			i = 0
		}
	}
	return days
}

// invalidVoyages has a rotation for every reason for which one is invalid.
func invalidVoyages() map[string]impl.Rotation {
	all := map[string]impl.Rotation{
		"nothing":                    {},
		"empty slices":               {Ports: []int{}, Days: []int{}},
		"ports only":                 {Ports: []int{1, 2}},
		"days only":                  {Days: []int{1, 2}},
		"a day missing":              {Ports: []int{1, 2, 3}, Days: []int{1, 2}},
		"a day more":                 {Ports: []int{1, 2, 3}, Days: []int{1, 2, 3, 4}},
		"a day more for one":         {Ports: []int{1}, Days: []int{1, 2}},
		"12 and 13":                  {Ports: longVoyage(12, 1, 2).Ports, Days: slices.Repeat([]int{1}, 13)},
		"13 and 12":                  {Ports: longVoyage(13, 1, 2).Ports, Days: slices.Repeat([]int{1}, 12)},
		"13 calls":                   longVoyage(13, 1, 2),
		"24 calls":                   longVoyage(24, 1, 2),
		"many calls":                 longVoyage(100000, 1, 2),
		"two calls at a port":        voyage(1, 1, 1, 1),
		"three calls at a port":      voyage(4, 1, 4, 2, 4, 3),
		"neighbors first":            voyage(2, 3, 2, 3, 1, 3),
		"neighbors last":             voyage(1, 3, 2, 3, 2, 3),
		"the last and the first one": voyage(2, 3, 1, 3, 2, 3),
	}
	for _, n := range []int{math.MinInt, -1, 0, 10, 11, math.MaxInt} {
		all[fmt.Sprint("port ", n)] = voyage(n, 5)
		all[fmt.Sprint("first port ", n)] = voyage(n, 5, 1, 6, 2, 7)
		all[fmt.Sprint("last port ", n)] = voyage(1, 5, 2, 6, n, 7)
	}
	for _, n := range []int{math.MinInt, -1, 0, 41, 42, math.MaxInt} {
		all[fmt.Sprint("days ", n)] = voyage(1, n)
		all[fmt.Sprint("first days ", n)] = voyage(1, n, 2, 5, 3, 6)
		all[fmt.Sprint("last days ", n)] = voyage(1, 5, 2, 6, 3, n)
	}
	for i := range 12 {
		r := longVoyage(12, 1, 2, 3, 4)
		r.Ports[i] = r.Ports[(i+1)%12]
		all[fmt.Sprint("neighbors at ", i)] = r
	}
	return all
}

// noCalls has numbers that are no call of any rotation of n calls.
func noCalls(n int) []int {
	return []int{math.MinInt, -n - 1, -n, -2, -1, n, n + 1, 2 * n, math.MaxInt}
}

func wantNoVoyageText(t *testing.T, s string) {
	t.Helper()
	if r, ok := impl.ParseRotation(s); ok || !emptyVoyage(r) {
		t.Errorf("ParseRotation(%.40q) = %v, %v", s, r, ok)
	}
}

// wantNoCall checks every function that takes a call of a rotation; other is a further call,
// which may exist.
func wantNoCall(t *testing.T, r impl.Rotation, i int, other int) {
	t.Helper()
	for _, pair := range [][2]int{{i, other}, {other, i}, {i, i}} {
		if days, ok := impl.DaysBetween(r, pair[0], pair[1]); ok || days != 0 {
			t.Errorf("DaysBetween(%v, %v) = %d, %v", r, pair, days, ok)
		}
	}
	for port := -1; port <= 10; port++ {
		if call, days, ok := impl.NextCall(r, i, port); ok || call != 0 || days != 0 {
			t.Errorf("NextCall(%v, %d, %d) = %d, %d, %v", r, i, port, call, days, ok)
		}
	}
	if ports, ok := impl.PortsAhead(r, i); ok || len(ports) != 0 {
		t.Errorf("PortsAhead(%v, %d) = %v, %v", r, i, ports, ok)
	}
	if turned, ok := impl.TurnRotation(r, i); ok || !emptyVoyage(turned) {
		t.Errorf("TurnRotation(%v, %d) = %v, %v", r, i, turned, ok)
	}
}

func wantNoLoading(t *testing.T, r impl.Rotation, from int, to int) {
	t.Helper()
	if call, days, ok := impl.BestLoading(r, from, to); ok || call != 0 || days != 0 {
		t.Errorf("BestLoading(%v, %d, %d) = %d, %d, %v", r, from, to, call, days, ok)
	}
}

func wantCycle(t *testing.T, a impl.Rotation, b impl.Rotation, want bool) {
	t.Helper()
	if got, ok := impl.SameCycle(a, b); !ok || got != want {
		t.Errorf("SameCycle(%v, %v) = %v, %v", a, b, got, ok)
	}
}

func TestLimitOfCalls(t *testing.T) {
	if impl.MaxCalls != 12 {
		t.Error("MaxCalls", impl.MaxCalls)
	}
}

func TestValidRotations(t *testing.T) {
	for _, r := range sampleVoyages() {
		if !impl.IsValidRotation(r) {
			t.Errorf("%v is not valid", r)
		}
	}
	for port := 1; port <= 9; port++ {
		for days := 1; days <= 40; days++ {
			if !impl.IsValidRotation(voyage(port, days)) || !impl.IsValidRotation(voyage(port, days, port%9+1, 41-days)) {
				t.Errorf("port %d, days %d", port, days)
			}
		}
	}
	shared := []int{1, 2, 3}
	if !impl.IsValidRotation(impl.Rotation{Ports: shared, Days: shared}) {
		t.Error("a rotation with the same slice twice is not valid")
	}
}

func TestInvalidRotations(t *testing.T) {
	for name, r := range invalidVoyages() {
		if impl.IsValidRotation(r) {
			t.Errorf("%s is valid", name)
		}
	}
}

// isVoyageByRule checks pairs of ports and days, as an oracle.
func isVoyageByRule(r impl.Rotation) bool {
	for i, port := range r.Ports {
		if !slices.Contains([]int{1, 2, 3, 4, 5, 6, 7, 8, 9}, port) || r.Days[i] <= 0 || r.Days[i] >= 41 {
			return false
		}
	}
	return keepsNeighborsApart(r.Ports)
}

func TestValidityOfAllNumbersAroundTheLimits(t *testing.T) {
	rows := []impl.Rotation{{}}
	for range 3 {
		var next []impl.Rotation
		for _, r := range rows {
			for _, port := range []int{0, 1, 2, 9, 10} {
				for _, days := range []int{0, 1, 40, 41} {
					longer := copyVoyage(r)
					longer.Ports, longer.Days = append(longer.Ports, port), append(longer.Days, days)
					if got := impl.IsValidRotation(longer); got != isVoyageByRule(longer) {
						t.Errorf("IsValidRotation(%v) = %v", longer, got)
					}
					next = append(next, longer)
				}
			}
		}
		rows = next
	}
}

func TestInvalidRotationsYieldZeroValues(t *testing.T) {
	good := voyage(1, 3, 4, 2, 2, 10)
	for name, r := range invalidVoyages() {
		if days, ok := impl.CycleDays(r); ok || days != 0 {
			t.Errorf("%s: CycleDays = %d, %v", name, days, ok)
		}
		for i := -1; i <= 13; i++ {
			wantNoCall(t, r, i, 0)
		}
		for from := -1; from <= 10; from++ {
			for to := -1; to <= 10; to++ {
				wantNoLoading(t, r, from, to)
			}
		}
		for _, pair := range [][2]impl.Rotation{{r, good}, {good, r}, {r, r}, {r, {}}} {
			if same, ok := impl.SameCycle(pair[0], pair[1]); ok || same {
				t.Errorf("%s: SameCycle = %v, %v", name, same, ok)
			}
		}
		if s, ok := impl.RotationText(r); ok || s != "" {
			t.Errorf("%s: RotationText = %q, %v", name, s, ok)
		}
	}
}

func TestCallsThatThereAreNot(t *testing.T) {
	for _, r := range sampleVoyages() {
		for _, i := range noCalls(len(r.Ports)) {
			for other := range r.Ports {
				wantNoCall(t, r, i, other)
			}
		}
	}
}

func TestCycleDays(t *testing.T) {
	for _, x := range []struct {
		r    impl.Rotation
		want int
	}{
		{voyage(1, 3, 4, 2, 2, 10), 15},
		{voyage(1, 1), 1},
		{voyage(9, 40), 40},
		{voyage(1, 40, 9, 40), 80},
		{impl.Rotation{Ports: longVoyage(12, 1, 2).Ports, Days: slices.Repeat([]int{40}, 12)}, 480},
		{impl.Rotation{Ports: longVoyage(12, 1, 2).Ports, Days: slices.Repeat([]int{1}, 12)}, 12},
	} {
		if got, ok := impl.CycleDays(x.r); !ok || got != x.want {
			t.Errorf("CycleDays(%v) = %d, %v", x.r, got, ok)
		}
	}
	for _, r := range sampleVoyages() {
		want := 0
		for _, days := range r.Days {
			want += days
		}
		if got, ok := impl.CycleDays(r); !ok || got != want {
			t.Errorf("CycleDays(%v) = %d, %v", r, got, ok)
		}
	}
}

func TestDaysBetween(t *testing.T) {
	r := voyage(1, 3, 4, 2, 2, 10)
	for i, row := range [][]int{{0, 3, 5}, {12, 0, 2}, {10, 13, 0}} {
		for k, want := range row {
			if got, ok := impl.DaysBetween(r, i, k); !ok || got != want {
				t.Errorf("DaysBetween(%d, %d) = %d, %v", i, k, got, ok)
			}
		}
	}
	if got, ok := impl.DaysBetween(voyage(5, 7), 0, 0); !ok || got != 0 {
		t.Errorf("DaysBetween in a rotation of one call = %d, %v", got, ok)
	}
}

func TestDaysBetweenAllCalls(t *testing.T) {
	for _, r := range sampleVoyages() {
		for i := range r.Ports {
			for k := range r.Ports {
				if got, ok := impl.DaysBetween(r, i, k); !ok || got != walkedDays(r, i, k) {
					t.Errorf("DaysBetween(%v, %d, %d) = %d, %v", r, i, k, got, ok)
				}
			}
		}
	}
}

func TestWaysInBothDirectionsTakeTheWholeRound(t *testing.T) {
	for _, r := range sampleVoyages() {
		cycle, ok := impl.CycleDays(r)
		if !ok {
			t.Fatalf("CycleDays(%v) failed", r)
		}
		for i := range r.Ports {
			for k := range r.Ports {
				there, thereOk := impl.DaysBetween(r, i, k)
				back, backOk := impl.DaysBetween(r, k, i)
				want := cycle
				if i == k {
					want = 0
				}
				if !thereOk || !backOk || there+back != want {
					t.Errorf("%v: %d to %d takes %d, and back %d, of %d", r, i, k, there, back, cycle)
				}
			}
		}
	}
}

func TestNextCall(t *testing.T) {
	r := voyage(5, 2, 1, 3, 5, 4, 2, 6)
	for _, x := range []struct{ i, port, call, days int }{
		{0, 5, 0, 0}, {0, 1, 1, 2}, {0, 2, 3, 9},
		{1, 5, 2, 3}, {1, 1, 1, 0}, {1, 2, 3, 7},
		{2, 5, 2, 0}, {2, 1, 1, 12}, {2, 2, 3, 4},
		{3, 5, 0, 6}, {3, 1, 1, 8}, {3, 2, 3, 0},
	} {
		if call, days, ok := impl.NextCall(r, x.i, x.port); !ok || call != x.call || days != x.days {
			t.Errorf("NextCall from %d at %d = %d, %d, %v", x.i, x.port, call, days, ok)
		}
	}
	if call, days, ok := impl.NextCall(voyage(7, 40), 0, 7); !ok || call != 0 || days != 0 {
		t.Errorf("NextCall in a rotation of one call = %d, %d, %v", call, days, ok)
	}
}

// nearestCall compares the ways to all calls at a port, as an oracle; it is -1 if there is none.
func nearestCall(r impl.Rotation, i int, port int) int {
	nearest := -1
	for k := range r.Ports {
		if r.Ports[k] == port && (nearest < 0 || walkedDays(r, i, k) < walkedDays(r, i, nearest)) {
			nearest = k
		}
	}
	return nearest
}

func TestNextCallAtAllPorts(t *testing.T) {
	for _, r := range sampleVoyages() {
		for i := range r.Ports {
			for _, port := range []int{math.MinInt, -1, 0, 1, 2, 3, 4, 5, 6, 7, 8, 9, 10, math.MaxInt} {
				call, days, ok := impl.NextCall(r, i, port)
				want := nearestCall(r, i, port)
				if want < 0 {
					if ok || call != 0 || days != 0 {
						t.Errorf("NextCall(%v, %d, %d) = %d, %d, %v", r, i, port, call, days, ok)
					}
				} else if !ok || call != want || days != walkedDays(r, i, want) {
					t.Errorf("NextCall(%v, %d, %d) = %d, %d, %v", r, i, port, call, days, ok)
				}
			}
		}
	}
}

func TestBestLoading(t *testing.T) {
	for _, x := range []struct {
		r                    impl.Rotation
		from, to, call, days int
	}{
		{voyage(1, 3, 4, 2, 2, 10), 1, 2, 0, 5},
		{voyage(1, 3, 4, 2, 2, 10), 2, 1, 2, 10},
		{voyage(1, 3, 4, 2, 2, 10), 2, 4, 2, 13},
		// The later call is better, over the end and without it.
		{voyage(1, 9, 2, 8, 1, 5, 3, 1), 1, 2, 0, 9},
		{voyage(1, 9, 2, 8, 1, 5, 3, 1), 1, 3, 2, 5},
		{voyage(2, 8, 1, 9, 2, 8, 1, 7), 1, 2, 3, 7},
		// Ties, two of them over the end.
		{voyage(1, 4, 2, 8, 1, 4, 2, 6), 1, 2, 0, 4},
		{voyage(2, 8, 1, 4, 2, 6, 1, 4), 1, 2, 1, 4},
		{voyage(3, 1, 2, 8, 1, 5, 3, 1, 2, 6, 1, 5), 1, 2, 2, 6},
		// A call at from on the way from another one.
		{voyage(1, 1, 3, 1, 1, 1, 2, 1), 1, 2, 2, 1},
		{voyage(1, 40, 9, 40), 9, 1, 1, 40},
	} {
		if call, days, ok := impl.BestLoading(x.r, x.from, x.to); !ok || call != x.call || days != x.days {
			t.Errorf("BestLoading(%v, %d, %d) = %d, %d, %v", x.r, x.from, x.to, call, days, ok)
		}
	}
}

func TestBestLoadingAtAllPorts(t *testing.T) {
	for _, r := range sampleVoyages() {
		for from := 0; from <= 10; from++ {
			for to := 0; to <= 10; to++ {
				if from == to || !slices.Contains(r.Ports, from) || !slices.Contains(r.Ports, to) {
					wantNoLoading(t, r, from, to)
					continue
				}
				best, fewest := -1, math.MaxInt
				for i, port := range r.Ports {
					if days := walkedDays(r, i, nearestCall(r, i, to)); port == from && days < fewest {
						best, fewest = i, days
					}
				}
				if call, days, ok := impl.BestLoading(r, from, to); !ok || call != best || days != fewest {
					t.Errorf("BestLoading(%v, %d, %d) = %d, %d, %v", r, from, to, call, days, ok)
				}
			}
		}
	}
}

func TestBestLoadingWithoutACall(t *testing.T) {
	r := voyage(1, 3, 4, 2, 1, 2, 2, 10)
	for _, pair := range [][2]int{
		{1, 1}, {2, 2}, {3, 3}, {0, 0}, {1, 3}, {3, 1}, {3, 5}, {1, 0}, {0, 1}, {10, 1}, {1, 10},
		{-1, 1}, {1, -1}, {math.MinInt, 1}, {1, math.MaxInt},
	} {
		wantNoLoading(t, r, pair[0], pair[1])
	}
	wantNoLoading(t, voyage(1, 5), 1, 1)
	wantNoLoading(t, voyage(1, 5), 1, 2)
	wantNoLoading(t, voyage(1, 5), 2, 1)
}

func TestPortsAhead(t *testing.T) {
	r := voyage(5, 2, 1, 3, 5, 4, 2, 6)
	for i, want := range [][]int{{5, 1, 2}, {1, 5, 2}, {5, 2, 1}, {2, 5, 1}} {
		if got, ok := impl.PortsAhead(r, i); !ok || !slices.Equal(got, want) {
			t.Errorf("PortsAhead from %d = %v, %v", i, got, ok)
		}
	}
	if got, ok := impl.PortsAhead(voyage(9, 1), 0); !ok || !slices.Equal(got, []int{9}) {
		t.Errorf("PortsAhead in a rotation of one call = %v, %v", got, ok)
	}
	for _, r := range sampleVoyages() {
		for i := range r.Ports {
			var want []int
			for _, port := range append(slices.Clone(r.Ports[i:]), r.Ports[:i]...) {
				if !slices.Contains(want, port) {
					want = append(want, port)
				}
			}
			if got, ok := impl.PortsAhead(r, i); !ok || !slices.Equal(got, want) {
				t.Errorf("PortsAhead(%v, %d) = %v, %v", r, i, got, ok)
			}
		}
	}
}

func TestTurnRotation(t *testing.T) {
	r := voyage(1, 3, 4, 2, 2, 10)
	for i, want := range []impl.Rotation{
		voyage(1, 3, 4, 2, 2, 10), voyage(4, 2, 2, 10, 1, 3), voyage(2, 10, 1, 3, 4, 2),
	} {
		if got, ok := impl.TurnRotation(r, i); !ok || !sameVoyage(got, want) {
			t.Errorf("TurnRotation by %d = %v, %v", i, got, ok)
		}
	}
	if got, ok := impl.TurnRotation(voyage(6, 12), 0); !ok || !sameVoyage(got, voyage(6, 12)) {
		t.Errorf("TurnRotation of a rotation of one call = %v, %v", got, ok)
	}
	for _, r := range sampleVoyages() {
		for i := range r.Ports {
			turned, ok := impl.TurnRotation(r, i)
			if !ok || len(turned.Ports) != len(r.Ports) || len(turned.Days) != len(r.Days) {
				t.Fatalf("TurnRotation(%v, %d) = %v, %v", r, i, turned, ok)
			}
			for k := range r.Ports {
				at := (i + k) % len(r.Ports)
				if turned.Ports[k] != r.Ports[at] || turned.Days[k] != r.Days[at] {
					t.Errorf("TurnRotation(%v, %d) = %v", r, i, turned)
				}
			}
		}
	}
}

func TestSameCycleOfTurnedRotations(t *testing.T) {
	for _, r := range sampleVoyages() {
		wantCycle(t, r, r, true)
		wantCycle(t, r, copyVoyage(r), true)
		for i := range r.Ports {
			turned, ok := impl.TurnRotation(r, i)
			if !ok {
				t.Fatalf("TurnRotation(%v, %d) failed", r, i)
			}
			wantCycle(t, r, turned, true)
			wantCycle(t, turned, r, true)
		}
	}
}

func TestSameCycleOfShortRotations(t *testing.T) {
	all := shortVoyages()[:250]
	for _, a := range all {
		for _, b := range all {
			want := false
			for i := range a.Ports {
				ports := append(slices.Clone(a.Ports[i:]), a.Ports[:i]...)
				days := append(slices.Clone(a.Days[i:]), a.Days[:i]...)
				want = want || slices.Equal(ports, b.Ports) && slices.Equal(days, b.Days)
			}
			wantCycle(t, a, b, want)
		}
	}
}

func TestSameCycleWithOneOtherNumber(t *testing.T) {
	for n := 1; n <= 12; n++ {
		// All days differ, so that a changed one is found in no turn.
		r := longVoyage(n, 1, 2, 3, 4)
		for i := range n {
			other := copyVoyage(r)
			other.Ports[i] = 7
			wantCycle(t, r, other, false)
			wantCycle(t, other, r, false)
			other = copyVoyage(r)
			other.Days[i] = 40
			wantCycle(t, r, other, false)
			wantCycle(t, other, r, false)
		}
	}
}

func TestSameCycleOfOtherRotations(t *testing.T) {
	r := voyage(1, 3, 4, 2, 2, 10)
	for _, other := range []impl.Rotation{
		voyage(1, 3), voyage(1, 3, 4, 2), voyage(1, 3, 4, 2, 2, 10, 3, 1), voyage(2, 10, 4, 2, 1, 3),
		voyage(1, 2, 4, 10, 2, 3), voyage(4, 3, 2, 2, 1, 10), voyage(1, 3, 4, 2, 2, 10, 1, 3, 4, 2, 2, 10),
	} {
		wantCycle(t, r, other, false)
		wantCycle(t, other, r, false)
	}
}

func TestRotationText(t *testing.T) {
	for s, r := range map[string]impl.Rotation{
		"1:3 4:2 2:10":             voyage(1, 3, 4, 2, 2, 10),
		"1:1":                      voyage(1, 1),
		"9:40":                     voyage(9, 40),
		"1:2 3:1 1:1 2:9 1:2 9:10": voyage(1, 2, 3, 1, 1, 1, 2, 9, 1, 2, 9, 10),
		"1:40 2:40 1:40 2:40 1:40 2:40 1:40 2:40 1:40 2:40 1:40 2:40": {
			Ports: slices.Repeat([]int{1, 2}, 6), Days: slices.Repeat([]int{40}, 12),
		},
	} {
		if got, ok := impl.RotationText(r); !ok || got != s {
			t.Errorf("RotationText(%v) = %q, %v", r, got, ok)
		}
		if got, ok := impl.ParseRotation(s); !ok || !sameVoyage(got, r) {
			t.Errorf("ParseRotation(%q) = %v, %v", s, got, ok)
		}
	}
}

func TestRotationsAreRecoveredFromTheirTexts(t *testing.T) {
	for _, r := range sampleVoyages() {
		var calls []string
		for i, port := range r.Ports {
			calls = append(calls, fmt.Sprintf("%d:%d", port, r.Days[i]))
		}
		want := strings.Join(calls, " ")
		if got, ok := impl.RotationText(r); !ok || got != want {
			t.Errorf("RotationText(%v) = %q, %v", r, got, ok)
		}
		if got, ok := impl.ParseRotation(want); !ok || !sameVoyage(got, r) {
			t.Errorf("ParseRotation(%q) = %v, %v", want, got, ok)
		}
	}
}

func TestParseRotationRejects(t *testing.T) {
	for _, s := range []string{
		"", " ", ":", "1", "1:", ":3", "1 3", "13", "1:3 ", " 1:3", "1:3  4:2", "1:34:2", "1:3 4", "1:3 4:", "1:3 :2",
		"1::3", "1:3:", ":1:3", "1:3:4", "1:3 4::2", "1: 3", "1 :3", "1:3,4:2", "1:3\n4:2", "1:3\n", "1:3\t4:2", "1;3", "1:3\x00",
		"01:3", "1:03", "1:003", "001:3", "+1:3", "1:+3", "-1:3", "1:-3", "-0:3", "1:-0", "1.0:3", "1:3.0", "1e0:3", "0x1:3", "1:0x3",
		"0:3", "10:3", "11:3", "1:0", "1:41", "1:100", "1:99999", "9:41", "4294967297:3", "18446744073709551617:3", "1:18446744073709551619",
		"1:3 1:3", "1:3 1:4", "1:3 2:3 2:3", "1:3 1:3 2:3", "1:3 2:3 1:3", "a:3", "1:b", "\xd9\xa1:3", "1:\xef\xbc\x93",
		"1:3 4:2 2:10 ", "1:3 4:2 2:10x", strings.Repeat("1:3 2:3 ", 6) + "3:1", strings.Repeat("1:3 2:3 ", 7)[:55],
		strings.Repeat("1:3 2:3 ", 6), strings.Repeat("1:3 2:3 ", 499) + "1:3 2:3", strings.Repeat("1:3 2:3 ", 1<<17),
		strings.Repeat(" ", 4000), strings.Repeat(":", 4001), strings.Repeat("1", 4000),
	} {
		wantNoVoyageText(t, s)
	}
}

// Texts of rotations that are not valid are no texts.
func TestParseRotationRejectsInvalidRotations(t *testing.T) {
	for _, r := range invalidVoyages() {
		if len(r.Ports) != len(r.Days) {
			continue
		}
		var calls []string
		for i, port := range r.Ports {
			calls = append(calls, fmt.Sprintf("%d:%d", port, r.Days[i]))
		}
		wantNoVoyageText(t, strings.Join(calls, " "))
	}
}

var callShape = regexp.MustCompile(`\A[1-9]:([1-9]|[1-3][0-9]|40)( [1-9]:([1-9]|[1-3][0-9]|40)){0,11}\z`)

// isVoyageText tells by the shape of the calls and their first bytes, as an oracle.
func isVoyageText(s string) bool {
	if !callShape.MatchString(s) {
		return false
	}
	var ports []int
	for call := range strings.SplitSeq(s, " ") {
		ports = append(ports, int(call[0]))
	}
	return keepsNeighborsApart(ports)
}

func wantParsedIfText(t *testing.T, s string) {
	t.Helper()
	r, ok := impl.ParseRotation(s)
	if !isVoyageText(s) {
		if ok || !emptyVoyage(r) {
			t.Errorf("ParseRotation(%q) = %v, %v", s, r, ok)
		}
		return
	}
	if text, textOk := impl.RotationText(r); !ok || !textOk || text != s {
		t.Errorf("ParseRotation(%q) = %v, %v, whose text is %q", s, r, ok, text)
	}
}

func TestParseRotationOfAllShortStrings(t *testing.T) {
	for _, s := range wordsOver("12: 0-", 7) {
		wantParsedIfText(t, s)
	}
}

func TestParseRotationWithEveryByteAtEveryPlace(t *testing.T) {
	for _, r := range []impl.Rotation{
		voyage(1, 3), voyage(1, 3, 4, 2, 2, 10), voyage(9, 40, 8, 39), longVoyage(12, 1, 2, 3),
	} {
		s, ok := impl.RotationText(r)
		if !ok {
			t.Fatalf("RotationText(%v) failed", r)
		}
		for i := range len(s) {
			wantParsedIfText(t, s[:i]+s[i+1:])
			wantParsedIfText(t, s[:i])
			for c := range 256 {
				wantParsedIfText(t, replaced(s, i, byte(c)))
				wantParsedIfText(t, s[:i]+string([]byte{byte(c)})+s[i:])
			}
		}
	}
}

// callAllOfVoyage calls every function of chapter 3 that takes a rotation.
func callAllOfVoyage(r impl.Rotation, i int) {
	impl.IsValidRotation(r)
	impl.CycleDays(r)
	impl.DaysBetween(r, i, 0)
	impl.DaysBetween(r, 0, i)
	impl.NextCall(r, i, 2)
	impl.BestLoading(r, 1, 2)
	impl.PortsAhead(r, i)
	impl.TurnRotation(r, i)
	impl.SameCycle(r, voyage(1, 3, 2, 4))
	impl.SameCycle(voyage(1, 3, 2, 4), r)
	impl.SameCycle(r, r)
	impl.RotationText(r)
}

func TestRotationsAreLeftAlone(t *testing.T) {
	all := invalidVoyages()
	for n := 1; n <= 12; n++ {
		all[fmt.Sprint("valid ", n)] = longVoyage(n, 1, 2, 3)
	}
	for name, r := range all {
		before := copyVoyage(r)
		for i := -1; i <= 13; i++ {
			callAllOfVoyage(r, i)
		}
		if !sameVoyage(r, before) {
			t.Errorf("%s: the rotation is changed", name)
		}
	}
}

func TestCallsBeyondTheLengthAreLeftAlone(t *testing.T) {
	long := voyage(1, 3, 2, 4, 1, 99, 77, 5)
	before := copyVoyage(long)
	r := impl.Rotation{Ports: long.Ports[:2], Days: long.Days[:2]}
	for i := -1; i <= 4; i++ {
		callAllOfVoyage(r, i)
	}
	if !sameVoyage(long, before) {
		t.Error("an element beyond the length is changed")
	}
	if days, ok := impl.CycleDays(r); !ok || days != 7 {
		t.Errorf("CycleDays of two of four = %d, %v", days, ok)
	}
	if ports, ok := impl.PortsAhead(r, 1); !ok || !slices.Equal(ports, []int{2, 1}) {
		t.Errorf("PortsAhead of two of four = %v, %v", ports, ok)
	}
	if turned, ok := impl.TurnRotation(r, 1); !ok || !sameVoyage(turned, voyage(2, 4, 1, 3)) {
		t.Errorf("TurnRotation of two of four = %v, %v", turned, ok)
	}
	if s, ok := impl.RotationText(r); !ok || s != "1:3 2:4" {
		t.Errorf("RotationText of two of four = %q, %v", s, ok)
	}
}

// spoil changes every element of a slice, those beyond its length too.
func spoil(list []int) {
	whole := list[:cap(list)]
	for i := range whole {
		whole[i] = -7
	}
}

// Slices that were one are a hard case for a result with two slices.
func TestTurnedRotationsAreNew(t *testing.T) {
	shared := []int{1, 2, 3, 4}
	for _, r := range []impl.Rotation{
		voyage(6, 12), longVoyage(12, 1, 2, 3), {Ports: shared, Days: shared}, {Ports: shared[:2], Days: shared[1:3]},
	} {
		before := copyVoyage(r)
		for i := range before.Ports {
			first, _ := impl.TurnRotation(r, i)
			second, _ := impl.TurnRotation(r, i)
			want := copyVoyage(first)
			spoil(first.Ports)
			if !slices.Equal(first.Days, want.Days) || !sameVoyage(second, want) || !sameVoyage(r, before) {
				t.Errorf("a change of the Ports of turn %d of %v changes more", i, before)
			}
			spoil(first.Days)
			if !sameVoyage(second, want) || !sameVoyage(r, before) {
				t.Errorf("a change of the Days of turn %d of %v changes more", i, before)
			}
		}
	}
}

func TestPortsAheadAreNew(t *testing.T) {
	for _, r := range []impl.Rotation{voyage(6, 12), voyage(1, 3, 4, 2, 2, 10), longVoyage(12, 1, 2, 3)} {
		before := copyVoyage(r)
		for i := range r.Ports {
			first, _ := impl.PortsAhead(r, i)
			want := slices.Clone(first)
			spoil(first)
			again, ok := impl.PortsAhead(r, i)
			if !ok || !slices.Equal(again, want) || !sameVoyage(r, before) {
				t.Errorf("a change of the ports ahead of call %d of %v changes more", i, before)
			}
		}
	}
}

func TestParsedRotationsAreNew(t *testing.T) {
	for _, s := range []string{"6:12", "1:3 4:2 2:10", "1:1 2:2 1:1 2:2 1:1 2:2 1:1 2:2 1:1 2:2 1:1 2:2"} {
		first, _ := impl.ParseRotation(s)
		second, _ := impl.ParseRotation(s)
		want := copyVoyage(first)
		spoil(first.Ports)
		if !slices.Equal(first.Days, want.Days) || !sameVoyage(second, want) {
			t.Errorf("a change of the Ports of %q changes more", s)
		}
		spoil(first.Days)
		if !sameVoyage(second, want) {
			t.Errorf("a change of the Days of %q changes more", s)
		}
	}
}

func TestResultsStayWhenTheRotationChanges(t *testing.T) {
	for i := range 12 {
		r := longVoyage(12, 1, 2, 3)
		turned, _ := impl.TurnRotation(r, i)
		ahead, _ := impl.PortsAhead(r, i)
		wantTurned, wantAhead := copyVoyage(turned), slices.Clone(ahead)
		spoil(r.Ports)
		spoil(r.Days)
		if !sameVoyage(turned, wantTurned) || !slices.Equal(ahead, wantAhead) {
			t.Errorf("the results for call %d are now %v and %v", i, turned, ahead)
		}
	}
}
