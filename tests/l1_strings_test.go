package tests

import (
	"bytes"
	"fmt"
	"math"
	"math/big"
	"regexp"
	"slices"
	"strings"
	"testing"

	"loop.example/g00906/impl"
)

// wordsOver returns all strings of at most length bytes of an alphabet.
func wordsOver(alphabet string, length int) []string {
	words := []string{""}
	last := words
	for range length {
		var next []string
		for _, w := range last {
			for i := range len(alphabet) {
				next = append(next, w+alphabet[i:i+1])
			}
		}
		words = append(words, next...)
		last = next
	}
	return words
}

// sumByPowers computes a checksum without the step-by-step remainder, as an oracle.
func sumByPowers(s string) int {
	sum := big.NewInt(7)
	for i := range len(s) {
		sum.Mul(sum, big.NewInt(41))
		sum.Add(sum, big.NewInt(int64(s[i])+1))
	}
	return int(sum.Mod(sum, big.NewInt(999979)).Int64())
}

// sampleTexts has no string with a `#`.
func sampleTexts() []string {
	var all []byte
	for c := range 256 {
		if c != '#' {
			all = append(all, byte(c))
		}
	}
	return []string{
		"", "a", "ab", "0", "-1", " ", "\x00", "\x00\x00", "\xff", "\n", "7", "385",
		"ABC0001F small 12000 plain 3\n", "caf\xc3\xa9", string(all),
	}
}

func mustSeal(t *testing.T, s string) string {
	t.Helper()
	sealed, ok := impl.AppendChecksum(s)
	if !ok {
		t.Fatalf("AppendChecksum of %d bytes failed", len(s))
	}
	return sealed
}

func wantNoSplit(t *testing.T, s string, sep string) {
	t.Helper()
	if got, ok := impl.SplitString(s, sep); ok || len(got) != 0 {
		t.Errorf("SplitString of %d bytes at %q = %d elements, %v", len(s), sep, len(got), ok)
	}
}

func wantNoJoin(t *testing.T, parts []string, sep string) {
	t.Helper()
	if got, ok := impl.JoinStrings(parts, sep); ok || got != "" {
		t.Errorf("JoinStrings of %d elements with %q = %d bytes, %v", len(parts), sep, len(got), ok)
	}
}

func TestLimitsOfStrings(t *testing.T) {
	if impl.MaxString != 4000 || impl.MaxDecimal != 999999 {
		t.Error("limits", impl.MaxString, impl.MaxDecimal)
	}
}

func TestFormatAndParseRoundTrip(t *testing.T) {
	for n := -999999; n <= 999999; n++ {
		s, ok := impl.FormatInt(n)
		if want := fmt.Sprint(n); !ok || s != want {
			t.Fatalf("FormatInt(%d) = %q, %v", n, s, ok)
		}
		if m, ok := impl.ParseInt(s); !ok || m != n {
			t.Fatalf("ParseInt(%q) = %d, %v", s, m, ok)
		}
	}
}

func TestFormatIntBeyondLimits(t *testing.T) {
	for _, n := range []int{1000000, -1000000, 9999999, math.MaxInt, math.MinInt, 1 << 32, -1 << 32} {
		if s, ok := impl.FormatInt(n); ok || s != "" {
			t.Errorf("FormatInt(%d) = %q, %v", n, s, ok)
		}
	}
}

func TestParseIntRejectsOtherSpellings(t *testing.T) {
	for _, s := range []string{
		"", "-", "+", "-0", "+0", "+1", "--1", "+-1", "00", "01", "-01", "000001", "0000001",
		" 1", "1 ", "1\n", "1x", "x1", "1.0", "1e3", "0x1", "1_0", "1,0", "\x001", "1\x00",
		"1000000", "-1000000", "9999999", "-9999999", "18446744073709551616",
		"18446744073709551617", "-18446744073709551615", "4294967297",
		"\xd9\xa1", "\xef\xbc\x91", "\xe2\x88\x921", strings.Repeat("9", 5000), strings.Repeat("0", 5000),
	} {
		if n, ok := impl.ParseInt(s); ok || n != 0 {
			t.Errorf("ParseInt(%q) = %d, %v", s, n, ok)
		}
	}
}

func TestParseIntTakesJustTheFormattedNumbers(t *testing.T) {
	decimal := regexp.MustCompile(`^(0|-?[1-9][0-9]{0,5})$`)
	words := wordsOver("019-+ _x.", 5)
	for _, w := range wordsOver("09", 4) {
		words = append(words, "9999"+w, "-9999"+w, "1000"+w, "-1000"+w)
	}
	for _, s := range words {
		n, ok := impl.ParseInt(s)
		if ok != decimal.MatchString(s) {
			t.Errorf("ParseInt(%q) = %d, %v", s, n, ok)
		}
		if ok && fmt.Sprint(n) != s || !ok && n != 0 {
			t.Errorf("ParseInt(%q) = %d, %v", s, n, ok)
		}
	}
}

func TestSplitString(t *testing.T) {
	for _, c := range []struct {
		s, sep string
		want   []string
	}{
		{"a,,b", ",", []string{"a", "", "b"}},
		{"", ",", []string{""}},
		{",", ",", []string{"", ""}},
		{",,", ",", []string{"", "", ""}},
		{"a", ",", []string{"a"}},
		{",a", ",", []string{"", "a"}},
		{"a,", ",", []string{"a", ""}},
		{"a,b;c", ";", []string{"a,b", "c"}},
		{"ab\x00c", "\x00", []string{"ab", "c"}},
		{"caf\xc3\xa9", "\xc3", []string{"caf", "\xa9"}},
		{"\xff\xff", "\xff", []string{"", "", ""}},
		{"x\ny\n", "\n", []string{"x", "y", ""}},
	} {
		if got, ok := impl.SplitString(c.s, c.sep); !ok || !slices.Equal(got, c.want) {
			t.Errorf("SplitString(%q, %q) = %q, %v", c.s, c.sep, got, ok)
		}
	}
}

func TestSplitStringRejects(t *testing.T) {
	for _, sep := range []string{"", ",,", ", ", "\xc3\xa9", strings.Repeat(",", 5000)} {
		for _, s := range []string{"", "a", "a,,b", ",,"} {
			wantNoSplit(t, s, sep)
		}
	}
	wantNoSplit(t, strings.Repeat("a", 4001), ",")
	wantNoSplit(t, strings.Repeat(",", 4001), ",")
	wantNoSplit(t, strings.Repeat("a", 4001), "")
}

func TestSplitStringAtTheLimit(t *testing.T) {
	whole := strings.Repeat("a", 4000)
	if got, ok := impl.SplitString(whole, ","); !ok || len(got) != 1 || got[0] != whole {
		t.Errorf("no separator: %d elements, %v", len(got), ok)
	}
	got, ok := impl.SplitString(strings.Repeat(",", 4000), ",")
	if !ok || len(got) != 4001 || strings.Join(got, "") != "" {
		t.Errorf("separators alone: %d elements, %v", len(got), ok)
	}
}

func TestSplitAndJoinRoundTrip(t *testing.T) {
	for _, s := range append(wordsOver("a,;", 6), sampleTexts()...) {
		for _, sep := range []string{",", ";", "a", "#", "\x00", "\xc3"} {
			parts, ok := impl.SplitString(s, sep)
			if !ok || len(parts) != strings.Count(s, sep)+1 {
				t.Fatalf("SplitString(%q, %q) = %q, %v", s, sep, parts, ok)
			}
			if back, ok := impl.JoinStrings(parts, sep); !ok || back != s {
				t.Fatalf("JoinStrings(%q, %q) = %q, %v", parts, sep, back, ok)
			}
		}
	}
}

func TestSplitAndJoinWithEveryByte(t *testing.T) {
	for c := range 256 {
		sep := string([]byte{byte(c)})
		other := string([]byte{byte(c) + 1, byte(c) ^ 0x80})
		parts := []string{other, "", other}
		s, ok := impl.JoinStrings(parts, sep)
		if !ok || s != other+sep+sep+other {
			t.Errorf("JoinStrings(%q, %q) = %q, %v", parts, sep, s, ok)
		}
		if back, ok := impl.SplitString(s, sep); !ok || !slices.Equal(back, parts) {
			t.Errorf("SplitString(%q, %q) = %q, %v", s, sep, back, ok)
		}
	}
}

func TestJoinStrings(t *testing.T) {
	for _, c := range []struct {
		parts []string
		sep   string
		want  string
	}{
		{[]string{"a", "", "b"}, ";", "a;;b"},
		{[]string{""}, ";", ""},
		{[]string{"", ""}, ";", ";"},
		{[]string{"a"}, ";", "a"},
		{[]string{"a", ""}, ";", "a;"},
		{[]string{"", "a"}, ";", ";a"},
		{[]string{"a,b", "c"}, ";", "a,b;c"},
		{[]string{"x", "x", "x"}, "\x00", "x\x00x\x00x"},
	} {
		if got, ok := impl.JoinStrings(c.parts, c.sep); !ok || got != c.want {
			t.Errorf("JoinStrings(%q, %q) = %q, %v", c.parts, c.sep, got, ok)
		}
	}
}

func TestJoinStringsRejects(t *testing.T) {
	wantNoJoin(t, nil, ";")
	wantNoJoin(t, []string{}, ";")
	wantNoJoin(t, nil, "")
	for _, sep := range []string{"", ";;", "; ", "\xc3\xa9"} {
		wantNoJoin(t, []string{"a", "b"}, sep)
		wantNoJoin(t, []string{"a"}, sep)
		wantNoJoin(t, []string{""}, sep)
	}
	for _, inside := range []string{";", ";;", "a;", ";a", "a;b", "\x00;\x00"} {
		wantNoJoin(t, []string{inside}, ";")
		wantNoJoin(t, []string{inside, "x", ""}, ";")
		wantNoJoin(t, []string{"", "x", inside}, ";")
		wantNoJoin(t, []string{"x", inside, "y"}, ";")
	}
	wantNoJoin(t, []string{"caf\xc3\xa9"}, "\xa9")
}

func TestJoinStringsAtTheLimit(t *testing.T) {
	for _, c := range []struct {
		parts []string
		ok    bool
	}{
		{[]string{strings.Repeat("a", 4000)}, true},
		{[]string{strings.Repeat("a", 4001)}, false},
		{[]string{strings.Repeat("a", 3999), ""}, true},
		{[]string{strings.Repeat("a", 4000), ""}, false},
		{[]string{"", strings.Repeat("a", 3999)}, true},
		{[]string{"", strings.Repeat("a", 4000)}, false},
		{[]string{strings.Repeat("a", 2000), strings.Repeat("b", 1999)}, true},
		{[]string{strings.Repeat("a", 2000), strings.Repeat("b", 2000)}, false},
		{[]string{strings.Repeat("a", 4001), "b"}, false},
		{make([]string, 4001), true},
		{make([]string, 4002), false},
		{make([]string, 100000), false},
	} {
		if !c.ok {
			wantNoJoin(t, c.parts, ";")
			continue
		}
		got, ok := impl.JoinStrings(c.parts, ";")
		if !ok || len(got) != 4000 || got != strings.Join(c.parts, ";") {
			t.Errorf("%d elements: %d bytes, %v", len(c.parts), len(got), ok)
		}
	}
}

// A program that joined first and looked at the length afterwards would run out of memory.
func TestJoinStringsOfHugeTotal(t *testing.T) {
	parts := slices.Repeat([]string{strings.Repeat("a", 1<<24)}, 1<<16)
	wantNoJoin(t, parts, ";")
}

func TestArgumentsOfJoinAreLeftAlone(t *testing.T) {
	row := []string{"a", "b", "x;y", "c"}
	if got, ok := impl.JoinStrings(row[:2], ";"); !ok || got != "a;b" {
		t.Errorf("JoinStrings of a prefix = %q, %v", got, ok)
	}
	if !slices.Equal(row, []string{"a", "b", "x;y", "c"}) {
		t.Errorf("the argument is now %q", row)
	}
}

func TestResultsOfSplitAreNew(t *testing.T) {
	first, _ := impl.SplitString("a,b", ",")
	first[0] = "changed"
	_ = append(first, "more")
	if second, ok := impl.SplitString("a,b", ","); !ok || !slices.Equal(second, []string{"a", "b"}) {
		t.Errorf("the second result is %q, %v", second, ok)
	}
}

func TestLessString(t *testing.T) {
	words := append(wordsOver("\x00Aa\x80\xff", 3), sampleTexts()...)
	long := strings.Repeat("a", 5000)
	words = append(words, long, long+"a", long+"b", "\xc3\xa9", "z")
	for _, a := range words {
		for _, b := range words {
			if got := impl.LessString(a, b); got != (bytes.Compare([]byte(a), []byte(b)) < 0) {
				t.Errorf("LessString(%q, %q) = %v", a, b, got)
			}
		}
	}
}

func TestChecksum(t *testing.T) {
	for s, want := range map[string]int{
		"": 7, "a": 385, "ab": 15884, "abc": 651344, "abcd": 705751, "\x00": 288, "\xff": 543, "#": 323,
	} {
		if got, ok := impl.Checksum(s); !ok || got != want {
			t.Errorf("Checksum(%q) = %d, %v", s, got, ok)
		}
	}
	for _, s := range append(wordsOver("a#\x00\xff", 5), sampleTexts()...) {
		if got, ok := impl.Checksum(s); !ok || got != sumByPowers(s) {
			t.Errorf("Checksum(%q) = %d, %v", s, got, ok)
		}
	}
}

func TestChecksumAtTheLimit(t *testing.T) {
	for _, unit := range []string{"a", "\x00", "\xff", "#"} {
		s := strings.Repeat(unit, 4000)
		if got, ok := impl.Checksum(s); !ok || got != sumByPowers(s) {
			t.Errorf("Checksum of 4000 times %q = %d, %v", unit, got, ok)
		}
		if got, ok := impl.Checksum(s + unit); ok || got != 0 {
			t.Errorf("Checksum of 4001 times %q = %d, %v", unit, got, ok)
		}
	}
}

func TestAppendAndVerifyRoundTrip(t *testing.T) {
	for _, s := range append(wordsOver("a1\x00", 6), sampleTexts()...) {
		sealed, ok := impl.AppendChecksum(s)
		if want := s + "#" + fmt.Sprint(sumByPowers(s)); !ok || sealed != want {
			t.Fatalf("AppendChecksum(%q) = %q, %v", s, sealed, ok)
		}
		if back, ok := impl.VerifyChecksum(sealed); !ok || back != s {
			t.Fatalf("VerifyChecksum(%q) = %q, %v", sealed, back, ok)
		}
	}
}

func TestAppendChecksumRejects(t *testing.T) {
	for _, s := range []string{"#", "a#", "#a", "a#b", "a#385", "##", strings.Repeat("a", 4001)} {
		if got, ok := impl.AppendChecksum(s); ok || got != "" {
			t.Errorf("AppendChecksum of %d bytes = %q, %v", len(s), got, ok)
		}
	}
}

func TestAppendChecksumAtTheLimit(t *testing.T) {
	met, exceeded := false, false
	for size := 3985; size <= 4000; size++ {
		for _, unit := range []string{"a", "b", "\x00"} {
			s := strings.Repeat(unit, size)
			want := s + "#" + fmt.Sprint(sumByPowers(s))
			got, ok := impl.AppendChecksum(s)
			if fits := len(want) <= 4000; ok != fits || fits && got != want || !fits && got != "" {
				t.Errorf("AppendChecksum of %d times %q = %d bytes, %v", size, unit, len(got), ok)
			}
			back, ok := impl.VerifyChecksum(want)
			if fits := len(want) <= 4000; ok != fits || fits && back != s || !fits && back != "" {
				t.Errorf("VerifyChecksum of %d bytes = %d bytes, %v", len(want), len(back), ok)
			}
			met = met || len(want) == 4000
			exceeded = exceeded || len(want) == 4001
		}
	}
	if !met || !exceeded {
		t.Error("the samples miss the limit", met, exceeded)
	}
}

func TestVerifyChecksumRejects(t *testing.T) {
	for _, s := range []string{
		"", "a", "#", "##", "7", "385", "a#", "#a", "#0", "#07", "#+7", "##7", "#7#", "#7 ", " #7",
		"a#384", "a#386", "a#0385", "a#+385", "a#-385", "a# 385", "a#385 ", "a#385\n", "a#385#1",
		"a#1000364", "a##385", "#a#385", "b#385", "A#385", "a385", "a#38", "a#85", "aa#385",
		"a#385a", "a#b#385", "a#385#385",
	} {
		if got, ok := impl.VerifyChecksum(s); ok || got != "" {
			t.Errorf("VerifyChecksum(%q) = %q, %v", s, got, ok)
		}
	}
}

func TestVerifyChecksumOfTextWithMark(t *testing.T) {
	s := "a#b"
	sealed := s + "#" + fmt.Sprint(sumByPowers(s))
	if got, ok := impl.VerifyChecksum(sealed); ok || got != "" {
		t.Errorf("VerifyChecksum(%q) = %q, %v", sealed, got, ok)
	}
}

func TestEverySingleChangedByteIsDetected(t *testing.T) {
	for _, s := range sampleTexts() {
		sealed := mustSeal(t, s)
		for i := range len(sealed) {
			changed := []byte(sealed)
			for c := range 256 {
				if byte(c) == sealed[i] {
					continue
				}
				changed[i] = byte(c)
				if got, ok := impl.VerifyChecksum(string(changed)); ok || got != "" {
					t.Fatalf("byte %d of %q as %d is accepted", i, sealed, c)
				}
			}
		}
	}
}

func TestChangedByteOfALongStringIsDetected(t *testing.T) {
	sealed := mustSeal(t, strings.Repeat("manifest\n", 443))
	for i := range len(sealed) {
		changed := []byte(sealed)
		for _, step := range []byte{1, 41, 128, 255} {
			changed[i] = sealed[i] + step
			if got, ok := impl.VerifyChecksum(string(changed)); ok || got != "" {
				t.Fatalf("byte %d plus %d is accepted", i, step)
			}
		}
	}
}
