package tests

import (
	"fmt"
	"math"
	"math/big"
	"regexp"
	"slices"
	"strings"
	"testing"

	"loop.example/g01158/impl"
)

func TestLimitsOfStrings(t *testing.T) {
	if impl.MaxString != 4000 || impl.MaxDecimal != 999999 {
		t.Error("limits", impl.MaxString, impl.MaxDecimal)
	}
}

func TestFormatIntAndParseIntRoundTrip(t *testing.T) {
	for n := -impl.MaxDecimal; n <= impl.MaxDecimal; n++ {
		s, ok := impl.FormatInt(n)
		if !ok || s != fmt.Sprint(n) {
			t.Fatalf("FormatInt(%d) = %q, %v", n, s, ok)
		}
		if m, ok := impl.ParseInt(s); !ok || m != n {
			t.Fatalf("ParseInt(%q) = %d, %v", s, m, ok)
		}
	}
}

func TestFormatIntOutside(t *testing.T) {
	for _, n := range []int{impl.MaxDecimal + 1, -impl.MaxDecimal - 1, 1 << 32, -(1 << 32), math.MaxInt, math.MinInt, math.MinInt + 1} {
		s, ok := impl.FormatInt(n)
		wantText(t, fmt.Sprintf("FormatInt(%d)", n), s, ok, "", false)
	}
}

func TestParseIntOfOtherTexts(t *testing.T) {
	for _, s := range []string{
		"", "-", "+", "--", "-0", "+0", "00", "-00", "01", "-01", "+1", "+12", "--1", "-+1", "+-1", "1-",
		"1000000", "-1000000", "0999999", "999999 ", " 1", "1 ", "- 1", "1\n", "\x001", "1\x00", "1_0", "1,0", "1.0", "1e3",
		"0x1", "0b1", "1a", "a", "\u0661", "\uff11", "\u22121", "\xb1",
		"9223372036854775807", "9223372036854775808", "-9223372036854775808", "-9223372036854775809",
		"18446744073709551616", "18446744073709551617", "4294967297", strings.Repeat("0", 20), strings.Repeat("0", 20) + "1",
		strings.Repeat("9", impl.MaxString), strings.Repeat("1", 100000), "-" + strings.Repeat("1", 100000),
	} {
		n, ok := impl.ParseInt(s)
		wantInt(t, fmt.Sprintf("ParseInt(%q)", shorten(s)), n, ok, 0, false)
	}
}

func TestParseIntOfShortTexts(t *testing.T) {
	decimal := regexp.MustCompile(`^(0|-?[1-9][0-9]{0,5})$`)
	allTexts("+-0159 a", 5, func(s string) {
		n, ok := impl.ParseInt(s)
		if ok != decimal.MatchString(s) {
			t.Fatalf("ParseInt(%q) = %d, %v", s, n, ok)
		}
		if ok && fmt.Sprint(n) != s || !ok && n != 0 {
			t.Fatalf("ParseInt(%q) = %d", s, n)
		}
	})
}

func TestSplitStringOfGivenTexts(t *testing.T) {
	for _, c := range []struct {
		s, sep string
		want   []string
	}{
		{"a,,b", ",", []string{"a", "", "b"}},
		{"", ",", []string{""}},
		{",", ",", []string{"", ""}},
		{",,", ",", []string{"", "", ""}},
		{"a", ",", []string{"a"}},
		{",a,", ",", []string{"", "a", ""}},
		{"a;b", ",", []string{"a;b"}},
		{"a\x00b", "\x00", []string{"a", "b"}},
		{"a\nb\n", "\n", []string{"a", "b", ""}},
		{"\xff\xfe\xff", "\xff", []string{"", "\xfe", ""}},
		{"\u00e9", "\xc3", []string{"", "\xa9"}},
		{"\u00e9", "\xa9", []string{"\xc3", ""}},
		{"\ufffd", "\xff", []string{"\ufffd"}},
	} {
		got, ok := impl.SplitString(c.s, c.sep)
		if !ok || !slices.Equal(got, c.want) {
			t.Errorf("SplitString(%q, %q) = %q, %v; want %q", c.s, c.sep, got, ok, c.want)
		}
	}
}

func TestSplitStringFails(t *testing.T) {
	for _, c := range [][2]string{
		{"a,b", ""}, {"a,b", ",,"}, {"a,,b", ",,"}, {"", ""}, {"", ",,"}, {"a\u00e9b", "\u00e9"}, {"a", strings.Repeat(",", 5000)},
		{strings.Repeat("a", impl.MaxString+1), ","}, {strings.Repeat(",", impl.MaxString+1), ","},
		{strings.Repeat("a", impl.MaxString+1), ""}, {strings.Repeat("a,", 100000), ","},
	} {
		if got, ok := impl.SplitString(c[0], c[1]); ok || len(got) != 0 {
			t.Errorf("SplitString(%q, %q) gave %d parts, %v", shorten(c[0]), shorten(c[1]), len(got), ok)
		}
	}
}

func TestSplitStringOfLongTexts(t *testing.T) {
	if got, ok := impl.SplitString(strings.Repeat("a", impl.MaxString), ","); !ok || len(got) != 1 || len(got[0]) != impl.MaxString {
		t.Error("one part of MaxString bytes:", len(got), ok)
	}
	if got, ok := impl.SplitString(strings.Repeat(",", impl.MaxString), ","); !ok || len(got) != impl.MaxString+1 {
		t.Error("MaxString separators:", len(got), ok)
	}
	s := strings.Repeat("\u00e9", impl.MaxString/2)
	if got, ok := impl.SplitString(s, ","); !ok || len(got) != 1 || got[0] != s {
		t.Error("MaxString bytes of two-byte runes:", len(got), ok)
	}
	if _, ok := impl.SplitString(s+"a", ","); ok {
		t.Error("fewer runes than MaxString, but more bytes")
	}
}

func TestSplitAndJoinRoundTrip(t *testing.T) {
	r := newRandom()
	for _, alphabet := range []string{"a,", "ab,;#@ \n", "\x00\xff\x80\xc3\xa9", allBytes()} {
		for k := range 500 {
			s := randomText(r, alphabet, r.Intn(40)+k/499*(impl.MaxString-40))
			sep := randomText(r, alphabet, 1)
			parts, ok := impl.SplitString(s, sep)
			if !ok || !slices.Equal(parts, strings.Split(s, sep)) {
				t.Fatalf("SplitString(%q, %q) = %q, %v", shorten(s), sep, parts, ok)
			}
			if len(parts) != 1+strings.Count(s, sep) {
				t.Fatalf("SplitString(%q, %q) has %d parts", shorten(s), sep, len(parts))
			}
			if joined, ok := impl.JoinStrings(parts, sep); !ok || joined != s {
				t.Fatalf("JoinStrings(%q, %q) = %q, %v", parts, sep, shorten(joined), ok)
			}
		}
	}
}

func TestJoinAndSplitRoundTrip(t *testing.T) {
	r := newRandom()
	for range 2000 {
		parts := make([]string, 1+r.Intn(6))
		for i := range parts {
			parts[i] = randomText(r, "ab,\xff", r.Intn(4))
		}
		within := strings.Contains(strings.Join(parts, ""), ",")
		s, ok := impl.JoinStrings(parts, ",")
		if ok == within {
			t.Fatalf("JoinStrings(%q) = %q, %v", parts, s, ok)
		}
		if !ok {
			wantText(t, fmt.Sprintf("JoinStrings(%q)", parts), s, ok, "", false)
			continue
		}
		if back, ok := impl.SplitString(s, ","); !ok || !slices.Equal(back, parts) {
			t.Fatalf("SplitString(%q) = %q, %v; want %q", s, back, ok, parts)
		}
	}
}

func TestJoinStringsOfGivenParts(t *testing.T) {
	full := strings.Repeat("a", impl.MaxString)
	for _, c := range []struct {
		parts []string
		sep   string
		want  string
		ok    bool
	}{
		{[]string{"a", "", "b"}, ";", "a;;b", true},
		{[]string{""}, ";", "", true},
		{[]string{"", ""}, ";", ";", true},
		{[]string{"a"}, ";", "a", true},
		{[]string{"a", "b"}, "\xff", "a\xffb", true},
		{[]string{"\u00e9"}, ";", "\u00e9", true},
		{nil, ";", "", false},
		{[]string{}, ";", "", false},
		{nil, "", "", false},
		{[]string{"a", "b"}, "", "", false},
		{[]string{"a"}, "", "", false},
		{[]string{"a", "b"}, ";;", "", false},
		{[]string{"a", "b"}, "\u00e9", "", false},
		{[]string{";"}, ";", "", false},
		{[]string{"a;b"}, ";", "", false},
		{[]string{";a", "b"}, ";", "", false},
		{[]string{"a", "b;"}, ";", "", false},
		{[]string{"a", "", ";", "b"}, ";", "", false},
		{[]string{"\u00e9", "a"}, "\xa9", "", false},
		{[]string{full}, ";", full, true},
		{[]string{full + "a"}, ";", "", false},
		{[]string{full, ""}, ";", "", false},
		{[]string{"", full}, ";", "", false},
		{[]string{full[1:], ""}, ";", full[1:] + ";", true},
		{[]string{full[2:], "b"}, ";", full[2:] + ";b", true},
		{[]string{full[2:], "bb"}, ";", "", false},
		{[]string{full[:2000], full[:1999]}, ";", full[:2000] + ";" + full[:1999], true},
		{[]string{full[:2000], full[:2000]}, ";", "", false},
		{[]string{full, full}, ";", "", false},
		{make([]string, impl.MaxString+1), ";", strings.Repeat(";", impl.MaxString), true},
		{make([]string, impl.MaxString+2), ";", "", false},
		{make([]string, 100000), ";", "", false},
	} {
		got, ok := impl.JoinStrings(c.parts, c.sep)
		wantText(t, fmt.Sprintf("JoinStrings(%s, %q)", shorten(fmt.Sprintf("%q", c.parts)), c.sep), got, ok, c.want, c.ok)
	}
}

func TestSplitAndJoinKeepNoMemory(t *testing.T) {
	parts := []string{"a", "", "b", "c"}
	part := parts[1:3]
	if s, ok := impl.JoinStrings(part, ";"); !ok || s != ";b" {
		t.Error("joined", s, ok)
	}
	if !slices.Equal(parts, []string{"a", "", "b", "c"}) {
		t.Error("JoinStrings changed its argument:", parts)
	}
	first, _ := impl.SplitString("a,b", ",")
	second, _ := impl.SplitString("a,b", ",")
	first[0], first[1] = "x", "y"
	third, _ := impl.SplitString("a,b", ",")
	if !slices.Equal(second, []string{"a", "b"}) || !slices.Equal(third, []string{"a", "b"}) {
		t.Error("results of SplitString share memory:", second, third)
	}
}

func TestLessString(t *testing.T) {
	ordered := []string{"", "\x00", "\x00\x00", "\x00a", " ", "#", "-1", "0", "1", "10", "2", "A", "Z", "a", "a\x00", "aB", "aa", "ab", "abc", "b", "ba", "\x7f", "\x80", "\xc3", "\u00e9", "\ue000", "\U00010000", "\xff", "\xff\x00", "\xff\xff"}
	for i, a := range ordered {
		for j, b := range ordered {
			if impl.LessString(a, b) != (i < j) {
				t.Errorf("LessString(%q, %q) = %v", a, b, i >= j)
			}
		}
	}
	long := strings.Repeat("a", 2*impl.MaxString)
	if !impl.LessString(long, long+"a") || impl.LessString(long+"b", long+"a") || impl.LessString(long, long) {
		t.Error("long texts")
	}
}

// plainChecksum sums up the powers of 41, instead of updating one number.
func plainChecksum(s string) int {
	sum := new(big.Int).Mul(big.NewInt(7), power(len(s)))
	for i := range len(s) {
		c := big.NewInt(int64(s[i]) + 1)
		sum.Add(sum, c.Mul(c, power(len(s)-1-i)))
	}
	return int(sum.Mod(sum, big.NewInt(999979)).Int64())
}

func power(k int) *big.Int {
	return new(big.Int).Exp(big.NewInt(41), big.NewInt(int64(k)), big.NewInt(999979))
}

func TestChecksum(t *testing.T) {
	for s, want := range map[string]int{"": 7, "a": 385, "\x00": 288, "\xff": 543, "#": 323} {
		n, ok := impl.Checksum(s)
		wantInt(t, fmt.Sprintf("Checksum(%q)", s), n, ok, want, true)
	}
	r := newRandom()
	for _, size := range []int{1, 2, 3, 4, 5, 10, 100, 1000, impl.MaxString - 1, impl.MaxString} {
		for range 5 {
			s := randomText(r, allBytes(), size)
			n, ok := impl.Checksum(s)
			wantInt(t, fmt.Sprintf("Checksum(%q)", shorten(s)), n, ok, plainChecksum(s), true)
		}
	}
	for _, size := range []int{impl.MaxString + 1, impl.MaxString + 2, 1000000} {
		n, ok := impl.Checksum(strings.Repeat("a", size))
		wantInt(t, fmt.Sprintf("Checksum of %d bytes", size), n, ok, 0, false)
	}
}

// textWithDigits returns a text of some bytes whose checksum has so many decimal digits.
func textWithDigits(t *testing.T, size int, digits int) string {
	t.Helper()
	start := strings.Repeat("x", size-4)
	h := plainChecksum(start)
	found := ""
	next := func(h int, c byte) int { return (41*h + int(c) + 1) % 999979 }
	allTexts("0123456789abcdefghijklmnopqrstuvwxyzABCDEFGHIJKLMNOPQRSTUVWXYZ", 1, func(a string) {
		for b := byte('$'); a != "" && b < 127 && found == ""; b++ {
			for c := byte('$'); c < 127 && found == ""; c++ {
				for d := byte('$'); d < 127 && found == ""; d++ {
					if sum := next(next(next(next(h, a[0]), b), c), d); len(fmt.Sprint(sum)) == digits {
						found = start + a + string([]byte{b, c, d})
					}
				}
			}
		}
	})
	if found == "" {
		t.Fatal("no text with digits:", size, digits)
	}
	return found
}

func TestAppendChecksumOfGivenTexts(t *testing.T) {
	for _, c := range []struct {
		s, want string
		ok      bool
	}{
		{"a", "a#385", true},
		{"", "#7", true},
		{"\x00", "\x00#288", true},
		{"\xff", "\xff#543", true},
		{"#", "", false},
		{"a#", "", false},
		{"#a", "", false},
		{"a#b", "", false},
		{"a#385", "", false},
		{strings.Repeat("a", impl.MaxString-1), "", false},
		{strings.Repeat("a", impl.MaxString), "", false},
		{strings.Repeat("a", impl.MaxString+1), "", false},
		{strings.Repeat("#", impl.MaxString+1), "", false},
		{strings.Repeat("a", 1000000), "", false},
	} {
		got, ok := impl.AppendChecksum(c.s)
		wantText(t, fmt.Sprintf("AppendChecksum(%q)", shorten(c.s)), got, ok, c.want, c.ok)
	}
}

func TestAppendChecksumAtTheLimit(t *testing.T) {
	for digits := 1; digits <= 6; digits++ {
		s := textWithDigits(t, impl.MaxString-1-digits, digits)
		want := fmt.Sprintf("%s#%d", s, plainChecksum(s))
		got, ok := impl.AppendChecksum(s)
		wantText(t, fmt.Sprintf("AppendChecksum of %d bytes", len(s)), got, ok, want, true)
		back, ok := impl.VerifyChecksum(want)
		wantText(t, fmt.Sprintf("VerifyChecksum of %d bytes", len(want)), back, ok, s, true)

		s = textWithDigits(t, impl.MaxString-digits, digits)
		got, ok = impl.AppendChecksum(s)
		wantText(t, fmt.Sprintf("AppendChecksum of %d bytes", len(s)), got, ok, "", false)
		back, ok = impl.VerifyChecksum(fmt.Sprintf("%s#%d", s, plainChecksum(s)))
		wantText(t, "VerifyChecksum of MaxString+1 bytes", back, ok, "", false)
	}
}

func TestVerifyChecksumRoundTrip(t *testing.T) {
	r := newRandom()
	alphabet := strings.ReplaceAll(allBytes(), "#", "")
	for _, size := range []int{0, 1, 2, 3, 10, 100, 1000, impl.MaxString - 7} {
		for range 20 {
			s := randomText(r, alphabet, size)
			sealed, ok := impl.AppendChecksum(s)
			wantText(t, fmt.Sprintf("AppendChecksum(%q)", shorten(s)), sealed, ok, fmt.Sprintf("%s#%d", s, plainChecksum(s)), true)
			back, ok := impl.VerifyChecksum(sealed)
			wantText(t, fmt.Sprintf("VerifyChecksum(%q)", shorten(sealed)), back, ok, s, true)
		}
	}
}

func TestVerifyChecksumOfOtherTexts(t *testing.T) {
	for _, s := range []string{
		"", "a", "#", "##", "a#", "#a", "7", "#07", "#+7", "#-7", "#7 ", " #7", "##7", "#7#", "#7#7", "#999986",
		"a#384", "a#386", "b#385", "a#0385", "a#+385", "a#-385", "a# 385", "a#385 ", "a#385\n", "a#385#", "a##385", "a#385#1",
		"a#1000364", "a#385.0", "a#0x181", "A#385", "aa#385", "a#3851", "a#38", "a385", "a#385#385",
		"a#b#" + fmt.Sprint(plainChecksum("a#b")), "##" + fmt.Sprint(plainChecksum("#")), "a#385#" + fmt.Sprint(plainChecksum("a#385")),
		strings.Repeat("a", impl.MaxString+1), strings.Repeat("#", impl.MaxString+1), strings.Repeat("a", 1000000) + "#7",
		"#" + strings.Repeat("7", 1000000), "#" + strings.Repeat("0", impl.MaxString) + "7",
	} {
		got, ok := impl.VerifyChecksum(s)
		wantText(t, fmt.Sprintf("VerifyChecksum(%q)", shorten(s)), got, ok, "", false)
	}
}

// changeBytes checks that no other byte at some places of a checksummed text is accepted.
func changeBytes(t *testing.T, sealed string, places []int) {
	t.Helper()
	for _, i := range places {
		b := []byte(sealed)
		for c := range 256 {
			if byte(c) == sealed[i] {
				continue
			}
			b[i] = byte(c)
			if got, ok := impl.VerifyChecksum(string(b)); ok || got != "" {
				t.Fatalf("byte %d of %q changed to %d is accepted as %q", i, shorten(sealed), c, shorten(got))
			}
		}
	}
}

func TestChangedBytesAreDetected(t *testing.T) {
	r := newRandom()
	alphabet := strings.ReplaceAll(allBytes(), "#", "")
	texts := []string{"", "a", "\x00", "\xff", "0", "12", "go 1@7", "\x00\x00\x00\x00", "\xff\xff\xff\xff", "a b\nc"}
	for size := range 60 {
		texts = append(texts, randomText(r, alphabet, size), randomText(r, "0123456789 @", size))
	}
	for _, s := range texts {
		sealed, ok := impl.AppendChecksum(s)
		if !ok {
			t.Fatalf("AppendChecksum(%q) fails", s)
		}
		places := make([]int, len(sealed))
		for i := range places {
			places[i] = i
		}
		changeBytes(t, sealed, places)
	}
	sealed, ok := impl.AppendChecksum(randomText(r, alphabet, impl.MaxString-7))
	if !ok {
		t.Fatal("a long text fails")
	}
	end := len(sealed) - 1
	changeBytes(t, sealed, []int{0, 1, 2, 40, 999, 1000, 2000, 3000, end - 7, end - 6, end - 5, end - 4, end - 3, end - 2, end - 1, end})
}

// TestStringsAreTotal calls each function with texts of all kinds: none may panic, or tell another result the second time.
func TestStringsAreTotal(t *testing.T) {
	texts := []string{"", ",", "#", "a", "-", "0", "\x00", "\xff\xfe", "\u00e9", allBytes(), strings.Repeat("#", impl.MaxString), strings.Repeat("9", impl.MaxString+1), strings.Repeat("a,", 50000)}
	call := func(a, b string) string {
		n, ok1 := impl.ParseInt(a)
		parts, ok2 := impl.SplitString(a, b)
		joined, ok3 := impl.JoinStrings([]string{a, b, a}, b)
		sum, ok4 := impl.Checksum(a)
		sealed, ok5 := impl.AppendChecksum(a)
		opened, ok6 := impl.VerifyChecksum(a)
		return fmt.Sprint(n, ok1, parts, ok2, joined, ok3, impl.LessString(a, b), sum, ok4, sealed, ok5, opened, ok6)
	}
	for _, a := range texts {
		for _, b := range texts {
			if call(a, b) != call(a, b) {
				t.Errorf("two results for %q and %q", shorten(a), shorten(b))
			}
		}
	}
}
