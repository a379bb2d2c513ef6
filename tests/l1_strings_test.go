package tests

import (
	"math"
	"slices"
	"strconv"
	"strings"
	"testing"

	"loop.example/g01078/impl"
)

// The signatures and limits of chapter 1 are promised to other packages.
var (
	_ func(int) (string, bool)              = impl.FormatInt
	_ func(string) (int, bool)              = impl.ParseInt
	_ func(string, string) ([]string, bool) = impl.SplitString
	_ func([]string, string) (string, bool) = impl.JoinStrings
	_ func(string, string) bool             = impl.LessString
	_ func(string) (int, bool)              = impl.Checksum
	_ func(string) (string, bool)           = impl.AppendChecksum
	_ func(string) (string, bool)           = impl.VerifyChecksum
)

func TestStringLimits(t *testing.T) {
	if impl.MaxString != 4000 || impl.MaxDecimal != 999999 {
		t.Error("limits", impl.MaxString, impl.MaxDecimal)
	}
}

func TestFormatInt(t *testing.T) {
	cases := map[int]string{
		-12: "-12", 0: "0", 1: "1", -1: "-1", 9: "9", 10: "10", -10: "-10", 100: "100", 1005: "1005",
		99999: "99999", 100000: "100000", 999999: "999999", -999999: "-999999",
	}
	for n, want := range cases {
		if s, ok := impl.FormatInt(n); !ok || s != want {
			t.Errorf("FormatInt(%d) = %q, %v", n, s, ok)
		}
	}
	for _, n := range []int{1000000, -1000000, 10000000, 1 << 32, math.MaxInt, math.MinInt, math.MinInt + 1} {
		if s, ok := impl.FormatInt(n); ok || s != "" {
			t.Errorf("FormatInt(%d) = %q, %v", n, s, ok)
		}
	}
}

func TestDecimalRoundTrip(t *testing.T) {
	for n := -impl.MaxDecimal; n <= impl.MaxDecimal; n++ {
		s, ok := impl.FormatInt(n)
		if !ok || s != strconv.Itoa(n) {
			t.Fatalf("FormatInt(%d) = %q, %v", n, s, ok)
		}
		if m, ok := impl.ParseInt(s); !ok || m != n {
			t.Fatalf("ParseInt(%q) = %d, %v", s, m, ok)
		}
	}
}

func TestParseIntRefuses(t *testing.T) {
	cases := []string{
		"", "-", "+", "-0", "+0", "+1", "00", "01", "-01", "-00", "000001", "0000000", "--1", "-+1", "1-", "1-1",
		" 1", "1 ", "1\n", "\x001", "1\x00", "1x", "x", "0x1", "0b1", "1_0", "1_000", "1e3", "1.0", "1,0",
		"1000000", "-1000000", "9999999", "4294967296", "18446744073709551616", "18446744073709551617",
		"9223372036854775808", "-9223372036854775809", "\u0661", "\uff11", "\xff", "inf", "#",
		strings.Repeat("0", 5000), strings.Repeat("1", 5000), "-" + strings.Repeat("9", 5000),
	}
	for _, s := range cases {
		if n, ok := impl.ParseInt(s); ok || n != 0 {
			t.Errorf("ParseInt(%.20q) = %d, %v", s, n, ok)
		}
	}
}

// Every string of few signs is read exactly if it is written.
func TestParseIntReadsWhatIsWritten(t *testing.T) {
	written := map[string]int{}
	for n := -9999; n <= 9999; n++ {
		written[strconv.Itoa(n)] = n
	}
	var try func(s string)
	try = func(s string) {
		want, is := written[s]
		if n, ok := impl.ParseInt(s); ok != is || n != want {
			t.Errorf("ParseInt(%q) = %d, %v", s, n, ok)
		}
		if len(s) == 4 {
			return
		}
		for _, c := range "0129-+_ " {
			try(s + string(c))
		}
	}
	try("")
}

func TestSplitString(t *testing.T) {
	cases := []struct {
		s, sep string
		want   []string
	}{
		{"a,,b", ",", []string{"a", "", "b"}},
		{"", ",", []string{""}},
		{",", ",", []string{"", ""}},
		{",,", ",", []string{"", "", ""}},
		{"a", ",", []string{"a"}},
		{",a", ",", []string{"", "a"}},
		{"a,", ",", []string{"a", ""}},
		{"abc", "b", []string{"a", "c"}},
		{"a;b,c", ",", []string{"a;b", "c"}},
		{"a b\nc", "\n", []string{"a b", "c"}},
		{"a\x00b", "\x00", []string{"a", "b"}},
		{"a\xffb\xfe", "\xff", []string{"a", "b\xfe"}},
		{"\u00e9", "\xc3", []string{"", "\xa9"}},
		{"\u00e9", "\xa9", []string{"\xc3", ""}},
	}
	for _, c := range cases {
		if l, ok := impl.SplitString(c.s, c.sep); !ok || !slices.Equal(l, c.want) {
			t.Errorf("SplitString(%q, %q) = %q, %v", c.s, c.sep, l, ok)
		}
	}
}

func TestSplitStringRefuses(t *testing.T) {
	for _, sep := range []string{"", ",,", ", ", "ab", "\u00e9", strings.Repeat(",", 5000)} {
		for _, s := range []string{"", "a", "a,,b", "a, b"} {
			if l, ok := impl.SplitString(s, sep); ok || len(l) != 0 {
				t.Errorf("SplitString(%q, %.9q) = %q, %v", s, sep, l, ok)
			}
		}
	}
	for _, s := range []string{strings.Repeat("a", 4001), strings.Repeat(",", 4001), strings.Repeat("a", 1<<20)} {
		if l, ok := impl.SplitString(s, ","); ok || len(l) != 0 {
			t.Error("split though too long", len(s), len(l), ok)
		}
	}
}

func TestSplitStringAtTheLimit(t *testing.T) {
	if l, ok := impl.SplitString(strings.Repeat("a", 4000), ","); !ok || len(l) != 1 || len(l[0]) != 4000 {
		t.Error("one part of 4000 bytes", len(l), ok)
	}
	l, ok := impl.SplitString(strings.Repeat(",", 4000), ",")
	if !ok || len(l) != 4001 {
		t.Fatal("4000 separators", len(l), ok)
	}
	for _, part := range l {
		if part != "" {
			t.Fatalf("part %q", part)
		}
	}
}

func TestJoinStrings(t *testing.T) {
	cases := []struct {
		parts []string
		sep   string
		want  string
	}{
		{[]string{"a", "", "b"}, ";", "a;;b"},
		{[]string{""}, ";", ""},
		{[]string{"a"}, ";", "a"},
		{[]string{"", ""}, ";", ";"},
		{[]string{"a", ""}, ";", "a;"},
		{[]string{"", "a"}, ";", ";a"},
		{[]string{"a,b", "c#"}, ";", "a,b;c#"},
		{[]string{"a\xfe", "b"}, "\xff", "a\xfe\xffb"},
		{[]string{"a", "b"}, "\x00", "a\x00b"},
	}
	for _, c := range cases {
		if s, ok := impl.JoinStrings(c.parts, c.sep); !ok || s != c.want {
			t.Errorf("JoinStrings(%q, %q) = %q, %v", c.parts, c.sep, s, ok)
		}
	}
}

func TestJoinStringsRefuses(t *testing.T) {
	cases := []struct {
		parts []string
		sep   string
	}{
		{nil, ";"}, {[]string{}, ";"}, {nil, ""}, {[]string{}, ";;"},
		{[]string{"a", "b"}, ""}, {[]string{"a", "b"}, ";;"}, {[]string{"a"}, ""}, {[]string{"a"}, ", "}, {[]string{"a", "b"}, "\u00e9"},
		{[]string{";"}, ";"}, {[]string{"a;b"}, ";"}, {[]string{";a", "b"}, ";"}, {[]string{"a;", "b"}, ";"},
		{[]string{"a", "b;"}, ";"}, {[]string{"a", ";b"}, ";"}, {[]string{"", ";", ""}, ";"}, {[]string{"a", "b", "c;d"}, ";"},
		{[]string{"\u00e9", "b"}, "\xc3"}, {[]string{"a", "\u00e9"}, "\xa9"}, {[]string{"a\x00"}, "\x00"},
	}
	for _, c := range cases {
		if s, ok := impl.JoinStrings(c.parts, c.sep); ok || s != "" {
			t.Errorf("JoinStrings(%q, %q) = %q, %v", c.parts, c.sep, s, ok)
		}
	}
}

func TestJoinStringsAtTheLimit(t *testing.T) {
	long := func(n int) string { return strings.Repeat("a", n) }
	cases := []struct {
		parts []string
		fits  bool
	}{
		{[]string{long(4000)}, true},
		{[]string{long(4001)}, false},
		{[]string{long(2000), long(1999)}, true},
		{[]string{long(2000), long(2000)}, false},
		{[]string{"", long(3999)}, true},
		{[]string{long(3999), ""}, true},
		{[]string{long(4000), ""}, false},
		{[]string{long(3999), "", ""}, false},
		{[]string{long(3999) + ";"}, false},
		{make([]string, 4001), true},
		{make([]string, 4002), false},
		{[]string{long(1 << 20), long(1 << 20)}, false},
	}
	for i, c := range cases {
		s, ok := impl.JoinStrings(c.parts, ";")
		if ok != c.fits || !ok && s != "" {
			t.Error("case", i, "length", len(s), ok)
		}
		if ok && (len(s) != 4000 || s != strings.Join(c.parts, ";")) {
			t.Error("case", i, "length", len(s))
		}
	}
}

func TestJoinStringsLeavesItsArgument(t *testing.T) {
	whole := []string{"a", "", "b", "x;y"}
	parts := whole[:3]
	if s, ok := impl.JoinStrings(parts, ";"); !ok || s != "a;;b" {
		t.Error("an element beyond the length was read", s, ok)
	}
	if s, ok := impl.JoinStrings(whole, ";"); ok || s != "" {
		t.Error("joined", s)
	}
	if !slices.Equal(whole, []string{"a", "", "b", "x;y"}) {
		t.Error("changed", whole)
	}
}

// All strings of at most n bytes of signs, the empty one among them.
func stringsUpTo(n int, signs string) []string {
	all := []string{""}
	last := all
	for range n {
		var next []string
		for _, s := range last {
			for i := range len(signs) {
				next = append(next, s+signs[i:i+1])
			}
		}
		all = append(all, next...)
		last = next
	}
	return all
}

func TestSplittingRoundTrip(t *testing.T) {
	for _, s := range stringsUpTo(6, ",a\xff") {
		l, ok := impl.SplitString(s, ",")
		if !ok || len(l) != strings.Count(s, ",")+1 {
			t.Fatalf("SplitString(%q) = %q, %v", s, l, ok)
		}
		if r, ok := impl.JoinStrings(l, ","); !ok || r != s {
			t.Fatalf("JoinStrings(%q) = %q, %v", l, r, ok)
		}
	}
}

// A list is joined exactly if splitting gives it back.
func TestJoiningRoundTrip(t *testing.T) {
	elements := stringsUpTo(2, ",a;")
	for _, a := range elements {
		for _, b := range elements {
			for _, c := range elements {
				parts := []string{a, b, c}
				s, ok := impl.JoinStrings(parts, ",")
				if ok == strings.Contains(a+b+c, ",") {
					t.Fatalf("JoinStrings(%q) = %q, %v", parts, s, ok)
				}
				if !ok {
					continue
				}
				if l, ok := impl.SplitString(s, ","); !ok || !slices.Equal(l, parts) {
					t.Fatalf("SplitString(%q) = %q, %v", s, l, ok)
				}
			}
		}
	}
}

func TestLessString(t *testing.T) {
	rising := []string{"", "\x00", "\x00\x00", " ", "#", "-1", "0", "10", "9", "A", "Z", "a", "a\x00", "aa", "ab", "b", "ba", "\x7f", "\x80", "\xc3\xa9", "\xff", "\xff\x00"}
	for i, a := range rising {
		for j, b := range rising {
			if impl.LessString(a, b) != (i < j) {
				t.Errorf("LessString(%q, %q) = %v", a, b, i >= j)
			}
		}
	}
	long := strings.Repeat("a", 5000)
	if !impl.LessString(long, long+"a") || impl.LessString(long+"a", long) || impl.LessString(long, long) {
		t.Error("strings of any length are compared")
	}
}

// The sum as chapter 1 defines it, byte by byte.
func sumOf(s string) int {
	h := 7
	for _, c := range []byte(s) {
		h = (41*h + int(c) + 1) % 999979
	}
	return h
}

func TestChecksum(t *testing.T) {
	cases := map[string]int{"": 7, "a": 385, "b": 386, "\x00": 288, "\xff": 543, "ab": 41*385 + 99, "#": 323}
	for s, want := range cases {
		if n, ok := impl.Checksum(s); !ok || n != want {
			t.Errorf("Checksum(%q) = %d, %v", s, n, ok)
		}
	}
	for _, s := range []string{"hello, world", "\u00e9\u4e16", "#\n@;", strings.Repeat("a", 4000), strings.Repeat("\xff", 4000)} {
		if n, ok := impl.Checksum(s); !ok || n != sumOf(s) {
			t.Errorf("Checksum(%.20q) = %d, %v", s, n, ok)
		}
	}
	for _, n := range []int{4001, 1 << 20} {
		if h, ok := impl.Checksum(strings.Repeat("a", n)); ok || h != 0 {
			t.Error("sum of too many bytes", n, h, ok)
		}
	}
}

func TestAppendChecksum(t *testing.T) {
	cases := map[string]string{"": "#7", "a": "a#385", "b": "b#386", "\x00": "\x00#288", "a b\n": "a b\n#" + strconv.Itoa(sumOf("a b\n"))}
	for s, want := range cases {
		if r, ok := impl.AppendChecksum(s); !ok || r != want {
			t.Errorf("AppendChecksum(%q) = %q, %v", s, r, ok)
		}
	}
	for _, s := range []string{"#", "a#", "#a", "a#b", "a#385", "##", strings.Repeat("#", 4001), strings.Repeat("a", 3990) + "#"} {
		if r, ok := impl.AppendChecksum(s); ok || r != "" {
			t.Errorf("AppendChecksum(%.20q) = %.20q, %v", s, r, ok)
		}
	}
}

func TestAppendChecksumAtTheLimit(t *testing.T) {
	met, passed := false, false
	for n := 3985; n <= 4002; n++ {
		for _, c := range []string{"a", "b", "\x00", "\xff"} {
			s := strings.Repeat(c, n)
			want := s + "#" + strconv.Itoa(sumOf(s))
			r, ok := impl.AppendChecksum(s)
			if len(want) > 4000 {
				passed = passed || len(want) == 4001
				if ok || r != "" {
					t.Error("sealed though too long", n, len(want), len(r))
				}
				if x, ok := impl.VerifyChecksum(want); ok || x != "" {
					t.Error("opened though too long", n, len(want))
				}
				continue
			}
			met = met || len(want) == 4000
			if !ok || r != want {
				t.Error("not sealed", n, len(want), ok)
			}
			if x, ok := impl.VerifyChecksum(want); !ok || x != s {
				t.Error("not opened", n, len(want), ok)
			}
		}
	}
	if !met || !passed {
		t.Error("no result of exactly 4000 bytes, or none of 4001")
	}
}

func TestVerifyChecksum(t *testing.T) {
	for s, want := range map[string]string{"#7": "", "a#385": "a", "b#386": "b", "\x00#288": "\x00"} {
		if r, ok := impl.VerifyChecksum(s); !ok || r != want {
			t.Errorf("VerifyChecksum(%q) = %q, %v", s, r, ok)
		}
	}
	cases := []string{
		"", "#", "a", "a#", "#a", "385", "a385", "a#384", "a#386", "b#385", "a#0385", "a#+385", "a#-385", "a# 385", "a#385 ", " a#385",
		"a#385\n", "a#3850", "a#38", "A#385", "a#385#", "a##385", "#a#385", "a#385#1", "a#385#385", "#07", "#6", "#+7", "#7#",
		"##323", "#7#" + strconv.Itoa(sumOf("#7")), "a#b#" + strconv.Itoa(sumOf("a#b")), "a#" + strconv.Itoa(385+999979),
		strings.Repeat("#", 4001), strings.Repeat("a", 5000),
	}
	for _, s := range cases {
		if r, ok := impl.VerifyChecksum(s); ok || r != "" {
			t.Errorf("VerifyChecksum(%.20q) = %.20q, %v", s, r, ok)
		}
	}
}

// Of all short strings, those are opened that are a body without `#`, a `#` and the body's sum.
func TestVerifyChecksumOpensWhatIsSealed(t *testing.T) {
	opened := 0
	for _, s := range stringsUpTo(6, "#78a43") {
		body, digits, _ := strings.Cut(s, "#")
		is := digits == strconv.Itoa(sumOf(body))
		if !is {
			body = ""
		} else {
			opened++
		}
		if x, ok := impl.VerifyChecksum(s); ok != is || x != body {
			t.Fatalf("VerifyChecksum(%q) = %q, %v", s, x, ok)
		}
	}
	if opened < 2 {
		t.Error("only", opened, "of the strings are sealed")
	}
}

func TestChecksumRoundTrip(t *testing.T) {
	for _, s := range stringsUpTo(4, "#37a\xff") {
		r, ok := impl.AppendChecksum(s)
		if ok == strings.Contains(s, "#") {
			t.Fatalf("AppendChecksum(%q) = %q, %v", s, r, ok)
		}
		if !ok {
			continue
		}
		if x, ok := impl.VerifyChecksum(r); !ok || x != s {
			t.Fatalf("VerifyChecksum(%q) = %q, %v", r, x, ok)
		}
	}
}

func TestAnyChangedByteIsDetected(t *testing.T) {
	for _, s := range []string{"", "a", "7", "ab", "\x00", "\xff\xff", "0 holds x0 x1@1", "\u00e9\n", strings.Repeat("x3", 40), "1234567890"} {
		r, ok := impl.AppendChecksum(s)
		if !ok {
			t.Fatalf("AppendChecksum(%q)", s)
		}
		for i := range len(r) {
			changed := []byte(r)
			for c := range 256 {
				changed[i] = byte(c)
				if x, ok := impl.VerifyChecksum(string(changed)); ok != (byte(c) == r[i]) || !ok && x != "" {
					t.Errorf("%q changed to %q is opened as %q, %v", r, changed, x, ok)
				}
			}
		}
	}
}

func TestAnyChangedByteOfALongStringIsDetected(t *testing.T) {
	r, ok := impl.AppendChecksum(strings.Repeat("abcdefg", 570))
	if !ok || len(r) < 3990 {
		t.Fatal("not sealed", len(r))
	}
	for i := range len(r) {
		for _, d := range []byte{1, 128, 255} {
			changed := []byte(r)
			changed[i] += d
			if x, ok := impl.VerifyChecksum(string(changed)); ok || x != "" {
				t.Fatal("opened though changed at", i, "by", d)
			}
		}
	}
}
