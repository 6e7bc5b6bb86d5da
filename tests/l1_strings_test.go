package tests

import (
	"bytes"
	"math"
	"regexp"
	"slices"
	"strconv"
	"strings"
	"testing"

	"loop.example/g01035/impl"
)

// decimal describes the texts that FormatInt may write, without calling it.
var decimal = regexp.MustCompile(`^(0|-?[1-9][0-9]{0,5})$`)

// textsOver lists all texts of at most length bytes over an alphabet of bytes.
func textsOver(alphabet string, length int) []string {
	texts := []string{""}
	for first := 0; length > 0; length-- {
		end := len(texts)
		for ; first < end; first++ {
			for i := range len(alphabet) {
				texts = append(texts, texts[first]+alphabet[i:i+1])
			}
		}
	}
	return texts
}

// sumOf follows the document's definition of the checksum, for texts of any length.
func sumOf(s string) int {
	h := 7
	for _, c := range []byte(s) {
		h = (41*h + int(c) + 1) % 999979
	}
	return h
}

// textWithSealedLength makes a text whose sealed form has exactly length bytes.
func textWithSealedLength(t *testing.T, length int) string {
	t.Helper()
	for digits := 6; digits > 0; digits-- {
		rest := strings.Repeat("x", length-digits-2)
		for c := 'a'; c <= 'z'; c++ {
			s := string(c) + rest
			if len(strconv.Itoa(sumOf(s))) == digits {
				return s
			}
		}
	}
	t.Fatal("no text with a sealed length of", length)
	return ""
}

func checkSplit(t *testing.T, s, sep string, want ...string) {
	t.Helper()
	if parts, ok := impl.SplitString(s, sep); !ok || !slices.Equal(parts, want) {
		t.Errorf("SplitString(%.20q, %q) = %.60q, %v", s, sep, parts, ok)
	}
}

func checkNoSplit(t *testing.T, s, sep string) {
	t.Helper()
	if parts, ok := impl.SplitString(s, sep); ok || len(parts) != 0 {
		t.Errorf("SplitString(%.20q of %d bytes, %q) = %d parts, %v", s, len(s), sep, len(parts), ok)
	}
}

func checkJoin(t *testing.T, parts []string, sep, want string) {
	t.Helper()
	if s, ok := impl.JoinStrings(parts, sep); !ok || s != want {
		t.Errorf("JoinStrings(%.60q, %q) = %.60q, %v", parts, sep, s, ok)
	}
}

func checkNoJoin(t *testing.T, parts []string, sep string) {
	t.Helper()
	if s, ok := impl.JoinStrings(parts, sep); ok || s != "" {
		t.Errorf("JoinStrings of %d parts with %q = %.60q, %v", len(parts), sep, s, ok)
	}
}

func checkNoSeal(t *testing.T, s string) {
	t.Helper()
	if sealed, ok := impl.AppendChecksum(s); ok || sealed != "" {
		t.Errorf("AppendChecksum(%.20q of %d bytes) = %.20q, %v", s, len(s), sealed, ok)
	}
}

func checkNotVerified(t *testing.T, s string) {
	t.Helper()
	if text, ok := impl.VerifyChecksum(s); ok || text != "" {
		t.Errorf("VerifyChecksum(%.40q of %d bytes) = %.20q, %v", s, len(s), text, ok)
	}
}

func TestPromise1FormatInt(t *testing.T) {
	for n, want := range map[int]string{
		0: "0", 7: "7", -1: "-1", -12: "-12", 10: "10", 100200: "100200",
		impl.MaxDecimal: "999999", -impl.MaxDecimal: "-999999",
	} {
		if s, ok := impl.FormatInt(n); !ok || s != want {
			t.Errorf("FormatInt(%d) = %q, %v", n, s, ok)
		}
	}
	for _, n := range []int{impl.MaxDecimal + 1, -impl.MaxDecimal - 1, math.MaxInt, math.MinInt, math.MaxInt32, math.MinInt32} {
		if s, ok := impl.FormatInt(n); ok || s != "" {
			t.Errorf("FormatInt(%d) = %q, %v", n, s, ok)
		}
	}
}

func TestPromise1ParseIntRefuses(t *testing.T) {
	for _, s := range []string{
		"", "-", "+", "--1", "-0", "+0", "00", "01", "-01", "000001", "0000001", "+1", "+12", "-+1",
		"1000000", "-1000000", "9223372036854775807", "9223372036854775808", "-9223372036854775809",
		"18446744073709551617", "99999999999999999999999", strings.Repeat("9", 5000), strings.Repeat("0", 5000) + "1",
		" 1", "1 ", "1x", "x1", "1-", "1-2", "1.0", "1e3", "0x1", "1_0", "12\x00", "\xff", "١", "１", "−1", "1\n",
	} {
		if n, ok := impl.ParseInt(s); ok || n != 0 {
			t.Errorf("ParseInt(%.40q) = %d, %v", s, n, ok)
		}
	}
}

func TestPromise1ParseIntOfShortTexts(t *testing.T) {
	for _, s := range textsOver("0189+- x\xff", 5) {
		want := 0
		valid := decimal.MatchString(s)
		if valid {
			want, _ = strconv.Atoi(s)
		}
		if n, ok := impl.ParseInt(s); ok != valid || n != want {
			t.Fatalf("ParseInt(%q) = %d, %v", s, n, ok)
		}
	}
}

func TestPromise1DecimalRoundTrip(t *testing.T) {
	for n := -impl.MaxDecimal; n <= impl.MaxDecimal; n++ {
		s, ok := impl.FormatInt(n)
		if !ok || s != strconv.Itoa(n) {
			t.Fatalf("FormatInt(%d) = %q, %v", n, s, ok)
		}
		if m, ok := impl.ParseInt(s); !ok || m != n {
			t.Fatalf("ParseInt(%q) = %d, %v", s, m, ok)
		}
	}
}

func TestPromise1SplitString(t *testing.T) {
	checkSplit(t, "a,,b", ",", "a", "", "b")
	checkSplit(t, "", ",", "")
	checkSplit(t, "abc", ",", "abc")
	checkSplit(t, ",", ",", "", "")
	checkSplit(t, ",,", ",", "", "", "")
	checkSplit(t, ",a,b", ",", "", "a", "b")
	checkSplit(t, "a,b,", ",", "a", "b", "")
	checkSplit(t, "a,b;c", ";", "a,b", "c")
	checkSplit(t, "a b", " ", "a", "b")
	checkSplit(t, "a\x00b\x00", "\x00", "a", "b", "")
	checkSplit(t, "a\xffb", "\xff", "a", "b")
	checkSplit(t, "é", "\xa9", "\xc3", "")
	checkSplit(t, "a#b", "#", "a", "b")
}

func TestPromise1SplitStringLimit(t *testing.T) {
	longest := strings.Repeat("a", impl.MaxString)
	checkSplit(t, longest, ",", longest)
	checkSplit(t, longest, "a", make([]string, impl.MaxString+1)...)
	checkNoSplit(t, longest+"a", ",")
	checkNoSplit(t, longest+"a", "a")
	checkNoSplit(t, longest+",", ",")
}

func TestPromise1SplitStringRefusesSeparators(t *testing.T) {
	for _, s := range []string{"", "a", "a,b", ",,"} {
		for _, sep := range []string{"", ",,", ",;", "é", "\x00\x00", strings.Repeat(",", impl.MaxString)} {
			checkNoSplit(t, s, sep)
		}
	}
}

func TestPromise1JoinStrings(t *testing.T) {
	checkJoin(t, []string{"a", "", "b"}, ";", "a;;b")
	checkJoin(t, []string{""}, ";", "")
	checkJoin(t, []string{"", ""}, ";", ";")
	checkJoin(t, []string{"", "a"}, ";", ";a")
	checkJoin(t, []string{"a", ""}, ";", "a;")
	checkJoin(t, []string{"abc"}, ";", "abc")
	checkJoin(t, []string{"a,b", "c"}, ";", "a,b;c")
	checkJoin(t, []string{"a", "b"}, "\x00", "a\x00b")
	checkJoin(t, []string{"a", "\xfe"}, "\xff", "a\xff\xfe")
}

func TestPromise1JoinStringsRefuses(t *testing.T) {
	for _, sep := range []string{"", ";;", ";,", "é"} {
		checkNoJoin(t, []string{"a", "b"}, sep)
		checkNoJoin(t, []string{"a"}, sep)
		checkNoJoin(t, []string{""}, sep)
	}
	checkNoJoin(t, nil, ";")
	checkNoJoin(t, []string{}, ";")
	checkNoJoin(t, []string{"a", "b"}[:0], ";")
	checkNoJoin(t, []string{"a;b"}, ";")
	checkNoJoin(t, []string{";"}, ";")
	checkNoJoin(t, []string{";a", "b"}, ";")
	checkNoJoin(t, []string{"a", "b;"}, ";")
	checkNoJoin(t, []string{"a", "b;c", "d"}, ";")
	checkNoJoin(t, []string{"", "", ";"}, ";")
	checkNoJoin(t, []string{"é"}, "\xa9")
}

func TestPromise1JoinStringsLimit(t *testing.T) {
	half := strings.Repeat("a", impl.MaxString/2)
	longest := half + half
	checkJoin(t, []string{longest}, ";", longest)
	checkJoin(t, []string{half, half[1:]}, ";", half+";"+half[1:])
	checkJoin(t, make([]string, impl.MaxString+1), ";", strings.Repeat(";", impl.MaxString))
	checkNoJoin(t, []string{longest + "a"}, ";")
	checkNoJoin(t, []string{half, half}, ";")
	checkNoJoin(t, []string{longest, ""}, ";")
	checkNoJoin(t, []string{"", longest}, ";")
	checkNoJoin(t, make([]string, impl.MaxString+2), ";")
}

func TestPromise1SplittingRoundTrip(t *testing.T) {
	for _, s := range textsOver("a,;\xff", 6) {
		parts, ok := impl.SplitString(s, ",")
		if !ok || len(parts) != strings.Count(s, ",")+1 {
			t.Fatalf("SplitString(%q) = %q, %v", s, parts, ok)
		}
		for _, part := range parts {
			if strings.Contains(part, ",") {
				t.Fatalf("SplitString(%q) = %q", s, parts)
			}
		}
		if joined, ok := impl.JoinStrings(parts, ","); !ok || joined != s {
			t.Fatalf("JoinStrings(%q) = %q, %v", parts, joined, ok)
		}
	}
}

func TestPromise1JoiningRoundTrip(t *testing.T) {
	elements := textsOver("a,;", 2)
	for _, a := range elements {
		for _, b := range elements {
			for _, c := range elements {
				parts := []string{a, b, c}
				s, ok := impl.JoinStrings(parts, ";")
				if ok == strings.Contains(a+b+c, ";") {
					t.Fatalf("JoinStrings(%q) = %q, %v", parts, s, ok)
				}
				if again, fine := impl.SplitString(s, ";"); ok && (!fine || !slices.Equal(again, parts)) {
					t.Fatalf("SplitString(%q) = %q, %v", s, again, fine)
				}
			}
		}
	}
}

func TestPromise1RoundTripWithEachSeparator(t *testing.T) {
	var all []byte
	for c := range 256 {
		all = append(all, byte(c))
	}
	for c := range 256 {
		sep := string(all[c : c+1])
		checkSplit(t, string(all), sep, string(all[:c]), string(all[c+1:]))
		checkJoin(t, []string{string(all[:c]), string(all[c+1:])}, sep, string(all))
		checkNoJoin(t, []string{"", string(all)}, sep)
	}
}

func TestPromise1LessString(t *testing.T) {
	if !impl.LessString("a", "ab") || !impl.LessString("", "a") || !impl.LessString("B", "a") {
		t.Error("a lesser string is not less")
	}
	if impl.LessString("", "") || impl.LessString("ab", "ab") || impl.LessString("ab", "a") || impl.LessString("b", "ab") {
		t.Error("a string that is not lesser is less")
	}
	if impl.LessString("\xff", "é") || !impl.LessString("z", "\x80") || !impl.LessString("10", "9") {
		t.Error("strings are not compared by bytes")
	}
	long := strings.Repeat("a", impl.MaxString+1)
	if !impl.LessString(long, long+"a") || !impl.LessString(long[1:], long) || !impl.LessString(long, "b") {
		t.Error("long strings are not compared")
	}
	texts := textsOver("\x00a\x7f\x80\xff", 3)
	for _, a := range texts {
		for _, b := range texts {
			if impl.LessString(a, b) != (bytes.Compare([]byte(a), []byte(b)) < 0) {
				t.Fatalf("LessString(%q, %q)", a, b)
			}
		}
	}
}

func TestPromise1Checksum(t *testing.T) {
	for s, want := range map[string]int{"": 7, "a": 385, "#": 323, "\x00": 288, "\xff": 543, "ab": 15884, "ba": 15924} {
		if n, ok := impl.Checksum(s); !ok || n != want {
			t.Errorf("Checksum(%q) = %d, %v", s, n, ok)
		}
	}
	for _, s := range textsOver("a#\x00\x80\xff", 5) {
		if n, ok := impl.Checksum(s); !ok || n != sumOf(s) {
			t.Fatalf("Checksum(%q) = %d, %v", s, n, ok)
		}
	}
	for _, c := range []string{"a", "#", "\x00", "\xff"} {
		longest := strings.Repeat(c, impl.MaxString)
		if n, ok := impl.Checksum(longest); !ok || n != sumOf(longest) {
			t.Errorf("Checksum of the longest string of %q = %d, %v", c, n, ok)
		}
		if n, ok := impl.Checksum(longest + c); ok || n != 0 {
			t.Errorf("Checksum of too long a string of %q = %d, %v", c, n, ok)
		}
	}
}

func TestPromise1AppendChecksum(t *testing.T) {
	for s, want := range map[string]string{"": "#7", "a": "a#385", "ab": "ab#15884", "\xff": "\xff#543", "\x00": "\x00#288"} {
		if sealed, ok := impl.AppendChecksum(s); !ok || sealed != want {
			t.Errorf("AppendChecksum(%q) = %q, %v", s, sealed, ok)
		}
	}
	for _, s := range []string{"#", "a#", "#a", "a#b", "a#385", "##"} {
		checkNoSeal(t, s)
	}
}

func TestPromise1SealedStringLimit(t *testing.T) {
	fits := textWithSealedLength(t, impl.MaxString)
	sealed := fits + "#" + strconv.Itoa(sumOf(fits))
	if s, ok := impl.AppendChecksum(fits); len(sealed) != impl.MaxString || !ok || s != sealed {
		t.Error("the longest sealed string is refused")
	}
	if s, ok := impl.VerifyChecksum(sealed); !ok || s != fits {
		t.Error("the longest sealed string is not verified")
	}
	tooLong := textWithSealedLength(t, impl.MaxString+1)
	checkNoSeal(t, tooLong)
	checkNotVerified(t, tooLong+"#"+strconv.Itoa(sumOf(tooLong)))
	for _, n := range []int{impl.MaxString, impl.MaxString + 1} {
		s := strings.Repeat("a", n)
		checkNoSeal(t, s)
		checkNotVerified(t, s)
		checkNotVerified(t, s+"#"+strconv.Itoa(sumOf(s)))
	}
}

func TestPromise1VerifyChecksumRefuses(t *testing.T) {
	for _, s := range []string{
		"", "#", "##", "7", "a", "a#", "#a", "a#384", "a#386", "b#385", "a385", "a#0385", "a#00385", "a#+385", "a#-385",
		"a# 385", "a#385 ", "a#385#", "a#385#1", "##385", "a##385", "a#3850", "a#38", "a#x", "a#1000364",
		"#07", "#-0", "#0", "#999986", "#323#323", "##323", "a#385a", " a#385",
	} {
		checkNotVerified(t, s)
	}
	again := "a#385"
	checkNotVerified(t, again+"#"+strconv.Itoa(sumOf(again)))
}

func TestPromise1ChecksumRoundTrip(t *testing.T) {
	for _, s := range textsOver("a#7\x00\xff", 5) {
		sealed, ok := impl.AppendChecksum(s)
		if ok == strings.Contains(s, "#") {
			t.Fatalf("AppendChecksum(%q) = %q, %v", s, sealed, ok)
		}
		if text, fine := impl.VerifyChecksum(sealed); fine != ok || ok && text != s {
			t.Fatalf("VerifyChecksum(%q) = %q, %v", sealed, text, fine)
		}
	}
}

// checkEachChange replaces each byte that step meets by each other byte.
func checkEachChange(t *testing.T, s string, step int) {
	t.Helper()
	sealed, ok := impl.AppendChecksum(s)
	if !ok {
		t.Fatalf("AppendChecksum(%.20q) fails", s)
	}
	changed := []byte(sealed)
	for i := len(sealed) - 1; i >= 0; i -= step {
		for c := range 256 {
			changed[i] = byte(c)
			text, ok := impl.VerifyChecksum(string(changed))
			if same := byte(c) == sealed[i]; ok != same || same && text != s || !same && text != "" {
				t.Fatalf("byte %d of %.40q changed to %d: %.40q, %v", i, sealed, c, text, ok)
			}
		}
		changed[i] = sealed[i]
	}
}

func TestPromise1EachChangedByteIsDetected(t *testing.T) {
	for _, s := range []string{
		"", "a", "ab", "a,,b", "12s3@100 1@140 4@200", "0", "385", "é", "\x00\x00\x00", "\x7f\x80\xfe\xff", strings.Repeat("\xff", 40),
	} {
		checkEachChange(t, s, 1)
	}
	var high []byte
	for c := 128; c < 256; c++ {
		high = append(high, byte(c))
	}
	checkEachChange(t, string(high), 1)
	checkEachChange(t, textWithSealedLength(t, impl.MaxString), 331)
}

func TestPromise29StringsReturnForAllArguments(t *testing.T) {
	texts := []string{
		"", ",", "#", "-", "a", "\x00", "\xff\xfe", "é", "\xc3", "a#385", "-0", "999999",
		strings.Repeat("#", impl.MaxString), strings.Repeat("\xff", impl.MaxString+1), strings.Repeat("9", 1<<20),
	}
	for _, n := range []int{math.MinInt, -1, 0, 1, math.MaxInt} {
		impl.FormatInt(n)
	}
	for _, a := range texts {
		impl.ParseInt(a)
		impl.Checksum(a)
		impl.AppendChecksum(a)
		impl.VerifyChecksum(a)
		for _, b := range texts {
			impl.LessString(a, b)
			impl.SplitString(a, b)
			impl.JoinStrings(texts, b)
			impl.JoinStrings([]string{a}, b)
			impl.JoinStrings([]string{a, a, a}, b)
		}
	}
	huge := strings.Repeat("a", 1<<20)
	checkNoJoin(t, slices.Repeat([]string{huge}, 1<<16), ",")
}

func TestPromise29StringsAreNotModified(t *testing.T) {
	all := []string{"a", "", "b", "beyond;", "the length"}
	kept := slices.Clone(all)
	parts := all[:3]
	checkJoin(t, parts, ";", "a;;b")
	checkNoJoin(t, parts, "a")
	checkNoJoin(t, parts, "")
	if !slices.Equal(all, kept) {
		t.Errorf("JoinStrings changed its argument to %q", all)
	}
}

func TestPromise29StringsShareNoResults(t *testing.T) {
	first, _ := impl.SplitString("a,b,c", ",")
	second, _ := impl.SplitString("a,b,c", ",")
	first[0] = "x"
	first = append(first[:1], "y", "z", "more")
	if !slices.Equal(second, []string{"a", "b", "c"}) {
		t.Errorf("two results share memory: %q, %q", first, second)
	}
	checkSplit(t, "a,b,c", ",", "a", "b", "c")
}
