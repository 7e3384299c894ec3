package tests

import (
	"bytes"
	"fmt"
	"math"
	"math/big"
	"math/rand"
	"slices"
	"strings"
	"testing"

	"loop.example/g01194/impl"
)

// everyText calls visit with each text of at most size bytes of an alphabet.
func everyText(alphabet string, size int, visit func(s string)) {
	var extend func(s string)
	extend = func(s string) {
		visit(s)
		if len(s) == size {
			return
		}
		for i := range len(alphabet) {
			extend(s + alphabet[i:i+1])
		}
	}
	extend("")
}

// randomText returns a text of size bytes of an alphabet, the same one for the same source.
func randomText(source *rand.Rand, alphabet string, size int) string {
	text := make([]byte, size)
	for i := range text {
		text[i] = alphabet[source.Intn(len(alphabet))]
	}
	return string(text)
}

func allBytes() string {
	all := make([]byte, 256)
	for i := range all {
		all[i] = byte(i)
	}
	return string(all)
}

// strangeTexts are arguments that no function of the chapter may fall over.
func strangeTexts() []string {
	return []string{
		"", " ", "#", "##", "\x00", "\xff\xfe", "é", "\xc3", "\n", "-", "+", "a#", "#7",
		allBytes(), strings.Repeat("#", impl.MaxString+1), strings.Repeat("9", 1<<20),
		strings.Repeat("x", impl.MaxString), strings.Repeat("x", impl.MaxString+1),
	}
}

func TestFormatIntOfEachNumberIsReadAgain(t *testing.T) {
	for n := -impl.MaxDecimal; n <= impl.MaxDecimal; n++ {
		s, ok := impl.FormatInt(n)
		if !ok || s != fmt.Sprint(n) {
			t.Fatalf("FormatInt(%d) = %q, %v", n, s, ok)
		}
		if m, ok := impl.ParseInt(s); !ok || m != n {
			t.Fatalf("ParseInt(%q) = %d, %v", s, m, ok)
		}
	}
}

func TestFormatIntBeyondItsBounds(t *testing.T) {
	for _, n := range []int{1000000, -1000000, 1 << 32, -(1 << 32), math.MaxInt, math.MinInt} {
		if s, ok := impl.FormatInt(n); ok || s != "" {
			t.Errorf("FormatInt(%d) = %q, %v", n, s, ok)
		}
	}
}

func TestParseIntRefuses(t *testing.T) {
	refused := []string{
		"", "-", "+", "--1", "-+1", "+1", "+0", "-0", "-00", "00", "01", "-01", "007", "000000",
		"1000000", "-1000000", "0999999", "-0999999", "9999990", "4294967296", "9223372036854775807",
		"-9223372036854775808", "9223372036854775808", "18446744073709551617", "18446744073709551616",
		" 1", "1 ", "1\n", "\t1", "1 2", "1_000", "1,000", "1.0", "1e3", "0x1", "0b1", "0o7",
		"a", "1a", "a1", "1-", "1\x00", "\x001", "½", "١", "１", "−1", strings.Repeat("0", 100),
		strings.Repeat("1", 100000),
	}
	for _, s := range refused {
		if n, ok := impl.ParseInt(s); ok || n != 0 {
			t.Errorf("ParseInt of %.40q = %d, %v", s, n, ok)
		}
	}
}

func TestParseIntReadsJustWhatIsWritten(t *testing.T) {
	written := map[string]int{}
	for n := -9999; n <= 99999; n++ {
		written[fmt.Sprint(n)] = n
	}
	everyText("+-0129_ x.", 5, func(s string) {
		want, isWritten := written[s]
		if n, ok := impl.ParseInt(s); ok != isWritten || n != want {
			t.Errorf("ParseInt(%q) = %d, %v", s, n, ok)
		}
	})
}

func TestSplitString(t *testing.T) {
	cases := []struct {
		s, sep string
		want   []string
	}{
		{"", ",", []string{""}},
		{",", ",", []string{"", ""}},
		{"a", ",", []string{"a"}},
		{"a,,b", ",", []string{"a", "", "b"}},
		{",a,", ",", []string{"", "a", ""}},
		{",,,", ",", []string{"", "", "", ""}},
		{"a;b", ",", []string{"a;b"}},
		{"a b\nc", "\n", []string{"a b", "c"}},
		{"a\x00b", "\x00", []string{"a", "b"}},
		{"\xff\xfe\xff", "\xff", []string{"", "\xfe", ""}},
		{"é", "\xa9", []string{"\xc3", ""}},
		{"é,é", ",", []string{"é", "é"}},
	}
	for _, c := range cases {
		if parts, ok := impl.SplitString(c.s, c.sep); !ok || !slices.Equal(parts, c.want) {
			t.Errorf("SplitString(%q, %q) = %q, %v", c.s, c.sep, parts, ok)
		}
	}
}

func TestSplitStringAtItsBound(t *testing.T) {
	if parts, ok := impl.SplitString(strings.Repeat(",", 4000), ","); !ok || len(parts) != 4001 {
		t.Error("4000 separators:", len(parts), ok)
	}
	if parts, ok := impl.SplitString(strings.Repeat("a", 4000), ","); !ok || len(parts) != 1 || len(parts[0]) != 4000 {
		t.Error("4000 bytes:", len(parts), ok)
	}
}

func TestSplitStringRefuses(t *testing.T) {
	cases := [][2]string{
		{"a,b", ""}, {"a,b", ",,"}, {"a,,b", ",,"}, {"", ""}, {"", ",,"}, {"aéb", "é"}, {"a", "abc"},
		{strings.Repeat("a", 4001), ","}, {strings.Repeat(",", 4001), ","}, {strings.Repeat("é", 2001), ","},
		{strings.Repeat("a", 4001), ""},
	}
	for _, c := range cases {
		if parts, ok := impl.SplitString(c[0], c[1]); ok || len(parts) != 0 {
			t.Errorf("SplitString(%.20q, %q) = %d parts, %v", c[0], c[1], len(parts), ok)
		}
	}
}

func TestJoinStrings(t *testing.T) {
	cases := []struct {
		parts []string
		sep   string
		want  string
	}{
		{[]string{""}, ",", ""},
		{[]string{"a"}, ",", "a"},
		{[]string{"", ""}, ",", ","},
		{[]string{"a", "", "b"}, ";", "a;;b"},
		{[]string{"a,b", "c"}, ";", "a,b;c"},
		{[]string{"", "", ""}, "\x00", "\x00\x00"},
		{[]string{"\xfe", "é"}, "\xff", "\xfe\xffé"},
	}
	for _, c := range cases {
		if s, ok := impl.JoinStrings(c.parts, c.sep); !ok || s != c.want {
			t.Errorf("JoinStrings(%q, %q) = %q, %v", c.parts, c.sep, s, ok)
		}
	}
}

func TestJoinStringsAtItsBound(t *testing.T) {
	text := func(n int) string { return strings.Repeat("a", n) }
	cases := []struct {
		name  string
		parts []string
		fits  bool
	}{
		{"one part of 4000", []string{text(4000)}, true},
		{"one part of 4001", []string{text(4001)}, false},
		{"two parts with 4000", []string{text(2000), text(1999)}, true},
		{"two parts with 4001", []string{text(2000), text(2000)}, false},
		{"an empty part behind 3999", []string{text(3999), ""}, true},
		{"an empty part behind 4000", []string{text(4000), ""}, false},
		{"4001 empty parts", make([]string, 4001), true},
		{"4002 empty parts", make([]string, 4002), false},
		{"a hundred thousand empty parts", make([]string, 100000), false},
		{"a long part first", []string{text(1 << 20), "a"}, false},
		{"a long part last", []string{"a", text(1 << 20)}, false},
	}
	for _, c := range cases {
		s, ok := impl.JoinStrings(c.parts, ",")
		want := ""
		if c.fits {
			want = strings.Join(c.parts, ",")
		}
		if ok != c.fits || s != want {
			t.Errorf("%s: %d bytes, %v", c.name, len(s), ok)
		}
	}
}

func TestJoinStringsRefuses(t *testing.T) {
	cases := []struct {
		parts []string
		sep   string
	}{
		{nil, ","},
		{[]string{}, ","},
		{nil, ""},
		{[]string{"a", "b"}, ""},
		{[]string{"a", "b"}, ",,"},
		{[]string{"a"}, "é"},
		{[]string{"a"}, ""},
		{[]string{"a"}, "bc"},
		{[]string{","}, ","},
		{[]string{"a,b"}, ","},
		{[]string{",a", "b"}, ","},
		{[]string{"a", "b,"}, ","},
		{[]string{"a", "b,c", "d"}, ","},
		{[]string{"", "", ","}, ","},
		{[]string{"é"}, "\xa9"},
		{[]string{"a\x00"}, "\x00"},
		{[]string{strings.Repeat("a", 3999) + ","}, ","},
	}
	for _, c := range cases {
		if s, ok := impl.JoinStrings(c.parts, c.sep); ok || s != "" {
			t.Errorf("JoinStrings(%.40q, %q) = %.40q, %v", c.parts, c.sep, s, ok)
		}
	}
}

func TestSplittingAndJoiningUndoEachOther(t *testing.T) {
	check := func(s string, sep string) {
		parts, ok := impl.SplitString(s, sep)
		if !ok || len(parts) != strings.Count(s, sep)+1 {
			t.Fatalf("SplitString(%.40q, %q): %d parts, %v", s, sep, len(parts), ok)
		}
		if joined, ok := impl.JoinStrings(parts, sep); !ok || joined != s {
			t.Fatalf("%.40q and %q joined again: %.40q, %v", s, sep, joined, ok)
		}
	}
	everyText("a,;", 6, func(s string) { check(s, ",") })
	source := rand.New(rand.NewSource(1))
	for range 300 {
		s := randomText(source, allBytes(), source.Intn(impl.MaxString+1))
		check(s, randomText(source, allBytes(), 1))
	}
	check(strings.Repeat(",a", impl.MaxString/2), ",")
}

func TestJoinedPartsAreSplitAgain(t *testing.T) {
	source := rand.New(rand.NewSource(2))
	for range 300 {
		parts := make([]string, 1+source.Intn(40))
		for i := range parts {
			parts[i] = randomText(source, "ab;\xff\x00", source.Intn(20))
		}
		s, ok := impl.JoinStrings(parts, ",")
		if !ok {
			t.Fatalf("not joined: %q", parts)
		}
		if again, ok := impl.SplitString(s, ","); !ok || !slices.Equal(again, parts) {
			t.Fatalf("%q split again: %q, %v", parts, again, ok)
		}
	}
}

func TestLessStringComparesBytes(t *testing.T) {
	texts := []string{"B", "a", "z", "é", "日", "\x80", "\xc3", "\xff", "\xff\x00", "a\x00", "10", "9"}
	everyText("\x00a\xff", 4, func(s string) { texts = append(texts, s) })
	for _, a := range texts {
		for _, b := range texts {
			want := bytes.Compare([]byte(a), []byte(b)) < 0
			if impl.LessString(a, b) != want {
				t.Errorf("LessString(%q, %q) is not %v", a, b, want)
			}
		}
	}
	long := strings.Repeat("a", impl.MaxString+1)
	if !impl.LessString(long, long+"a") || impl.LessString(long, long) || impl.LessString(long+"a", long) {
		t.Error("long texts")
	}
}

// plainChecksum adds all terms up and takes the remainder once, in numbers without bounds.
func plainChecksum(s string) int {
	h := big.NewInt(7)
	for i := range len(s) {
		h.Mul(h, big.NewInt(41))
		h.Add(h, big.NewInt(int64(s[i])+1))
	}
	return int(h.Mod(h, big.NewInt(999979)).Int64())
}

func TestChecksum(t *testing.T) {
	for s, want := range map[string]int{"": 7, "a": 385, "ab": 15884, "\x00": 288, "\x00\x00": 11809, "\xff": 543} {
		if sum, ok := impl.Checksum(s); !ok || sum != want {
			t.Errorf("Checksum(%q) = %d, %v", s, sum, ok)
		}
	}
	source := rand.New(rand.NewSource(3))
	sizes := []int{3, 4, 5, 100, 3999, 4000}
	for range 30 {
		sizes = append(sizes, source.Intn(impl.MaxString+1))
	}
	for _, size := range sizes {
		s := randomText(source, allBytes(), size)
		if sum, ok := impl.Checksum(s); !ok || sum != plainChecksum(s) {
			t.Errorf("Checksum of %d bytes = %d, %v", size, sum, ok)
		}
	}
}

func TestChecksumRefusesLongTexts(t *testing.T) {
	for _, size := range []int{4001, 4002, 1 << 20} {
		if sum, ok := impl.Checksum(strings.Repeat("a", size)); ok || sum != 0 {
			t.Errorf("Checksum of %d bytes = %d, %v", size, sum, ok)
		}
	}
}

func TestAppendChecksum(t *testing.T) {
	for _, s := range []string{"", "a", "ab", "a b", "é", "\x00", "\xff", "385", "a@b", allBytes()[:35]} {
		want := s + "#" + fmt.Sprint(plainChecksum(s))
		if sealed, ok := impl.AppendChecksum(s); !ok || sealed != want {
			t.Errorf("AppendChecksum(%q) = %q, %v", s, sealed, ok)
		}
	}
	for _, s := range []string{"#", "a#", "#a", "a#b", "a#385", "##", strings.Repeat("a", 3000) + "#"} {
		if sealed, ok := impl.AppendChecksum(s); ok || sealed != "" {
			t.Errorf("AppendChecksum(%.20q) = %.20q, %v", s, sealed, ok)
		}
	}
}

// sealedOf puts a text and its checksum together without any bound.
func sealedOf(s string) string { return s + "#" + fmt.Sprint(plainChecksum(s)) }

func TestSealedTextsAtTheBound(t *testing.T) {
	sizes := map[int]int{}
	for _, fill := range []string{"a", "b", "z", "0", " ", "\x00", "\xff"} {
		for size := 3990; size <= 4001; size++ {
			text := strings.Repeat(fill, size)
			sealed := sealedOf(text)
			sizes[len(sealed)]++
			fits := len(sealed) <= impl.MaxString
			wantText, wantSealed := text, sealed
			if !fits {
				wantText, wantSealed = "", ""
			}
			if s, ok := impl.AppendChecksum(text); ok != fits || s != wantSealed {
				t.Errorf("%d bytes %q: sealed to %d bytes, %v", size, fill, len(s), ok)
			}
			if s, ok := impl.VerifyChecksum(sealed); ok != fits || s != wantText {
				t.Errorf("%d bytes %q: opened to %d bytes, %v", size, fill, len(s), ok)
			}
		}
	}
	if sizes[4000] == 0 || sizes[4001] == 0 {
		t.Error("no text at the bound, or none just beyond it")
	}
}

func TestVerifyChecksumReturnsTheText(t *testing.T) {
	check := func(s string) {
		sealed, ok := impl.AppendChecksum(s)
		if !ok {
			t.Fatalf("not sealed: %.40q", s)
		}
		if opened, ok := impl.VerifyChecksum(sealed); !ok || opened != s {
			t.Fatalf("VerifyChecksum(%.40q) = %.40q, %v", sealed, opened, ok)
		}
	}
	everyText("a-0\xff", 5, check)
	withoutMark := strings.Replace(allBytes(), "#", "", 1)
	source := rand.New(rand.NewSource(4))
	for range 300 {
		check(randomText(source, withoutMark, source.Intn(3994)))
	}
	check(strings.Repeat("a", 3993))
}

func TestVerifyChecksumRefuses(t *testing.T) {
	refused := []string{
		"", "#", "##", "a", "385", "a385", "#385", "a#", "a##385", "a#385#", "a#385#1", "a#a#385", "#a#385",
		"a#384", "a#386", "b#385", "a#0385", "a#+385", "a#-385", "a# 385", "a#385 ", "a#385\n", " a#385",
		"a#3850", "a#38", "a#385.0", "a#0x181", "a#1000364", "a#-999594", "#07", "#7#7", "#-7", "#8", "A#385",
		"a@385", sealedOf("a#b"), sealedOf("#"), "a#385" + sealedOf("a#385"),
		sealedOf(strings.Repeat("a", 4000)), sealedOf(strings.Repeat("a", 5000)), strings.Repeat("#", 5000),
	}
	for _, s := range refused {
		if opened, ok := impl.VerifyChecksum(s); ok || opened != "" {
			t.Errorf("VerifyChecksum(%.40q) = %.40q, %v", s, opened, ok)
		}
	}
}

func TestVerifyChecksumReadsJustWhatIsWritten(t *testing.T) {
	written := map[string]string{}
	// With the mark and a digit, a text of more than 4 bytes is sealed to more than 6.
	everyText("1a3857", 4, func(s string) { written[sealedOf(s)] = s })
	everyText("#1a3857", 6, func(s string) {
		want, isWritten := written[s]
		if opened, ok := impl.VerifyChecksum(s); ok != isWritten || opened != want {
			t.Errorf("VerifyChecksum(%q) = %q, %v", s, opened, ok)
		}
	})
}

// checkChanged fails the test if a text with another byte at a place is opened.
func checkChanged(t *testing.T, sealed string, place int, c byte) {
	if sealed[place] == c {
		return
	}
	changed := []byte(sealed)
	changed[place] = c
	if opened, ok := impl.VerifyChecksum(string(changed)); ok || opened != "" {
		t.Fatalf("byte %d of %.40q changed to %q: opened to %.40q, %v", place, sealed, c, opened, ok)
	}
}

func TestEachChangedByteOfASealedTextIsFound(t *testing.T) {
	texts := []string{"", "a", "ab", "a b c", "0", "385", "\x00", "\xff\xff", "é", "slide 0@12", "aaaaaaaaaaaaaaaaaaaaaaaaaaaaaa"}
	source := rand.New(rand.NewSource(5))
	for size := range 40 {
		texts = append(texts, randomText(source, "abc /@019", size))
	}
	for _, s := range texts {
		sealed, ok := impl.AppendChecksum(s)
		if !ok {
			t.Fatalf("not sealed: %q", s)
		}
		for place := range len(sealed) {
			for c := range 256 {
				checkChanged(t, sealed, place, byte(c))
			}
		}
	}
}

func TestEachChangedByteOfALongTextIsFound(t *testing.T) {
	sealed, ok := impl.AppendChecksum(strings.Repeat("az", 1996))
	if !ok || len(sealed) < 3995 {
		t.Fatal("not sealed", len(sealed))
	}
	for place := range len(sealed) {
		for _, c := range []byte{0, '#', '0', '9', sealed[place] ^ 1, sealed[place] + 1, 255 - sealed[place], 255} {
			checkChanged(t, sealed, place, c)
		}
	}
}

func TestStringsReturnForAllArgumentsAlike(t *testing.T) {
	answers := func(a string, b string) string {
		n, fine := impl.ParseInt(a)
		parts, split := impl.SplitString(a, b)
		joined, whole := impl.JoinStrings([]string{a, b}, b)
		sum, summed := impl.Checksum(a)
		sealed, done := impl.AppendChecksum(a)
		opened, found := impl.VerifyChecksum(a)
		return fmt.Sprintf("%v %v %q %v %q %v %v %v %v %q %v %q %v", n, fine, parts, split, joined, whole,
			impl.LessString(a, b), sum, summed, sealed, done, opened, found)
	}
	for _, a := range strangeTexts() {
		for _, b := range strangeTexts() {
			if answers(a, b) != answers(a, b) {
				t.Errorf("two answers for %.40q and %.40q", a, b)
			}
		}
	}
}

func TestJoinStringsLeavesItsParts(t *testing.T) {
	for _, parts := range [][]string{{"a", "", "b"}, {"a,b", "c"}, {strings.Repeat("a", 4001)}, {""}} {
		// What lies behind the parts in their array is not the function's either.
		array := append(slices.Clone(parts), "kept")
		impl.JoinStrings(array[:len(parts)], ",")
		if !slices.Equal(array[:len(parts)], parts) || array[len(parts)] != "kept" {
			t.Errorf("the parts are %q now", array)
		}
	}
}

func TestSplitStringReturnsNewMemory(t *testing.T) {
	first, _ := impl.SplitString("a,b,c", ",")
	second, _ := impl.SplitString("a,b,c", ",")
	first[0] = "x"
	_ = append(first[:1], "y", "z")
	if !slices.Equal(second, []string{"a", "b", "c"}) {
		t.Errorf("the other result is %q now", second)
	}
	third, _ := impl.SplitString("a,b,c", ",")
	if !slices.Equal(third, second) {
		t.Errorf("the next result is %q", third)
	}
}
