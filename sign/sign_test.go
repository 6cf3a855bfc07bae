package sign

import (
	"math"
	"math/rand"
	"strconv"
	"strings"
	"testing"
	"unicode/utf8"

	"impost/api"
)

// runes are s's, read by the library's decoder, not by a range.
func runes(s string) []rune {
	var all []rune
	for len(s) > 0 {
		r, n := utf8.DecodeRuneInString(s)
		all, s = append(all, r), s[n:]
	}
	return all
}

// text is one of rs, written by the library's encoder.
func text(rs []rune) string {
	var b []byte
	for _, r := range rs {
		b = utf8.AppendRune(b, r)
	}
	return string(b)
}

// pieces are what texts are put together from: runes at the edges of each range, of each length, and bytes that are no UTF-8.
func pieces() []string {
	all := []string{"\xff", "\xfe", "\x80", "\xbf", "\xc3", "\xe2", "\xe2\x82", "\xf0\x9f\x98", "\xc0\x80", "\xed\xa0\x80", "\xf4\x90\x80\x80", "\x00", "\ufffd"}
	for _, r := range []rune{'@', 'A', 'M', 'Z', '[', '`', 'a', 'm', 'z', '{', '/', '0', '7', '9', ':', '-', '_', '.', ',', ' ', '+', 0x7F, 0x80, 0xBF, 0xC0, 0xC4, 0xD6, 0xD7, 0xD8, 0xDE, 0xDF, 0xE0, 0xF6, 0xF7, 0xF8, 0xFE, 0xFF, 0x100, 0x101, 0x24F, 0x250, 0x663, 0x7FF, 0x800, 0xFF10, 0xFFFF, 0x10000, 0x10FFFF} {
		all = append(all, string(r))
	}
	return all
}

// texts are each piece alone, each two, and longer ones drawn from a fixed seed, so that each run tests the same.
func texts() []string {
	all := append([]string{""}, pieces()...)
	for _, a := range pieces() {
		for _, b := range pieces() {
			all = append(all, a+b)
		}
	}
	draw := rand.New(rand.NewSource(5))
	for range 3000 {
		var b strings.Builder
		for range 1 + draw.Intn(14) {
			b.WriteString(pieces()[draw.Intn(len(pieces()))])
		}
		all = append(all, b.String())
	}
	return all
}

// P3.1

func TestLetterEdges(t *testing.T) {
	runs := map[rune]bool{
		'a': true, 'z': true, 'a' - 1: false, 'z' + 1: false,
		'A': true, 'Z': true, 'A' - 1: false, 'Z' + 1: false,
		0xBF: false, 0xC0: true, 0x24F: true, 0x250: false,
		0xD6: true, 0xD7: false, 0xD8: true, 0xF6: true, 0xF7: false, 0xF8: true,
		'0': false, '9': false, '-': false, '_': false, '.': false, ' ': false, 0: false,
		0xFFFD: false, 0x10FFFF: false, 0x110000: false, 0xD800: false,
		-1: false, -'a': false, math.MaxInt32: false, math.MinInt32: false,
	}
	for r, want := range runs {
		if Letter(r) != want {
			t.Errorf("Letter(%x) = %v", r, !want)
		}
	}
}

func TestLetterAll(t *testing.T) {
	var want [0x24F + 1]bool
	for _, r := range "abcdefghijklmnopqrstuvwxyzABCDEFGHIJKLMNOPQRSTUVWXYZ" {
		want[r] = true
	}
	for r := 0xC0; r <= 0x24F; r++ {
		want[r] = r != 0xD7 && r != 0xF7
	}
	for r := rune(-1000); r < 0x120000; r++ {
		if is := r >= 0 && int(r) < len(want) && want[r]; Letter(r) != is {
			t.Errorf("Letter(%x) = %v", r, !is)
		}
	}
}

func TestNameKnown(t *testing.T) {
	runs := map[string]bool{
		"Rot-7": true, "Übung": true, "7a": false, "a b": false, "a\xff": false, "": false,
		"a": true, "Z": true, "À": true, "ɏ": true, "ɐ": false, "aɐ": false,
		"a-_.0123456789": true, "a/": false, "a:": false, "a,": false, "a+": false, "a\x00": false, "a\n": false,
		"-": false, "_": false, ".": false, "0": false, "9": false, "-a": false, "_a": false, ".a": false, "0a": false,
		"×": false, "÷": false, "a×": false, "a÷": false, "×a": false,
		"\xff": false, "\xffa": false, "a\xffb": false, "a\xc3": false, "\xc3": false, "ab\xe2\x82": false, "a\xed\xa0\x80": false,
		"a\ufffd": false, "\ufffd": false, "a٣": false, "٣": false, "日": false, "a日": false, "a\U0010ffff": false,
		" a": false, "a ": false,
	}
	for s, want := range runs {
		if Name(s) != want {
			t.Errorf("Name(%q) = %v", s, !want)
		}
	}
}

func TestNameLength(t *testing.T) {
	if api.MaxName != 24 {
		t.Fatalf("MaxName is %d", api.MaxName)
	}
	for n := range 60 {
		if s := strings.Repeat("n", n); Name(s) != (n >= 1 && n <= 24) {
			t.Errorf("%d bytes: %v", n, Name(s))
		}
		if s := strings.Repeat("é", n); Name(s) != (n >= 1 && n <= 12) {
			t.Errorf("%d runes of two bytes: %v", n, Name(s))
		}
		if s := "é" + strings.Repeat("7", n); Name(s) != (n <= 22) {
			t.Errorf("two bytes and %d digits: %v", n, Name(s))
		}
	}
	if Name(strings.Repeat("n", 23)+"é") || !Name(strings.Repeat("n", 22)+"é") {
		t.Error("a last rune over the edge")
	}
}

// mayBeName is the chapter's sentence, asked of a list of runes.
func mayBeName(s string) bool {
	const inner = "0123456789-_."
	rs := runes(s)
	for _, r := range rs {
		if !Letter(r) && !strings.ContainsRune(inner, r) {
			return false
		}
	}
	return len(s) >= 1 && len(s) <= 24 && Letter(rs[0])
}

func TestNameModel(t *testing.T) {
	for _, s := range texts() {
		if Name(s) != mayBeName(s) {
			t.Errorf("Name(%q) = %v", s, Name(s))
		}
	}
	for r := range rune(0x11000) {
		for _, s := range []string{string(r), "a" + string(r), "Ü9" + string(r) + "."} {
			if Name(s) != mayBeName(s) {
				t.Errorf("Name(%q) = %v", s, Name(s))
			}
		}
	}
}

// P3.2

func TestFoldKnown(t *testing.T) {
	runs := map[string]string{
		"ÄbC×": "äbc×", "": "", "A": "a", "Z": "z", "@": "@", "[": "[", "AZ@[": "az@[", "az`{": "az`{",
		"À": "à", "Þ": "þ", "¿": "¿", "ß": "ß", "Ö×Ø": "ö×ø", "÷": "÷", "àþÿ": "àþÿ",
		"Ā": "Ā", "Ÿ": "Ÿ", "Ɏ": "Ɏ", "Σ": "Σ", "日A": "日a", "\U0001F600B": "\U0001F600b",
		"\xff": "\ufffd", "A\xffB": "a\ufffdb", "A\xe2\x82": "a\ufffd\ufffd", "\xc3": "\ufffd", "\xc3A": "\ufffda", "\xed\xa0\x80": "\ufffd\ufffd\ufffd",
		"A\x00B": "a\x00b", "0-9_.": "0-9_.",
	}
	for s, want := range runs {
		if got := Fold(s); got != want {
			t.Errorf("Fold(%q) = %q, not %q", s, got, want)
		}
	}
}

func TestFoldEachRune(t *testing.T) {
	for r := range rune(utf8.MaxRune + 1) {
		want := r
		switch {
		case r >= 0xD800 && r <= 0xDFFF:
			want = 0xFFFD
		case strings.ContainsRune("ABCDEFGHIJKLMNOPQRSTUVWXYZÀÁÂÃÄÅÆÇÈÉÊËÌÍÎÏÐÑÒÓÔÕÖØÙÚÛÜÝÞ", r):
			want = r + 0x20
		}
		if got := Fold(string(r)); got != string(want) {
			t.Errorf("Fold of %x = %q", r, got)
		}
	}
}

func TestFoldModel(t *testing.T) {
	for _, s := range texts() {
		rs := runes(s)
		for k, r := range rs {
			if r >= 'A' && r <= 'Z' || r >= 0xC0 && r <= 0xDE && r != 0xD7 {
				rs[k] = r + 0x20
			}
		}
		if got := Fold(s); got != text(rs) {
			t.Errorf("Fold(%q) = %q, not %q", s, got, text(rs))
		}
	}
}

func TestSame(t *testing.T) {
	runs := []struct {
		a, b string
		want bool
	}{
		{"STRASSE", "strasse", true}, {"", "", true}, {"", "a", false}, {"a", "", false}, {"a", "b", false}, {"a", "ab", false},
		{"ÄÖ", "äö", true}, {"Ä", "ä", true}, {"ß", "ss", false}, {"ß", "ẞ", false}, {"×", "÷", false}, {"Ÿ", "ÿ", false}, {"Ā", "ā", false},
		{"@", "`", false}, {"[", "{", false}, {"a\xff", "A\xfe", true}, {"\xff", "\ufffd", true}, {"\xff", "\xff\xff", false}, {"\xe2\x82", "\xff\xff", true},
	}
	for _, r := range runs {
		if Same(r.a, r.b) != r.want || Same(r.b, r.a) != r.want {
			t.Errorf("Same(%q, %q) is not %v", r.a, r.b, r.want)
		}
	}
}

func TestSameIsFoldsEquality(t *testing.T) {
	all := texts()[:400]
	for _, a := range all {
		for _, b := range all {
			if Same(a, b) != (Fold(a) == Fold(b)) {
				t.Errorf("Same(%q, %q) = %v", a, b, Same(a, b))
			}
		}
	}
}

func TestWidth(t *testing.T) {
	runs := map[string]int{
		"aé\xff": 3, "": 0, "a": 1, "é": 1, "日本": 2, "\U0001F600": 1, "\xff": 1, "\xe2\x82": 2, "a\xe2\x82": 3, "\xe2\x82x": 3, "\xf0\x9f\x98": 3, "\xed\xa0\x80": 3, "\xc0\x80": 2, "\x00": 1, "e\u0301": 2,
	}
	for s, want := range runs {
		if got := Width(s); got != want {
			t.Errorf("Width(%q) = %d, not %d", s, got, want)
		}
	}
	for _, s := range texts() {
		if got := Width(s); got != len(runes(s)) {
			t.Errorf("Width(%q) = %d, not %d", s, got, len(runes(s)))
		}
	}
}

func TestCutKnown(t *testing.T) {
	runs := []struct {
		s    string
		n    int
		want string
	}{
		{"aéb", 2, "aé"}, {"aéb", 1, "a"}, {"aéb", 3, "aéb"}, {"aéb", 4, "aéb"}, {"aéb", 0, ""}, {"aéb", -1, ""}, {"aéb", math.MinInt, ""}, {"aéb", math.MaxInt, "aéb"},
		{"", 0, ""}, {"", 1, ""}, {"", -1, ""}, {"", math.MaxInt, ""}, {"", math.MinInt, ""},
		{"\xff\xfe", 1, "\xff"}, {"\xff\xfe", 2, "\xff\xfe"}, {"\xe2\x82x", 1, "\xe2"}, {"\xe2\x82x", 2, "\xe2\x82"}, {"x\xe2\x82", 2, "x\xe2"}, {"x\xe2\x82", 3, "x\xe2\x82"}, {"a\xff", 2, "a\xff"},
		{"日本", 1, "日"}, {"\U0001F600b", 1, "\U0001F600"}, {"AÄ", 2, "AÄ"}, {"a\x00b", 2, "a\x00"},
	}
	for _, r := range runs {
		if got := Cut(r.s, r.n); got != r.want {
			t.Errorf("Cut(%q, %d) = %q, not %q", r.s, r.n, got, r.want)
		}
	}
}

func TestCutModel(t *testing.T) {
	for _, s := range texts() {
		ends := []int{0}
		for at := 0; at < len(s); {
			_, n := utf8.DecodeRuneInString(s[at:])
			at += n
			ends = append(ends, at)
		}
		for n := -2; n < len(ends)+3; n++ {
			want := s[:ends[min(max(n, 0), len(ends)-1)]]
			if got := Cut(s, n); got != want {
				t.Errorf("Cut(%q, %d) = %q, not %q", s, n, got, want)
			}
		}
	}
}

// P3.3

func TestDigitsKnown(t *testing.T) {
	runs := map[string]int{
		"120": 120, "0": 0, "1": 1, "9": 9, "10": 10, "907": 907, "1000": 1000,
		"999999999999999999": 999999999999999999, "100000000000000000": 100000000000000000, "123456789012345678": 123456789012345678,
	}
	for s, want := range runs {
		if n, ok := Digits(s); n != want || !ok {
			t.Errorf("Digits(%q) = %d, %v", s, n, ok)
		}
	}
}

func TestDigitsWrong(t *testing.T) {
	runs := []string{
		"", "00", "007", "01", "000000000000000000", "012345678901234567", "0a",
		"1234567890123456789", "1000000000000000000", "0000000000000000001", "9223372036854775807", "99999999999999999999", strings.Repeat("1", 99),
		"-", "-1", "+1", "-0", " 1", "1 ", "1.0", "1e3", "0x1", "1_0", "1,0", "a", "1a", "a1", "1a1", "/", ":", "1/", "1:",
		"٣", "1٣", "٣1", "１", "1１", "²", "\xff", "1\xff", "\xff1", "1\xff2", "\xd9", "1\x00", "\ufffd",
	}
	for _, s := range runs {
		if n, ok := Digits(s); n != 0 || ok {
			t.Errorf("Digits(%q) = %d, %v", s, n, ok)
		}
	}
}

func TestDigitsModel(t *testing.T) {
	for _, s := range texts() {
		want, err := strconv.ParseUint(s, 10, 62)
		is := err == nil && len(s) <= 18 && strconv.FormatUint(want, 10) == s
		if n, ok := Digits(s); ok != is || is && n != int(want) || !is && n != 0 {
			t.Errorf("Digits(%q) = %d, %v", s, n, ok)
		}
	}
	draw := rand.New(rand.NewSource(7))
	for range 20000 {
		want := int(draw.Uint64()>>1) >> draw.Intn(63)
		s := strconv.Itoa(want)
		n, ok := Digits(s)
		if ok != (len(s) <= 18) || ok && n != want || !ok && n != 0 {
			t.Errorf("Digits(%q) = %d, %v", s, n, ok)
		}
	}
}

func TestDigitsEachRune(t *testing.T) {
	for r := range rune(utf8.MaxRune + 1) {
		is := r >= '0' && r <= '9'
		if n, ok := Digits(string(r)); ok != is || is && n != int(r-'0') || !is && n != 0 {
			t.Errorf("Digits of %x = %d, %v", r, n, ok)
		}
	}
}

// P3.4

func TestFoldOfFold(t *testing.T) {
	for _, s := range texts() {
		once := Fold(s)
		if Fold(once) != once || Width(once) != Width(s) || !Same(s, once) {
			t.Errorf("Fold(%q) = %q, and again %q; widths %d, %d", s, once, Fold(once), Width(s), Width(once))
		}
	}
}

func TestNameFolded(t *testing.T) {
	names := 0
	for _, s := range append(texts(), strings.Repeat("À", 12), strings.Repeat("Þ", 12), strings.Repeat("Z", 24), "ÄbC-9") {
		if !Name(s) {
			continue
		}
		names++
		if !Name(Fold(s)) {
			t.Errorf("%q is a name, %q is none", s, Fold(s))
		}
	}
	if names < 300 {
		t.Errorf("but %d names", names)
	}
	for r := range rune(0x300) {
		if s := string(r); Name(s) && !Name(Fold(s)) {
			t.Errorf("%q is a name, %q is none", s, Fold(s))
		}
	}
}

func TestCutWidth(t *testing.T) {
	for _, s := range texts() {
		for n := -2; n < len(s)+3; n++ {
			got := Cut(s, n)
			if Width(got) != min(max(n, 0), Width(s)) || !strings.HasPrefix(s, got) {
				t.Errorf("Cut(%q, %d) = %q of %d runes", s, n, got, Width(got))
			}
		}
	}
}

// R1, R6: a text far above all limits is gone through once.
func TestLongTexts(t *testing.T) {
	const n = 1 << 20
	for piece, wide := range map[string]int{"A": 1, "É": 1, "\xff": 1, "\xe2\x82": 2, "日": 1} {
		s := strings.Repeat(piece, n)
		if Name(s) || Width(s) != n*wide || Width(Fold(s)) != n*wide || !Same(s, Fold(s)) || Cut(s, n*wide-1) == s || Cut(s, n*wide) != s {
			t.Errorf("%d times %q", n, piece)
		}
		if v, ok := Digits(s); v != 0 || ok {
			t.Errorf("Digits of %d times %q = %d, %v", n, piece, v, ok)
		}
	}
}
