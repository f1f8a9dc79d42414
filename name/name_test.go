package name_test

import (
	"regexp"
	"strconv"
	"strings"
	"testing"
	"unicode/utf8"

	"sentry/api"
	"sentry/name"
)

// P1.1: every rune, held against the ranges as the chapter writes them.
func TestCharOfEveryRune(t *testing.T) {
	ranges := [][2]rune{{0x9, 0x9}, {0xa, 0xa}, {0xd, 0xd}, {0x20, 0xd7ff}, {0xe000, 0xfffd}, {0x10000, 0x10ffff}}
	for r := rune(-0x100); r <= 0x110100; r++ {
		want := false
		for _, x := range ranges {
			want = want || x[0] <= r && r <= x[1]
		}
		if name.Char(r) != want {
			t.Fatalf("Char(%x) is not %v", r, want)
		}
	}
}

func TestCharOfRunesFarOut(t *testing.T) {
	for _, r := range []rune{-1 << 31, -0x10ffff, -0x20, -9, 1<<31 - 1, 0x7fff0041, 0x1000041} {
		if name.Char(r) {
			t.Errorf("Char(%x)", r)
		}
	}
}

// P1.1: every byte alone, and every byte behind the first.
func TestIsOfEveryByte(t *testing.T) {
	const letters = "abcdefghijklmnopqrstuvwxyzABCDEFGHIJKLMNOPQRSTUVWXYZ_"
	for c := 0; c < 256; c++ {
		s := string([]byte{byte(c)})
		begins := strings.Contains(letters, s)
		if name.Is(s) != begins {
			t.Errorf("Is(%q) is not %v", s, begins)
		}
		goesOn := strings.Contains(letters+"0123456789-.", s)
		for _, whole := range []string{"a" + s, "_" + s + "z", "Zab" + s} {
			if name.Is(whole) != goesOn {
				t.Errorf("Is(%q) is not %v", whole, goesOn)
			}
		}
		if name.Is(s+"a") != begins {
			t.Errorf("Is(%q) is not %v", s+"a", begins)
		}
	}
}

func TestIsByLength(t *testing.T) {
	for n := 0; n <= 3*api.MaxName; n++ {
		want := 1 <= n && n <= api.MaxName
		for _, s := range []string{strings.Repeat("x", n), strings.Repeat("_9-.", n)[:n]} {
			if name.Is(s) != want {
				t.Errorf("Is(%q) is not %v", s, want)
			}
		}
	}
	// Bytes count, and no sign of more than one byte may be in a name.
	for _, s := range []string{"\u00e9", "a\u00e9", "a\u0660", "a\uff41", "\U0001d41a", "a\xff", "\x80", "a\x00"} {
		if name.Is(s) {
			t.Errorf("Is(%q)", s)
		}
	}
	if name.Is(strings.Repeat("a", 1<<20)) {
		t.Error("Is of a long text")
	}
}

// P1.1: IsQual is Is of each side of one colon.
func TestIsQual(t *testing.T) {
	long := strings.Repeat("x", api.MaxName)
	for _, s := range []string{"a", "_", "a:b", "A.1:_-", "xmlns:p", long, long + ":a", "a:" + long, long + ":" + long} {
		if !name.IsQual(s) {
			t.Errorf("not IsQual(%q)", s)
		}
	}
	for _, s := range []string{"", ":", "::", "a:", ":a", "a::b", ":a:b", "a:b:", "a:b:c", "1:a", "a:1", "a :b", "a: b", "-a:b", "a:-b", ".a",
		long + "x", long + "x:a", "a:" + long + "x", "a;b", "a\uff1ab", "a:\xff", "\xff:a", "a:b\n", strings.Repeat("a:", 1<<16)} {
		if name.IsQual(s) {
			t.Errorf("IsQual(%.40q)", s)
		}
	}
}

// P1.1: Split asks nothing of what stands on either side.
func TestSplit(t *testing.T) {
	for _, x := range []struct{ s, prefix, local string }{
		{"", "", ""}, {"a", "", "a"}, {":", "", ""}, {":a", "", "a"}, {"a:", "a", ""}, {"a:b", "a", "b"}, {"a:b:c", "a", "b:c"}, {"::", "", ":"},
		{"::a", "", ":a"}, {" : ", " ", " "}, {"\xff:\x00", "\xff", "\x00"}, {"\xff", "", "\xff"}, {"\u00e9:\u00e8", "\u00e9", "\u00e8"}, {"a\uff1ab", "", "a\uff1ab"},
	} {
		if prefix, local := name.Split(x.s); prefix != x.prefix || local != x.local {
			t.Errorf("Split(%q) is %q, %q", x.s, prefix, local)
		}
	}
}

// P1.2: every byte is written as the chapter says, alone and among others.
func TestEscapeOfEveryByte(t *testing.T) {
	always := map[byte]string{'&': "&amp;", '<': "&lt;", '>': "&gt;"}
	inAttr := map[byte]string{'"': "&quot;", 0x9: "&#9;", 0xa: "&#10;", 0xd: "&#13;"}
	for c := 0; c < 256; c++ {
		s := string([]byte{byte(c)})
		plain, found := always[byte(c)]
		if !found {
			plain = s
		}
		attr, found := inAttr[byte(c)]
		if !found {
			attr = plain
		}
		for _, x := range []struct {
			attr bool
			want string
		}{{false, plain}, {true, attr}} {
			if got := name.Escape(s, x.attr); got != x.want {
				t.Errorf("Escape(%q, %v) is %q", s, x.attr, got)
			}
			if got := name.Escape("x"+s+s+"y", x.attr); got != "x"+x.want+x.want+"y" {
				t.Errorf("Escape of %q twice, %v, is %q", s, x.attr, got)
			}
		}
	}
}

func TestEscapeOfTexts(t *testing.T) {
	for _, x := range []struct{ s, plain, attr string }{
		{"", "", ""},
		{"a<b & c>\"d'", "a&lt;b &amp; c&gt;\"d'", "a&lt;b &amp; c&gt;&quot;d'"},
		{"&lt;", "&amp;lt;", "&amp;lt;"},
		{"\r\n\t", "\r\n\t", "&#13;&#10;&#9;"},
		{"\u00e9\ufffd\U0010ffff", "\u00e9\ufffd\U0010ffff", "\u00e9\ufffd\U0010ffff"},
		{"\xff<\xed\xa0\x80\"\x00", "\xff&lt;\xed\xa0\x80\"\x00", "\xff&lt;\xed\xa0\x80&quot;\x00"},
	} {
		if plain, attr := name.Escape(x.s, false), name.Escape(x.s, true); plain != x.plain || attr != x.attr {
			t.Errorf("Escape(%q) is %q, %q", x.s, plain, attr)
		}
	}
}

// P1.2: a reference by number is a sign's, however it is written.
func TestUnescapeOfNumbersOfEveryRune(t *testing.T) {
	for n := int64(0); n <= 0x110010; n++ {
		want, ok := "", name.Char(rune(n))
		if ok {
			want = string(rune(n))
		}
		small := strconv.FormatInt(n, 16)
		for _, s := range []string{"&#" + strconv.FormatInt(n, 10) + ";", "&#x" + small + ";", "&#x" + strings.ToUpper(small) + ";"} {
			if got, is := name.Unescape(s); got != want || is != ok {
				t.Fatalf("Unescape(%q) is %q, %v", s, got, is)
			}
		}
	}
}

func TestUnescapeByDigits(t *testing.T) {
	for n := 0; n <= 12; n++ {
		zeros := strings.Repeat("0", n)
		for _, x := range []struct {
			s, sign string
			digits  int
		}{{"&#" + zeros + "9;", "\t", n + 1}, {"&#x" + zeros + "a;", "\n", n + 1}, {"&#x" + zeros + "4A;", "J", n + 2}, {"&#" + zeros + "1114111;", "\U0010ffff", n + 7}} {
			want, ok := "", x.digits <= 7
			if ok {
				want = x.sign
			}
			if got, is := name.Unescape(x.s); got != want || is != ok {
				t.Errorf("Unescape(%q) is %q, %v", x.s, got, is)
			}
		}
	}
	// Each of these has a sign's number, if it is cut or wraps round.
	for _, s := range []string{"&#9999999;", "&#xfffffff;", "&#x1000041;", "&#x100000041;", "&#4294967361;", "&#18446744073709551681;", "&#x" + strings.Repeat("f", 1<<16) + ";"} {
		if got, ok := name.Unescape(s); ok || got != "" {
			t.Errorf("Unescape(%.40q) is %q, %v", s, got, ok)
		}
	}
}

func TestUnescapeOfTexts(t *testing.T) {
	for s, want := range map[string]string{
		"": "", "a&#x41;&lt;": "aA<", "&amp;&lt;&gt;&quot;&apos;": "&<>\"'", "&amp;amp;": "&amp;", "&#38;lt;": "&lt;", "&#x26;#65;": "&#65;",
		"&#xe9;&#xE9;&#xEa;": "\u00e9\u00e9\u00ea", "<>\"';#x": "<>\"';#x", "\t\n\r ": "\t\n\r ", ";&lt;;": ";<;", "\u00e9\ud7ff\ue000\ufffd\U00010000\U0010ffff": "\u00e9\ud7ff\ue000\ufffd\U00010000\U0010ffff",
		"&#xfffd;": "\ufffd", "\x7f\u0085": "\x7f\u0085",
	} {
		if got, ok := name.Unescape(s); !ok || got != want {
			t.Errorf("Unescape(%q) is %q, %v", s, got, ok)
		}
	}
}

func TestUnescapeRefuses(t *testing.T) {
	wrong := []string{
		"&", "&;", "&&", "&&amp;", "&amp", "&amp ;", "& amp;", "&am;", "&ampx;", "&AMP;", "&Lt;", "&ltgt;", "&nbsp;", "&#", "&#;", "&#x", "&#x;",
		"&#X41;", "&x41;", "&65;", "&#-9;", "&#+9;", "&#x-9;", "&#x+9;", "&# 9;", "&#9 ;", "&#x 9;", "&#0x9;", "&#x0x9;", "&#6_5;", "&#6a;", "&#a;", "&#xg;", "&#xG;",
		"&#x4\u0661;", "&#\u0661;", "&##9;", "&#9", "&#x9", "&lt&gt;", "&\xff;", "&#\x009;", "&#/;", "&#:;", "&#x@;", "&#x`;",
		"&#0;", "&#8;", "&#11;", "&#12;", "&#14;", "&#31;", "&#xd800;", "&#xdfff;", "&#xfffe;", "&#xffff;", "&#x110000;",
		"\x00", "\x08", "\x0b", "\x0c", "\x0e", "\x1f", "\ufffe", "\uffff",
		"\xff", "\x80", "\xc0\x80", "\xc1\xbf", "\xe0\x80\x80", "\xed\xa0\x80", "\xed\xbf\xbf", "\xf0\x80\x80\x80", "\xf4\x90\x80\x80", "\xf8\x88\x80\x80\x80",
		"\xc3", "\xe2\x82", "\xf0\x9f\x98",
	}
	for _, w := range wrong {
		for _, s := range []string{w, "ab" + w, "&lt;\u00e9" + w, w + " b", w + "\u00e9&gt;"} {
			if got, ok := name.Unescape(s); ok || got != "" {
				t.Errorf("Unescape(%q) is %q, %v", s, got, ok)
			}
		}
	}
}

var reference = regexp.MustCompile(`&(?:(amp|lt|gt|quot|apos)|#([0-9]{1,7})|#x([0-9a-fA-F]{1,7}));`)

// meant is what P1.2 says of Unescape, worked out in another way.
func meant(s string) (string, bool) {
	if !utf8.ValidString(s) || len(reference.FindAllString(s, -1)) != strings.Count(s, "&") {
		return "", false
	}
	for _, r := range s {
		if !name.Char(r) {
			return "", false
		}
	}
	ok := true
	text := reference.ReplaceAllStringFunc(s, func(whole string) string {
		part := reference.FindStringSubmatch(whole)
		if part[1] != "" {
			return map[string]string{"amp": "&", "lt": "<", "gt": ">", "quot": "\"", "apos": "'"}[part[1]]
		}
		digits, base := part[2], 10
		if digits == "" {
			digits, base = part[3], 16
		}
		n, _ := strconv.ParseInt(digits, base, 64)
		ok = ok && name.Char(rune(n))
		return string(rune(n))
	})
	if !ok {
		return "", false
	}
	return text, true
}

func checkMeant(t *testing.T, s string) {
	want, ok := meant(s)
	if got, is := name.Unescape(s); got != want || is != ok {
		t.Fatalf("Unescape(%q) is %q, %v; it must be %q, %v", s, got, is, want, ok)
	}
}

// P1.2: all texts of up to six of these parts.
func TestUnescapeOfAllShortTexts(t *testing.T) {
	parts := []string{"&", "#", "x", ";", "4", "a", "lt", "\x80"}
	var walk func(s string, n int)
	walk = func(s string, n int) {
		checkMeant(t, s)
		if n == 0 {
			return
		}
		for _, p := range parts {
			walk(s+p, n-1)
		}
	}
	walk("", 6)
}

func checkBack(t *testing.T, s string) {
	for _, attr := range []bool{false, true} {
		if got, ok := name.Unescape(name.Escape(s, attr)); !ok || got != s {
			t.Fatalf("of %q, %v, %q, %v is had again", s, attr, got, ok)
		}
	}
}

// P1.3: of every sign, and of all pairs of those that are written otherwise.
func TestUnescapeOfEscape(t *testing.T) {
	var all strings.Builder
	for r := rune(0); r <= 0x10ffff; r++ {
		if name.Char(r) {
			checkBack(t, string(r))
			all.WriteRune(r)
		}
	}
	checkBack(t, all.String())
	texts := []string{"", "&", "<", ">", "\"", "'", "\t", "\n", "\r", ";", "#", "#9;", "#x9;", "amp;", "lt", "\ufffd", "\U0010ffff"}
	for _, a := range texts {
		for _, b := range texts {
			for _, c := range texts {
				checkBack(t, a+b+c)
			}
		}
	}
}

// P1.3 speaks of signs alone: what is none is refused behind Escape, too.
func TestUnescapeOfEscapeOfNoSigns(t *testing.T) {
	for _, s := range []string{"\xff", "a\x00b", "\ufffe", "\xed\xa0\x80"} {
		for _, attr := range []bool{false, true} {
			if got, ok := name.Unescape(name.Escape(s, attr)); ok || got != "" {
				t.Errorf("of %q, %v, %q is had again", s, attr, got)
			}
		}
	}
}

// W1: a text of any length is answered, and in a time that grows as it does.
func TestLongTexts(t *testing.T) {
	const n = 1 << 22
	checkBack(t, strings.Repeat("&<a\u00e9\"", n/4))
	for _, s := range []string{strings.Repeat("&", n), strings.Repeat("&", n) + ";", "&#" + strings.Repeat("0", n) + ";", strings.Repeat("a", n) + "\xff"} {
		if got, ok := name.Unescape(s); ok || got != "" {
			t.Errorf("Unescape(%.20q..) is %.20q, %v", s, got, ok)
		}
	}
}

func FuzzEscapes(f *testing.F) {
	for _, s := range []string{"", "a&#x41;&lt;", "&#1114111;&#xD7FF;", "&amp;\xff", "\"\t\r\n'&"} {
		f.Add(s)
	}
	f.Fuzz(func(t *testing.T, s string) {
		checkMeant(t, s)
		// Another sign in its place: without one, wrong bytes round it might come together to a sign.
		if _, signs := meant(strings.ReplaceAll(s, "&", "x")); signs {
			checkBack(t, s)
		}
	})
}
