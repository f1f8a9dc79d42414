// Package name is signs and names: see DOC.md, chapter 1.
package name

import (
	"strings"
	"unicode/utf8"

	"sentry/api"
)

// maxDigits is how many digits a reference by number has at most.
const maxDigits = 7

// Is tells whether a text is a name.
func Is(s string) bool {
	if len(s) < 1 || len(s) > api.MaxName || !begins(s[0]) {
		return false
	}
	for i := 1; i < len(s); i++ {
		if !goesOn(s[i]) {
			return false
		}
	}
	return true
}

// IsQual tells whether a text is a name, with a prefix or without.
func IsQual(s string) bool {
	prefix, local, found := strings.Cut(s, ":")
	if !found {
		return Is(s)
	}
	return Is(prefix) && Is(local)
}

// Split is a name's prefix, and the name.
func Split(s string) (prefix, local string) {
	prefix, local, found := strings.Cut(s, ":")
	if !found {
		return "", s
	}
	return prefix, local
}

// Escape is a text as it is written.
func Escape(s string, attr bool) string {
	var b strings.Builder
	// Byte by byte, so that bytes that are no valid UTF-8 stay what they are.
	for i := 0; i < len(s); i++ {
		if w := written(s[i], attr); w != "" {
			b.WriteString(w)
		} else {
			b.WriteByte(s[i])
		}
	}
	return b.String()
}

// Unescape is what is written, as a text.
func Unescape(s string) (string, bool) {
	var b strings.Builder
	for i := 0; i < len(s); {
		r, size := first(s[i:])
		if size == 0 {
			return "", false
		}
		b.WriteRune(r)
		i += size
	}
	return b.String(), true
}

// Char tells whether a rune is a sign.
func Char(r rune) bool {
	switch {
	case r == 0x9, r == 0xa, r == 0xd:
		return true
	case 0x20 <= r && r <= 0xd7ff:
		return true
	case 0xe000 <= r && r <= 0xfffd:
		return true
	case 0x10000 <= r && r <= 0x10ffff:
		return true
	}
	return false
}

// begins tells whether a name may begin with c.
func begins(c byte) bool {
	return 'a' <= c && c <= 'z' || 'A' <= c && c <= 'Z' || c == '_'
}

// goesOn tells whether c may stand in a name behind its first byte.
func goesOn(c byte) bool {
	return begins(c) || '0' <= c && c <= '9' || c == '-' || c == '.'
}

// written is the reference that is written for c; nothing, if c is written as itself.
func written(c byte, attr bool) string {
	switch c {
	case '&':
		return "&amp;"
	case '<':
		return "&lt;"
	case '>':
		return "&gt;"
	}
	if !attr {
		return ""
	}
	switch c {
	case '"':
		return "&quot;"
	case '\t':
		return "&#9;"
	case '\n':
		return "&#10;"
	case '\r':
		return "&#13;"
	}
	return ""
}

// first is the sign that s begins with, by itself or by a reference, and how
// many bytes it takes there; no bytes, if s begins with none.
func first(s string) (rune, int) {
	r, size := utf8.DecodeRuneInString(s)
	if r == '&' {
		return reference(s)
	}
	// A wrong byte is told from a written fffd by its size alone.
	if r == utf8.RuneError && size <= 1 || !Char(r) {
		return 0, 0
	}
	return r, size
}

// reference is the sign of the reference that s begins with, and how many
// bytes the reference takes; no bytes, if s begins with none.
func reference(s string) (rune, int) {
	end := strings.IndexByte(s, ';')
	if end < 0 {
		return 0, 0
	}
	r, ok := referred(s[1:end])
	if !ok {
		return 0, 0
	}
	return r, end + 1
}

// referred is the sign that stands for what is between `&` and `;`.
func referred(s string) (rune, bool) {
	switch s {
	case "amp":
		return '&', true
	case "lt":
		return '<', true
	case "gt":
		return '>', true
	case "quot":
		return '"', true
	case "apos":
		return '\'', true
	}
	if digits, found := strings.CutPrefix(s, "#x"); found {
		return numbered(digits, 16)
	}
	if digits, found := strings.CutPrefix(s, "#"); found {
		return numbered(digits, 10)
	}
	return 0, false
}

// numbered is the sign whose number has these digits.
func numbered(digits string, base rune) (rune, bool) {
	if len(digits) < 1 || len(digits) > maxDigits {
		return 0, false
	}
	// 7 digits of hexadecimal have 28 bits: the number fits in a rune.
	var r rune
	for i := 0; i < len(digits); i++ {
		d := digit(digits[i])
		if d < 0 || d >= base {
			return 0, false
		}
		r = r*base + d
	}
	if !Char(r) {
		return 0, false
	}
	return r, true
}

// digit is the value of a digit of hexadecimal; -1, if c is none.
func digit(c byte) rune {
	switch {
	case '0' <= c && c <= '9':
		return rune(c - '0')
	case 'a' <= c && c <= 'f':
		return rune(c-'a') + 10
	case 'A' <= c && c <= 'F':
		return rune(c-'A') + 10
	}
	return -1
}
