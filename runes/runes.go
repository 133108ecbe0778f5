// Package runes is layer 1: code points, and texts as strict UTF-8 (see shared/doc/01-runes.md).
package runes

import (
	"strings"
	"unicode/utf8"

	"rubric/api"
)

const (
	greatest       = 0x10ffff
	firstSurrogate = 0xd800
	lastSurrogate  = 0xdfff
)

// A range over a string tells utf8.RuneError of a byte that begins no rune, and of that rune itself; only the latter stands there as this text.
const replacement = "\ufffd"

// May answers whether r may be a rune.
func May(r int32) bool {
	surrogate := firstSurrogate <= r && r <= lastSurrogate
	return 0 <= r && r <= greatest && !surrogate
}

// Bytes answers the UTF-8 of all runes of l, or ErrMalformed, if one of them may not be.
func Bytes(l []int32) ([]byte, api.Errno) {
	b := make([]byte, 0, len(l))
	for _, r := range l {
		if !May(r) {
			return nil, api.ErrMalformed
		}
		b = utf8.AppendRune(b, r)
	}
	return b, api.OK
}

// Read answers the runes of which b is just the UTF-8, or ErrMalformed, if there are none such.
func Read(b []byte) ([]int32, api.Errno) {
	text := string(b)
	l := make([]int32, 0, utf8.RuneCountInString(text))
	for at, r := range text {
		if r == utf8.RuneError && !strings.HasPrefix(text[at:], replacement) {
			return nil, api.ErrMalformed
		}
		l = append(l, r)
	}
	return l, api.OK
}

// Newlines answers how many newlines there are among the runes of l.
func Newlines(l []int32) int {
	n := 0
	for _, r := range l {
		if r == api.Newline {
			n++
		}
	}
	return n
}
