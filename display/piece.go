package display

import (
	"iter"
	"strconv"
	"strings"
)

const (
	maxWidthDigits = 3  // of a minimum width
	noWidth        = -1 // the width of a conversion without a minimum width
)

// piece is a part of a format string: plain text or a conversion.
type piece struct {
	text   string // what plain text yields; two percent signs are plain text too
	letter byte   // of a conversion, in lower case and with h for x; 0 for plain text
	width  int    // the minimum width of a conversion, or noWidth
}

// usesArgument reports whether a piece uses an argument.
func (p piece) usesArgument() bool { return p.letter != 0 && p.letter != 't' }

// pieces yields the pieces of a format string, with true. A percent sign that does not begin a conversion ends them, with false.
func pieces(f string) iter.Seq2[piece, bool] {
	return func(yield func(p piece, ok bool) bool) {
		for rest := f; rest != ""; {
			text, after, found := strings.Cut(rest, "%")
			if text != "" && !yield(piece{text: text}, true) || !found {
				return
			}
			p, length := conversion(after)
			if !yield(p, length > 0) || length == 0 {
				return
			}
			rest = after[length:]
		}
	}
}

// conversion reads the conversion whose percent sign s follows; length is that of the part of s that belongs to it, or 0 if there is none.
func conversion(s string) (p piece, length int) {
	if strings.HasPrefix(s, "%") {
		return piece{text: "%"}, 1
	}
	digits := 0
	for digits < min(maxWidthDigits, len(s)) && '0' <= s[digits] && s[digits] <= '9' {
		digits++
	}
	if digits == len(s) {
		return piece{}, 0
	}
	letter, is := letterOf(s[digits])
	if !is {
		return piece{}, 0
	}
	width := noWidth
	if digits > 0 {
		width, _ = strconv.Atoi(s[:digits]) // which accepts up to three digits
	}
	return piece{letter: letter, width: width}, digits + 1
}

// letterOf returns the letter of a conversion in lower case, with h for x, and false for any other character.
func letterOf(c byte) (byte, bool) {
	if 'A' <= c && c <= 'Z' {
		c += 'a' - 'A'
	}
	if c == 'x' {
		c = 'h'
	}
	return c, strings.IndexByte("bodhcst", c) >= 0
}
