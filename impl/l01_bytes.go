package impl

import (
	"strconv"
	"strings"
)

const MaxBytes = 512

const (
	max8  = 1<<8 - 1
	max16 = 1<<16 - 1
	max32 = 1<<32 - 1
)

// dottedParts is how many numbers a dotted address has: one for each of its bytes.
const dottedParts = 4

const (
	_ = 8 * iota
	shift8
	shift16
	shift24
)

func Put16(b []byte, n int) []byte {
	if !upTo(n, max16) {
		return copyBytes(b)
	}
	return append(copyBytes(b), byte(n>>shift8), byte(n))
}

func Get16(b []byte, at int) (int, int) {
	if !allThere(b, at, 2) {
		return 0, -1
	}
	return int(b[at])<<shift8 | int(b[at+1]), at + 2
}

func Put32(b []byte, n int) []byte {
	if !upTo(n, max32) {
		return copyBytes(b)
	}
	return append(copyBytes(b), byte(n>>shift24), byte(n>>shift16), byte(n>>shift8), byte(n))
}

func Get32(b []byte, at int) (int, int) {
	if !allThere(b, at, 4) {
		return 0, -1
	}
	high := int(b[at])<<shift24 | int(b[at+1])<<shift16
	low := int(b[at+2])<<shift8 | int(b[at+3])
	return high | low, at + 4
}

func Take(b []byte, at int, n int) ([]byte, int) {
	if !allThere(b, at, n) {
		return nil, -1
	}
	return copyBytes(b[at : at+n]), at + n
}

// Lower may go by runes over bytes that are no text: a byte below 128 is always
// a rune of its own, at its own place, and every other byte stays as it was copied.
func Lower(b []byte) []byte {
	out := copyBytes(b)
	for i, r := range string(b) {
		if r >= 'A' && r <= 'Z' {
			out[i] = byte(r - 'A' + 'a')
		}
	}
	return out
}

func Dotted(n int) []byte {
	if !upTo(n, max32) {
		return nil
	}
	var out []byte
	for i, part := range Put32(nil, n) {
		if i > 0 {
			out = append(out, '.')
		}
		out = strconv.AppendInt(out, int64(part), 10)
	}
	return out
}

func DottedRead(b []byte) (int, bool) {
	parts := strings.Split(string(b), ".")
	if len(parts) != dottedParts {
		return 0, false
	}
	n := 0
	for _, text := range parts {
		part, ok := readPart(text)
		if !ok {
			return 0, false
		}
		n = n<<shift8 | part
	}
	return n, true
}

// readPart takes only the one text that Dotted would write for a byte, so a 0
// ahead is refused; it stops at the limit, so a long text can't wrap the number round.
func readPart(text string) (int, bool) {
	if text == "" || text[0] == '0' && text != "0" {
		return 0, false
	}
	n := 0
	for _, r := range text {
		if r < '0' || r > '9' {
			return 0, false
		}
		n = 10*n + int(r-'0')
		if n > max8 {
			return 0, false
		}
	}
	return n, true
}

// allThere subtracts instead of adding, because at + n could wrap round.
func allThere(b []byte, at int, n int) bool {
	return at >= 0 && n >= 0 && n <= len(b)-at
}

// copyBytes gives memory of its own, so that what is put behind it never lands
// in the spare room of the argument.
func copyBytes(b []byte) []byte {
	return append([]byte(nil), b...)
}

// copyAll is told how one is copied, since what lists hold may have lists, too.
func copyAll[T any](l []T, one func(T) T) []T {
	var out []T
	for _, x := range l {
		out = append(out, one(x))
	}
	return out
}

// appendCounted writes behind b in b's own room, so b must be the caller's alone.
func appendCounted(b []byte, text []byte) []byte {
	return append(append(b, byte(len(text))), text...)
}

func countedGet(b []byte, at int) ([]byte, int) {
	size, behind := Take(b, at, 1)
	if behind < 0 {
		return nil, -1
	}
	return Take(b, behind, int(size[0]))
}

func upTo(n int, most int) bool {
	return n >= 0 && n <= most
}
