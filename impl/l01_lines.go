package impl

import (
	"bytes"
	"strconv"
	"strings"
)

// Codes, see chapter 1.
const (
	OK        = 0
	ErrForm   = 1
	ErrSize   = 2
	ErrSyntax = 3
	ErrCount  = 4
	ErrType   = 5
	ErrNone   = 6
	ErrState  = 7
	ErrFull   = 8
	ErrLoop   = 9
	ErrRight  = 10
	ErrStale  = 11
)

// Limits of all chapters, see chapter 1.
const (
	MaxText = 100000
	MaxTime = 253402300799
	MaxOps  = 2000
)

// Cut is a text up to an end, and what is behind it.
type Cut struct {
	Done bool
	Text string
	Rest string
}

// Bytes is what was taken, if it could be.
type Bytes struct {
	Good bool
	Data string
}

const lineEnd = "\r\n"
const blanks = " \t"

// The line that ends a stuffed text.
const lastLine = "." + lineEnd

// A line of base 64 or of quoted bytes has at most so many bytes.
const maxCodedLine = 76

// So many bytes fill a line of base 64.
const base64LineData = maxCodedLine / 4 * 3

const hexDigits = "0123456789ABCDEF"

var base64Digits = [64]byte{
	'A', 'B', 'C', 'D', 'E', 'F', 'G', 'H', 'I', 'J', 'K', 'L', 'M', 'N', 'O', 'P',
	'Q', 'R', 'S', 'T', 'U', 'V', 'W', 'X', 'Y', 'Z', 'a', 'b', 'c', 'd', 'e', 'f',
	'g', 'h', 'i', 'j', 'k', 'l', 'm', 'n', 'o', 'p', 'q', 'r', 's', 't', 'u', 'v',
	'w', 'x', 'y', 'z', '0', '1', '2', '3', '4', '5', '6', '7', '8', '9', '+', '/',
}

func tooLong(text string) bool { return len(text) > MaxText }

func isBlank(b byte) bool { return b == ' ' || b == '\t' }

// lineEndAt tells whether a line end stands at a place of a text, which may be its end.
func lineEndAt(text string, at int) bool { return strings.HasPrefix(text[at:], lineEnd) }

// Lines cuts a text at its line ends, see chapter 2.
func Lines(text string) []string {
	if tooLong(text) {
		return nil
	}
	var lines []string
	for text != "" {
		line, rest, _ := strings.Cut(text, lineEnd)
		// A copy, since an answer shares no memory with an argument.
		lines = append(lines, strings.Clone(line))
		text = rest
	}
	return lines
}

// Normal makes each end of a line a line end, see chapter 2.
func Normal(text string) string {
	if tooLong(text) {
		return ""
	}
	var out []byte
	ended := true
	for at := 0; at < len(text); at++ {
		ended = text[at] == '\r' || text[at] == '\n'
		if !ended {
			out = append(out, text[at])
			continue
		}
		out = append(out, lineEnd...)
		if lineEndAt(text, at) {
			at++
		}
	}
	if !ended {
		out = append(out, lineEnd...)
	}
	return string(out)
}

// Stuff ends a text by a point, see chapter 2.
func Stuff(text string) string {
	if tooLong(text) {
		return ""
	}
	var out []byte
	for _, line := range Lines(text) {
		if strings.HasPrefix(line, ".") {
			out = append(out, '.')
		}
		out = append(out, line...)
		out = append(out, lineEnd...)
	}
	out = append(out, lastLine...)
	return string(out)
}

// Unstuff takes a text up to its point, see chapter 2.
func Unstuff(stream string) Cut {
	size := stuffedSize(stream)
	if tooLong(stream) || size == 0 {
		return Cut{}
	}
	var out []byte
	for _, line := range Lines(stream[:size-len(lastLine)]) {
		out = append(out, strings.TrimPrefix(line, ".")...)
		out = append(out, lineEnd...)
	}
	return Cut{Done: true, Text: string(out), Rest: strings.Clone(stream[size:])}
}

// stuffedSize is how many bytes the text has that a stream begins with, up to its end, or 0 if that has not come.
func stuffedSize(stream string) int {
	if strings.HasPrefix(stream, lastLine) {
		return len(lastLine)
	}
	return sizeThrough(stream, lineEnd+lastLine)
}

// sizeThrough is how many bytes of a text stand up to the end of the first such piece in it, or 0 if there is none.
func sizeThrough(text, piece string) int {
	at := strings.Index(text, piece)
	if at < 0 {
		return 0
	}
	return at + len(piece)
}

// Base64 writes bytes as digits of six bits, see chapter 2.
func Base64(data string) string {
	if tooLong(data) {
		return ""
	}
	var out []byte
	for data != "" {
		size := min(base64LineData, len(data))
		out = appendBase64(out, data[:size])
		out = append(out, lineEnd...)
		data = data[size:]
	}
	return string(out)
}

// appendBase64 writes data as digits without line ends.
func appendBase64(out []byte, data string) []byte {
	for ; len(data) >= 3; data = data[3:] {
		out = appendGroup(out, data[0], data[1], data[2])
	}
	switch len(data) {
	case 1:
		out = appendGroup(out, data[0], 0, 0)
		copy(out[len(out)-2:], "==")
	case 2:
		out = appendGroup(out, data[0], data[1], 0)
		copy(out[len(out)-1:], "=")
	}
	return out
}

func appendGroup(out []byte, a, b, c byte) []byte {
	return append(out, base64Digits[a>>2], base64Digits[a<<4&63|b>>4], base64Digits[b<<2&63|c>>6], base64Digits[c&63])
}

// UnBase64 takes them, see chapter 2.
func UnBase64(text string) Bytes {
	if tooLong(text) {
		return Bytes{}
	}
	digits := withoutSpace(text)
	if len(digits)%4 != 0 {
		return Bytes{}
	}
	var out []byte
	for at := 0; at < len(digits); at += 4 {
		group := digits[at : at+4]
		if at+4 == len(digits) {
			group = bytes.TrimRight(group, "=")
		}
		data, good := groupData(group)
		if !good {
			return Bytes{}
		}
		out = append(out, data[:len(group)-1]...)
	}
	return Bytes{Good: true, Data: string(out)}
}

func withoutSpace(text string) []byte {
	var out []byte
	for at := range len(text) {
		if b := text[at]; !isBlank(b) && b != '\r' && b != '\n' {
			out = append(out, b)
		}
	}
	return out
}

// groupData takes two to four digits. Of the three bytes, those that the digits do not reach must be 0: a digit's
// spare bits would be lost otherwise.
func groupData(digits []byte) (data [3]byte, good bool) {
	if len(digits) < 2 {
		return data, false
	}
	bits := uint32(0)
	for _, d := range digits {
		six, digit := sixBits(d)
		if !digit {
			return data, false
		}
		bits = bits<<6 | six
	}
	bits <<= 6 * (4 - len(digits))
	data = [3]byte{byte(bits >> 16), byte(bits >> 8), byte(bits)}
	for _, spare := range data[len(digits)-1:] {
		if spare != 0 {
			return data, false
		}
	}
	return data, true
}

func sixBits(digit byte) (uint32, bool) {
	switch {
	case 'A' <= digit && digit <= 'Z':
		return uint32(digit - 'A'), true
	case 'a' <= digit && digit <= 'z':
		return uint32(digit-'a') + 26, true
	case '0' <= digit && digit <= '9':
		return uint32(digit-'0') + 52, true
	case digit == '+':
		return 62, true
	case digit == '/':
		return 63, true
	}
	return 0, false
}

// Quoted writes bytes that can mostly be read, see chapter 2.
func Quoted(data string) string {
	if tooLong(data) {
		return ""
	}
	var out, unit []byte
	used := 0
	for at := 0; at < len(data); at++ {
		if lineEndAt(data, at) {
			out = append(out, lineEnd...)
			used = 0
			at++
			continue
		}
		last := at+1 == len(data) || lineEndAt(data, at+1)
		unit = appendQuoted(unit[:0], data[at], last)
		if !fitsQuoted(used+len(unit), last) {
			out = append(out, '=')
			out = append(out, lineEnd...)
			used = 0
		}
		out = append(out, unit...)
		used += len(unit)
	}
	return string(out)
}

// fitsQuoted tells whether a line may go up to a length: all but its last byte leave room for the sign of a soft break.
func fitsQuoted(length int, last bool) bool {
	return length < maxCodedLine || last && length == maxCodedLine
}

// appendQuoted writes one byte, which is perhaps the last of its line.
func appendQuoted(out []byte, b byte, last bool) []byte {
	switch {
	case isBlank(b):
		if !last {
			return append(out, b)
		}
		// It could not be told from blanks that were put there on the way.
		fallthrough
	case b < 33 || b > 126 || b == '=':
		return append(out, '=', hexDigits[b>>4], hexDigits[b&15])
	default:
		return append(out, b)
	}
}

// UnQuoted takes them, see chapter 2.
func UnQuoted(text string) Bytes {
	if tooLong(text) {
		return Bytes{}
	}
	var out []byte
	for ended := true; ended; {
		var line string
		line, text, ended = strings.Cut(text, lineEnd)
		line, soft := strings.CutSuffix(strings.TrimRight(line, blanks), "=")
		data, good := quotedBytes(line)
		if !good {
			return Bytes{}
		}
		out = append(out, data...)
		if ended && !soft {
			out = append(out, lineEnd...)
		}
	}
	return Bytes{Good: true, Data: string(out)}
}

// quotedBytes takes a text without breaks: `=` and two digits of base 16 as that byte, any other byte as itself.
func quotedBytes(text string) (data []byte, good bool) {
	for at := 0; at < len(text); at++ {
		if text[at] != '=' {
			data = append(data, text[at])
			continue
		}
		b, coded := hexByte(text[at+1:])
		if !coded {
			return nil, false
		}
		data = append(data, b)
		at += 2
	}
	return data, true
}

// hexByte is the byte that the two digits of base 16 at a text's beginning make, if they are there.
func hexByte(text string) (b byte, coded bool) {
	if len(text) < 2 {
		return 0, false
	}
	number, err := strconv.ParseUint(text[:2], 16, 8)
	return byte(number), err == nil
}
