package impl

import (
	"strings"
	"unicode/utf8"
)

// Sets of characters, see chapter 3.
const (
	SetNone   = 0
	SetAscii  = 1
	SetLatin1 = 2
	SetLatin9 = 3
	SetUtf8   = 4
	SetUtf16  = 5
)

// Points are characters, if they could be taken.
type Points struct {
	Good   bool
	At     int64
	Points []int64
}

// Limits of words of headers, see chapter 3.
const (
	maxWordPoints = 2000
	maxWordBytes  = 75
	maxWordData   = 45
)

const (
	maxPoint     = 1114111
	unknownPoint = 65533
)

// Halves of a point that is too great for two bytes.
const (
	firstHigh   = 55296
	firstLow    = 56320
	lastLow     = 57343
	firstPaired = 65536
)

// charset takes points from bytes and puts them there.
type charset interface {
	// take is the first point of data, which is not empty, and how many bytes it has: 0 if there is none.
	take(data string) (point int64, size int)
	// put writes a point behind out: nothing if it has no form.
	put(out []byte, point int64) []byte
}

// The first name of a set is the one that is told.
var charsetNames = [...]struct {
	name string
	set  int64
}{
	{"us-ascii", SetAscii},
	{"ascii", SetAscii},
	{"iso-8859-1", SetLatin1},
	{"latin1", SetLatin1},
	{"iso-8859-15", SetLatin9},
	{"latin9", SetLatin9},
	{"utf-8", SetUtf8},
	{"utf8", SetUtf8},
	{"utf-16be", SetUtf16},
}

// lowered has A-Z as a-z and leaves all other bytes alone, unlike the library's, which knows more letters.
func lowered(text string) string {
	out := []byte(text)
	for at, b := range out {
		if 'A' <= b && b <= 'Z' {
			out[at] = b - 'A' + 'a'
		}
	}
	return string(out)
}

func isPoint(n int64) bool {
	return 0 <= n && n <= maxPoint && !(firstHigh <= n && n <= lastLow)
}

// CharsetOf is the number of a set, see chapter 3.
func CharsetOf(name string) int64 {
	if tooLong(name) {
		return SetNone
	}
	name = lowered(name)
	for _, row := range charsetNames {
		if row.name == name {
			return row.set
		}
	}
	return SetNone
}

// CharsetName is the name of a set, see chapter 3.
func CharsetName(set int64) string {
	for _, row := range charsetNames {
		if row.set == set {
			return row.name
		}
	}
	return ""
}

// charsOf is nil for a number that is no set's.
func charsOf(set int64) charset {
	switch set {
	case SetAscii:
		return byteSet{top: 127}
	case SetLatin1:
		return byteSet{top: 255}
	case SetLatin9:
		return newLatin9()
	case SetUtf8:
		return utf8Set{}
	case SetUtf16:
		return utf16Set{}
	}
	return nil
}

// byteSet has the points up to top, each as the byte of its number.
type byteSet struct{ top int64 }

func (s byteSet) take(data string) (int64, int) {
	if point := int64(data[0]); point <= s.top {
		return point, 1
	}
	return 0, 0
}

func (s byteSet) put(out []byte, point int64) []byte {
	if point > s.top {
		return out
	}
	return append(out, byte(point))
}

// latin9 has the bytes that are not the points of their numbers, from both sides.
type latin9 struct {
	points map[byte]int64
	bytes  map[int64]byte
}

func newLatin9() latin9 {
	s := latin9{
		points: map[byte]int64{164: 8364, 166: 352, 168: 353, 180: 381, 184: 382, 188: 338, 189: 339, 190: 376},
		bytes:  map[int64]byte{},
	}
	for b, point := range s.points {
		s.bytes[point] = b
	}
	return s
}

func (s latin9) take(data string) (int64, int) {
	if point, other := s.points[data[0]]; other {
		return point, 1
	}
	return int64(data[0]), 1
}

func (s latin9) put(out []byte, point int64) []byte {
	if b, other := s.bytes[point]; other {
		return append(out, b)
	}
	if point > 255 {
		return out
	}
	if _, other := s.points[byte(point)]; other {
		return out
	}
	return append(out, byte(point))
}

type utf8Set struct{}

func (utf8Set) take(data string) (int64, int) {
	r, size := utf8.DecodeRuneInString(data)
	// An ill byte is told as a rune that may also stand in the text, but in three bytes then.
	if r == utf8.RuneError && size == 1 {
		return 0, 0
	}
	return int64(r), size
}

func (utf8Set) put(out []byte, point int64) []byte {
	return utf8.AppendRune(out, rune(point))
}

type utf16Set struct{}

func (utf16Set) take(data string) (int64, int) {
	high, whole := pairAt(data, 0)
	if !whole {
		return 0, 0
	}
	if isPoint(high) {
		return high, 2
	}
	low, whole := pairAt(data, 2)
	if !whole || high >= firstLow || low < firstLow || low > lastLow {
		return 0, 0
	}
	return firstPaired + (high-firstHigh)<<10 + (low - firstLow), 4
}

func (utf16Set) put(out []byte, point int64) []byte {
	if point < firstPaired {
		return appendPair(out, point)
	}
	point -= firstPaired
	return appendPair(appendPair(out, firstHigh+point>>10), firstLow+point&1023)
}

// pairAt is the number that two bytes make.
func pairAt(data string, at int) (number int64, whole bool) {
	if len(data)-at < 2 {
		return 0, false
	}
	return int64(data[at])<<8 | int64(data[at+1]), true
}

func appendPair(out []byte, number int64) []byte {
	return append(out, byte(number>>8), byte(number))
}

// Decode takes bytes as characters, see chapter 3.
func Decode(set int64, data string) Points {
	chars := charsOf(set)
	if chars == nil || tooLong(data) {
		return Points{}
	}
	var points []int64
	for at := 0; at < len(data); {
		point, size := chars.take(data[at:])
		if size == 0 {
			return Points{At: int64(at)}
		}
		points = append(points, point)
		at += size
	}
	return Points{Good: true, Points: points}
}

// Encode writes characters as bytes, see chapter 3.
func Encode(set int64, points []int64) Bytes {
	chars := charsOf(set)
	if chars == nil || len(points) > MaxText {
		return Bytes{}
	}
	var out []byte
	for _, point := range points {
		if !isPoint(point) {
			return Bytes{}
		}
		size := len(out)
		out = chars.put(out, point)
		if len(out) == size {
			return Bytes{}
		}
	}
	return Bytes{Good: true, Data: string(out)}
}

// ReadWords takes a header's text as characters, see chapter 3.
func ReadWords(value string) []int64 {
	if tooLong(value) {
		return nil
	}
	var out []int64
	behindWord := false
	for value != "" {
		var gap, text string
		gap, value = cutGap(value)
		text, value = cutText(value)
		points, word := readWord(text)
		// The gap between two words is there for the line's sake alone.
		if !word || !behindWord {
			out = appendBytes(out, gap)
		}
		if word {
			out = append(out, points...)
		} else {
			out = appendBytes(out, text)
		}
		behindWord = word
	}
	return out
}

func cutGap(value string) (gap, rest string) {
	rest = strings.TrimLeft(value, blanks)
	return value[:len(value)-len(rest)], rest
}

func cutText(value string) (text, rest string) {
	at := strings.IndexAny(value, blanks)
	if at < 0 {
		return value, ""
	}
	return value[:at], value[at:]
}

// appendBytes writes the points of bytes that stand in no word.
func appendBytes(out []int64, text string) []int64 {
	for at := range len(text) {
		if text[at] < 128 {
			out = append(out, int64(text[at]))
		} else {
			out = append(out, unknownPoint)
		}
	}
	return out
}

// readWord takes a text that is a word from its beginning to its end.
func readWord(text string) (points []int64, word bool) {
	inner, begun := strings.CutPrefix(text, "=?")
	inner, ended := strings.CutSuffix(inner, "?=")
	if !begun || !ended || len(text) > maxWordBytes {
		return nil, false
	}
	parts := strings.Split(inner, "?")
	if len(parts) != 3 {
		return nil, false
	}
	data := wordData(parts[1], parts[2])
	if !data.Good {
		return nil, false
	}
	taken := Decode(CharsetOf(parts[0]), data.Data)
	return taken.Points, taken.Good
}

// wordData takes a word's text by the letter that tells its coding.
func wordData(letter string, text string) Bytes {
	switch letter {
	case "B", "b":
		return UnBase64(text)
	case "Q", "q":
		data, good := quotedBytes(strings.ReplaceAll(text, "_", " "))
		return Bytes{Good: good, Data: string(data)}
	}
	return Bytes{}
}

// WriteWords writes characters as a header's text, see chapter 3.
func WriteWords(points []int64) string {
	if len(points) > maxWordPoints {
		return ""
	}
	text := Encode(SetUtf8, points)
	if !text.Good || standsForItself(text.Data) {
		return text.Data
	}
	var out []byte
	from := 0
	for at, r := range text.Data {
		if at+utf8.RuneLen(r)-from > maxWordData {
			out = append(appendWord(out, text.Data[from:at]), ' ')
			from = at
		}
	}
	return string(appendWord(out, text.Data[from:]))
}

func standsForItself(text string) bool {
	for at := range len(text) {
		if text[at] < 32 || text[at] > 126 {
			return false
		}
	}
	return !strings.Contains(text, "=?")
}

func appendWord(out []byte, data string) []byte {
	out = append(out, "=?utf-8?B?"...)
	out = appendBase64(out, data)
	return append(out, "?="...)
}
