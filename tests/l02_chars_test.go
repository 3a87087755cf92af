package tests

import (
	"encoding/base64"
	"math"
	"slices"
	"strings"
	"testing"
	"unicode/utf16"
	"unicode/utf8"

	"loop.example/g00013/impl"
)

var allSets = []int64{impl.SetAscii, impl.SetLatin1, impl.SetLatin9, impl.SetUtf8, impl.SetUtf16}

// noPoints are numbers that stand for no character.
var noPoints = []int64{-1, math.MinInt64, 55296, 56319, 56320, 57343, 1114112, math.MaxInt64, 1 << 32, 1<<32 + 65, -65, -1 << 32}

// edgePoints stand where the forms of some set change.
var edgePoints = []int64{0, 9, 10, 13, 31, 32, 61, 63, 65, 126, 127, 128, 159, 160, 163, 164, 165, 166, 167, 168, 180, 184, 188, 189, 190, 191, 255, 256, 338, 339, 352, 353, 376, 381, 382, 2047, 2048, 8364, 55295, 57344, 65279, 65533, 65534, 65535, 65536, 66559, 66560, 131071, 1114111}

func TestCharsetNames(t *testing.T) {
	for _, c := range []struct {
		name string
		set  int64
	}{
		{"us-ascii", 1}, {"ascii", 1}, {"iso-8859-1", 2}, {"latin1", 2}, {"iso-8859-15", 3}, {"latin9", 3}, {"utf-8", 4}, {"utf8", 4}, {"utf-16be", 5},
		{"US-ASCII", 1}, {"Ascii", 1}, {"ISO-8859-1", 2}, {"Latin1", 2}, {"Iso-8859-15", 3}, {"LATIN9", 3}, {"UTF-8", 4}, {"uTF8", 4}, {"Utf-16BE", 5},
		{"", 0}, {" utf-8", 0}, {"utf-8 ", 0}, {"utf_8", 0}, {"utf-16", 0}, {"utf16be", 0}, {"utf-16le", 0}, {"iso-8859-2", 0}, {"latin-1", 0}, {"usascii", 0},
		// Letters that are great or small ones of others by the library's reckoning only.
		{"LAT\u0130N1", 0}, {"u\u017f-ascii", 0}, {"a\u017fcii", 0}, {"i\u017fo-8859-1", 0},
		// Bytes that differ from others by the bit that tells great letters from small ones.
		{"utf\x0d8", 0}, {"utf-\x18", 0}, {"iso\x0d8859\x0d1", 0},
		{strings.Repeat("a", maxText+1), 0},
	} {
		if got := impl.CharsetOf(c.name); got != c.set {
			t.Errorf("CharsetOf of %s: %d, want %d", short(c.name), got, c.set)
		}
	}
	names := []string{"", "us-ascii", "iso-8859-1", "iso-8859-15", "utf-8", "utf-16be", ""}
	for set, want := range names {
		wantText(t, "CharsetName", want, impl.CharsetName(int64(set)), want)
	}
	for _, set := range []int64{-1, 7, 1 << 32, math.MinInt64, math.MaxInt64} {
		wantText(t, "CharsetName", "no set", impl.CharsetName(set), "")
	}
}

func checkDecode(t *testing.T, set int64, data string, want impl.Points) {
	t.Helper()
	got := impl.Decode(set, data)
	if got.Good != want.Good || got.At != want.At || !slices.Equal(got.Points, want.Points) {
		t.Errorf("Decode of set %d, %s: %v %d %s, want %v %d %s", set, short(data), got.Good, got.At, few(got.Points), want.Good, want.At, few(want.Points))
	}
}

func TestDecodeByteSets(t *testing.T) {
	others := map[int]int64{164: 8364, 166: 352, 168: 353, 180: 381, 184: 382, 188: 338, 189: 339, 190: 376}
	for b := range 256 {
		data := string([]byte{'a', byte(b), 'c'})
		same := impl.Points{Good: true, Points: []int64{'a', int64(b), 'c'}}
		if b < 128 {
			checkDecode(t, impl.SetAscii, data, same)
		} else {
			checkDecode(t, impl.SetAscii, data, impl.Points{At: 1})
		}
		checkDecode(t, impl.SetLatin1, data, same)
		if other, is := others[b]; is {
			same.Points[1] = other
		}
		checkDecode(t, impl.SetLatin9, data, same)
	}
	checkDecode(t, impl.SetAscii, "\x80", impl.Points{})
	checkDecode(t, impl.SetAscii, "abc\xff\xff", impl.Points{At: 3})
}

func TestDecodeUtf8(t *testing.T) {
	for _, c := range []struct {
		data string
		want []int64
	}{
		{"\x00\x7f", []int64{0, 127}},
		{"\xc2\x80\xdf\xbf", []int64{128, 2047}},
		{"\xe0\xa0\x80\xe2\x82\xac\xed\x9f\xbf", []int64{2048, 8364, 55295}},
		{"\xee\x80\x80\xef\xbf\xbd\xef\xbf\xbf", []int64{57344, 65533, 65535}},
		{"\xf0\x90\x80\x80\xf4\x8f\xbf\xbf", []int64{65536, 1114111}},
		{"\xef\xbb\xbfa", []int64{65279, 'a'}},
	} {
		checkDecode(t, impl.SetUtf8, c.data, impl.Points{Good: true, Points: c.want})
	}
	for _, ill := range []string{
		"\x80", "\xbf", "\xc0\x80", "\xc1\xbf", "\xe0\x80\x80", "\xe0\x9f\xbf", "\xf0\x80\x80\x80", "\xf0\x8f\xbf\xbf",
		"\xed\xa0\x80", "\xed\xaf\xbf", "\xed\xb0\x80", "\xed\xbf\xbf", "\xed\xa0\x80\xed\xb0\x80",
		"\xf4\x90\x80\x80", "\xf5\x80\x80\x80", "\xf8\x88\x80\x80\x80", "\xfe", "\xff",
		"\xc3", "\xe2", "\xe2\x82", "\xf0", "\xf0\x90", "\xf0\x90\x80",
		"\xc3a", "\xe2\x82a", "\xe2a\x82", "\xf0\x90\x80a", "\xc3\xc3\xa9", "\xe2\xe2\x82\xac",
	} {
		checkDecode(t, impl.SetUtf8, ill, impl.Points{})
		checkDecode(t, impl.SetUtf8, "ab\xc3\xa9"+ill, impl.Points{At: 4})
		checkDecode(t, impl.SetUtf8, "\xef\xbf\xbd"+ill+"\xc3\xa9\xff", impl.Points{At: 3})
	}
}

// Every text of two bytes, and what begins longer forms with every byte behind it, held against the library.
func TestDecodeUtf8Bytes(t *testing.T) {
	for first := range 256 {
		for second := range 256 {
			head := string([]byte{byte(first), byte(second)})
			for _, data := range []string{head, head + "\x80", head + "\xbf\x80"} {
				if !utf8.ValidString(data) {
					if impl.Decode(impl.SetUtf8, data).Good {
						t.Errorf("Decode of %q is good", data)
					}
					continue
				}
				want := impl.Points{Good: true}
				for _, r := range data {
					want.Points = append(want.Points, int64(r))
				}
				checkDecode(t, impl.SetUtf8, data, want)
			}
		}
	}
}

func pair(units ...uint16) string {
	var out []byte
	for _, u := range units {
		out = append(out, byte(u>>8), byte(u))
	}
	return string(out)
}

func TestDecodeUtf16(t *testing.T) {
	for unit := range 65536 {
		data := pair('a', uint16(unit), 'b')
		if utf16.IsSurrogate(rune(unit)) {
			checkDecode(t, impl.SetUtf16, data, impl.Points{At: 2})
			continue
		}
		checkDecode(t, impl.SetUtf16, data, impl.Points{Good: true, Points: []int64{'a', int64(unit), 'b'}})
	}
	for _, c := range []struct {
		data string
		want impl.Points
	}{
		{pair(0xd800, 0xdc00), impl.Points{Good: true, Points: []int64{65536}}},
		{pair(0xd800, 0xdfff), impl.Points{Good: true, Points: []int64{66559}}},
		{pair(0xd801, 0xdc00), impl.Points{Good: true, Points: []int64{66560}}},
		{pair(0xdbff, 0xdfff), impl.Points{Good: true, Points: []int64{1114111}}},
		{pair(0xdbff, 0xdc00, 'a'), impl.Points{Good: true, Points: []int64{1113088, 'a'}}},
		{pair(0xfeff, 'a'), impl.Points{Good: true, Points: []int64{65279, 'a'}}},
		{pair(0xd800, 0xdbff), impl.Points{}},
		{pair(0xd800, 0xe000), impl.Points{}},
		{pair(0xdc00, 0xdc00), impl.Points{}},
		{pair(0xdc00, 0xd800), impl.Points{}},
		{pair(0xd800, 0xd800, 0xdc00), impl.Points{}},
		{pair(0xd800), impl.Points{}},
		{pair(0xd800) + "\xdc", impl.Points{}},
		{pair('a', 0xd800) + "\xdc", impl.Points{At: 2}},
		{pair('a', 0xd800, 0xdc00, 0xdfff), impl.Points{At: 6}},
		{"\x00", impl.Points{}},
		{pair('a') + "a", impl.Points{At: 2}},
		{pair(0xd800, 0xdc00) + "\x00", impl.Points{At: 4}},
	} {
		checkDecode(t, impl.SetUtf16, c.data, c.want)
	}
}

func TestDecodeLimits(t *testing.T) {
	most := strings.Repeat("\x00", maxText)
	for _, set := range allSets {
		checkDecode(t, set, "", impl.Points{Good: true})
		if got := impl.Decode(set, most); !got.Good || len(got.Points) == 0 {
			t.Errorf("Decode of set %d, the most: %v", set, got.Good)
		}
		checkDecode(t, set, most+"\x00\x00", impl.Points{})
	}
	for _, set := range []int64{impl.SetNone, -1, 6, 1<<32 + 1, math.MinInt64} {
		checkDecode(t, set, "", impl.Points{})
		checkDecode(t, set, "a", impl.Points{})
	}
	checkDecode(t, impl.SetAscii, strings.Repeat("a", maxText-1)+"\x80", impl.Points{At: maxText - 1})
}

func checkEncode(t *testing.T, set int64, points []int64, want impl.Bytes) {
	t.Helper()
	if got := impl.Encode(set, points); got != want {
		t.Errorf("Encode of set %d, %s: %v %s, want %v %s", set, few(points), got.Good, short(got.Data), want.Good, short(want.Data))
	}
}

func good(data string) impl.Bytes { return impl.Bytes{Good: true, Data: data} }

func TestEncodeByteSets(t *testing.T) {
	others := map[int64]byte{8364: 164, 352: 166, 353: 168, 381: 180, 382: 184, 338: 188, 339: 189, 376: 190}
	replaced := []int64{164, 166, 168, 180, 184, 188, 189, 190}
	for point := int64(0); point < 9000; point++ {
		same := good("a" + string([]byte{byte(point)}))
		for set, top := range map[int64]int64{impl.SetAscii: 127, impl.SetLatin1: 255} {
			want := same
			if point > top {
				want = impl.Bytes{}
			}
			checkEncode(t, set, []int64{'a', point}, want)
		}
		want := same
		if b, is := others[point]; is {
			want = good("a" + string([]byte{b}))
		} else if point > 255 || slices.Contains(replaced, point) {
			want = impl.Bytes{}
		}
		checkEncode(t, impl.SetLatin9, []int64{'a', point}, want)
	}
}

func TestEncodeUnicode(t *testing.T) {
	for point := int64(0); point <= 1114111; point++ {
		if point > 70000 && point < 1100000 {
			point += 97
		}
		r := rune(point)
		want8, want16 := impl.Bytes{}, impl.Bytes{}
		if utf8.ValidRune(r) {
			want8 = good(string(r))
			want16 = good(pair(utf16.Encode([]rune{r})...))
		}
		checkEncode(t, impl.SetUtf8, []int64{point}, want8)
		checkEncode(t, impl.SetUtf16, []int64{point}, want16)
	}
	checkEncode(t, impl.SetUtf16, []int64{'a', 65536, 8364}, good("\x00a\xd8\x00\xdc\x00\x20\xac"))
	checkEncode(t, impl.SetUtf8, []int64{'a', 65536, 8364}, good("a\xf0\x90\x80\x80\xe2\x82\xac"))
}

func TestEncodeRefuses(t *testing.T) {
	most := make([]int64, maxText+1)
	for _, set := range allSets {
		for _, n := range noPoints {
			checkEncode(t, set, []int64{n}, impl.Bytes{})
			checkEncode(t, set, []int64{'a', n, 'b'}, impl.Bytes{})
		}
		checkEncode(t, set, nil, good(""))
		checkEncode(t, set, most, impl.Bytes{})
		if got := impl.Encode(set, most[:maxText]); !got.Good || len(got.Data) < maxText {
			t.Errorf("Encode of set %d, the most: %v", set, got.Good)
		}
	}
	for _, set := range []int64{impl.SetNone, -1, 6, 1<<32 + 4, math.MaxInt64} {
		checkEncode(t, set, nil, impl.Bytes{})
		checkEncode(t, set, []int64{'a'}, impl.Bytes{})
	}
}

// somePoints are so many points, many of them from where forms change.
func (d *dice) somePoints(count int) []int64 {
	var points []int64
	for range count {
		switch d.below(4) {
		case 0:
			points = append(points, edgePoints[d.below(len(edgePoints))])
		case 1:
			points = append(points, int64(32+d.below(95)))
		case 2:
			points = append(points, int64("=?_ \t?="[d.below(7)]))
		default:
			n := int64(d.below(1114112))
			if n >= 55296 && n <= 57343 {
				n = '?'
			}
			points = append(points, n)
		}
	}
	return points
}

// formsIn are the points that have a form in a set.
func formsIn(set int64, points []int64) []int64 {
	return slices.DeleteFunc(slices.Clone(points), func(p int64) bool {
		return !impl.Encode(set, []int64{p}).Good
	})
}

func TestPromise2Sets(t *testing.T) {
	d := &dice{state: 3}
	all := make([]int64, 0, 66000)
	for p := int64(0); p < 66000; p++ {
		all = append(all, p)
	}
	lists := [][]int64{nil, edgePoints, all[:256], all[:25000], all[40000:64000]}
	for range 1000 {
		lists = append(lists, d.somePoints(d.below(50)))
	}
	for _, set := range allSets {
		for _, list := range lists {
			points := formsIn(set, list)
			coded := impl.Encode(set, points)
			if !coded.Good {
				t.Errorf("Encode of set %d, %s: none", set, few(points))
			}
			checkDecode(t, set, coded.Data, impl.Points{Good: true, Points: points})
		}
	}
}

func runes(text string) []int64 {
	var points []int64
	for _, r := range text {
		points = append(points, int64(r))
	}
	return points
}

func word(data string) string {
	return "=?utf-8?B?" + base64.StdEncoding.EncodeToString([]byte(data)) + "?="
}

func TestWriteWordsTexts(t *testing.T) {
	euros := func(n int) string { return strings.Repeat("€", n) }
	for _, c := range [][2]string{
		{"", ""},
		{"a b", "a b"},
		{" ", " "},
		{" ~?= =", " ~?= ="},
		{"=", "="},
		{"?=", "?="},
		{"= ?", "= ?"},
		{"=?", word("=?")},
		{"a==?b", word("a==?b")},
		{"a\x1f", word("a\x1f")},
		{"a\x7f", word("a\x7f")},
		{"a\tb", word("a\tb")},
		{"\r\n", word("\r\n")},
		{"\x00", word("\x00")},
		{"é", "=?utf-8?B?w6k=?="},
		{"a é b", word("a é b")},
		{euros(14), word(euros(14))},
		{euros(15), word(euros(15))},
		{euros(16), word(euros(15)) + " " + word("€")},
		{euros(30), word(euros(15)) + " " + word(euros(15))},
		{"a" + euros(15), word("a"+euros(14)) + " " + word("€")},
		{"ab" + euros(15), word("ab"+euros(14)) + " " + word("€")},
		{xs(43) + "é", word(xs(43) + "é")},
		{xs(44) + "é", word(xs(44)) + " " + word("é")},
		{xs(45) + "é", word(xs(45)) + " " + word("é")},
		{xs(46) + "é", word(xs(45)) + " " + word("xé")},
		{xs(41) + "\U00010000", word(xs(41) + "\U00010000")},
		{xs(42) + "\U00010000", word(xs(42)) + " " + word("\U00010000")},
		{"é" + xs(43), word("é" + xs(43))},
		{"é" + xs(44), word("é"+xs(43)) + " " + word("x")},
		{xs(2000), xs(2000)},
	} {
		wantText(t, "WriteWords", c[0], impl.WriteWords(runes(c[0])), c[1])
	}
}

func TestWriteWordsRefuses(t *testing.T) {
	for _, n := range noPoints {
		wantText(t, "WriteWords", "no point", impl.WriteWords([]int64{n}), "")
		wantText(t, "WriteWords", "no point", impl.WriteWords([]int64{'a', 'b', n}), "")
		wantText(t, "WriteWords", "no point", impl.WriteWords([]int64{n, 233}), "")
	}
	wantText(t, "WriteWords", "2001 points", impl.WriteWords(runes(xs(2001))), "")
	wantText(t, "WriteWords", "2001 points", impl.WriteWords(runes(strings.Repeat("é", 2001))), "")
	if got := impl.WriteWords(runes(strings.Repeat("é", 2000))); len(got) == 0 {
		t.Errorf("WriteWords of 2000 points: nothing")
	}
}

func TestReadWordsTexts(t *testing.T) {
	for _, c := range []struct{ value, want string }{
		{"", ""},
		{"a b", "a b"},
		{" \t a\t", " \t a\t"},
		{"a\r\n b\x00\x7f", "a\r\n b\x00\x7f"},
		{"\x80\xff", "\ufffd\ufffd"},
		{"é", "\ufffd\ufffd"},
		{"€ x", "\ufffd\ufffd\ufffd x"},

		{"=?us-ascii?Q?abc?=", "abc"},
		{"=?ascii?q?abc?=", "abc"},
		{"=?UTF-8?b?w6k=?=", "é"},
		{"=?utf8?B?4oKs?=", "€"},
		{"=?iso-8859-1?Q?=A4?=", "¤"},
		{"=?LATIN9?Q?=A4?=", "€"},
		{"=?iso-8859-15?B?pA==?=", "€"},
		{"=?utf-16be?B?2ADcAA==?=", "\U00010000"},
		{"=?utf-16be?Q?=00a=20=AC?=", "a€"},
		{"=?latin1?Q?a_b=5Fc=3D=3F=20?=", "a b_c=? "},
		{"=?latin1?Q?=e9=E9=eF?=", "ééï"},
		{"=?latin1?Q?\xe9?=", "é"},
		{"=?utf-8?Q?é?=", "é"},
		{"=?utf-8?Q?\r\n?=", "\r\n"},
		{"=?utf-8?B?Y\r\nQ=\n=?=", "a"},
		{"=?utf-8?Q??=", ""},
		{"=?utf-8?B??=", ""},
		{"=?utf-8?Q?=00?=", "\x00"},

		{" =?utf-8?Q?a?= ", " a "},
		{"\t=?utf-8?Q?a?=\t", "\ta\t"},
		{"x =?utf-8?Q?a?= y", "x a y"},
		{"=?utf-8?Q?a?= =?utf-8?B?Yg==?=", "ab"},
		{"=?utf-8?Q?a?= \t  =?utf-8?B?Yg==?=", "ab"},
		{"=?utf-8?Q?a?= =?utf-8?Q?b?= =?latin1?Q?c?=", "abc"},
		{"=?utf-8?Q?a?= =?utf-8?Q??= =?utf-8?Q?b?=", "ab"},
		{"=?utf-8?Q?a_?= =?utf-8?Q?_b?=", "a  b"},
		{"=?utf-8?Q?a?= x =?utf-8?Q?b?=", "a x b"},
		{"=?utf-8?Q?a?= =?none?Q?b?= =?utf-8?Q?c?=", "a =?none?Q?b?= c"},
		{"=?utf-8?Q?a?=  =?utf-8?Q?=?=  =?utf-8?Q?c?=", "a  =?utf-8?Q?=?=  c"},
		{"x  =?utf-8?Q?a?=  ", "x  a  "},
		{"=?utf-8?Q?a?=\r\n =?utf-8?Q?b?=", "=?utf-8?Q?a?=\r\n b"},
		{"=?utf-8?Q?a?= \xe9 =?utf-8?Q?b?=", "a \ufffd b"},
	} {
		wantNumbers(t, "ReadWords", c.value, impl.ReadWords(c.value), runes(c.want))
	}
}

// These are words no more than any other text is.
func TestReadWordsThatAreNone(t *testing.T) {
	for _, value := range []string{
		"=?", "?=", "=?=", "=??=", "=???=", "=????=", "=?utf-8?=", "=?utf-8?Q?=", "=?utf-8?B?=", "=?utf-8?Q?a?", "=?utf-8?Q?a=", "=?utf-8?Q?a",
		"?utf-8?Q?a?=", "=utf-8?Q?a?=", "=?utf-8?a?=", "=?utf-8??a?=", "=?utf-8?QQ?a?=", "=?utf-8?X?a?=", "=?utf-8?BQ?YQ==?=",
		"=?utf-8?Q?a?b?=", "=?utf-8?Q?a??=", "=?utf-8?Q??a?=", "=?utf-8?Q?a b?=", "=?utf-8?Q?a\tb?=", "=?utf-8?Q? a?=", "=?utf-8?B?YQ= =?=",
		"=?utf-8 ?Q?a?=", "=? utf-8?Q?a?=", "=?utf-8? Q?a?=", "=? =?utf-8?Q?a ?=",
		"=??Q?a?=", "=?utf-7?Q?a?=", "=?utf-16?Q?a?=", "=?utf-8*en?Q?a?=",
		"x=?utf-8?Q?a?=", "=?utf-8?Q?a?=x", "(=?utf-8?Q?a?=)", "\"=?utf-8?Q?a?=\"", "=?utf-8?Q?a?=,", "\r\n=?utf-8?Q?a?=", "=?utf-8?Q?a?=\r\n", "=?utf-8?Q?a?=\n",
		"=?utf-8?Q?a?==?utf-8?Q?b?=",
		"=?utf-8?Q?=?=", "=?utf-8?Q?=4?=", "=?utf-8?Q?a=4?=", "=?utf-8?Q?=g0?=", "=?utf-8?Q?=0g?=", "=?utf-8?Q?=_0?=", "=?utf-8?Q?==3D?=", "=?utf-8?Q?a=\r\nb?=",
		"=?utf-8?B?YQ=?=", "=?utf-8?B?YR==?=", "=?utf-8?B?Y?=", "=?utf-8?B?YQ==YQ==?=", "=?utf-8?B?Y_Jj?=",
		"=?us-ascii?Q?=80?=", "=?us-ascii?B?gA==?=", "=?utf-8?Q?=C0=80?=", "=?utf-8?Q?=E9?=", "=?utf-8?Q?=ED=A0=80?=", "=?utf-16be?Q?a?=", "=?utf-16be?Q?=D8=00?=", "=?utf-16be?B?2AA=?=",
	} {
		wantNumbers(t, "ReadWords", value, impl.ReadWords(value), runes(value))
		behind := "=?utf-8?Q?y?= " + value + " =?utf-8?Q?z?="
		wantNumbers(t, "ReadWords", behind, impl.ReadWords(behind), runes("y "+value+" z"))
	}
}

func TestReadWordsLengths(t *testing.T) {
	sized := func(size int) string { return "=?utf-8?Q?" + xs(size-12) + "?=" }
	for _, c := range [][2]string{
		{sized(74), xs(62)},
		{sized(75), xs(63)},
		{sized(76), sized(76)},
		{sized(77), sized(77)},
		{"a " + sized(75) + " " + sized(75) + " b", "a " + xs(126) + " b"},
		{"a " + sized(75) + " " + sized(76) + " b", "a " + xs(63) + " " + sized(76) + " b"},
		{xs(maxText), xs(maxText)},
		{xs(maxText + 1), ""},
		{strings.Repeat("=?utf-8?Q?a?= ", maxText/14+1)[:maxText], strings.Repeat("a", maxText/14) + " =?utf-8?Q?a?"},
		{strings.Repeat("=?", maxText/2), strings.Repeat("=?", maxText/2)},
	} {
		wantNumbers(t, "ReadWords", c[0], impl.ReadWords(c[0]), runes(c[1]))
	}
}

func checkWords(t *testing.T, points []int64) {
	t.Helper()
	written := impl.WriteWords(points)
	for _, b := range []byte(written) {
		if b < 32 || b > 126 {
			t.Fatalf("WriteWords of %s: the byte %d", few(points), b)
		}
	}
	wantNumbers(t, "ReadWords of WriteWords", written, impl.ReadWords(written), points)
}

func TestPromise2Words(t *testing.T) {
	for _, p := range edgePoints {
		for _, list := range [][]int64{{p}, {' ', p}, {p, ' '}, {p, p}, {'=', '?', p}, {p, '=', '?'}} {
			checkWords(t, list)
		}
		for _, count := range []int{11, 12, 15, 16, 22, 23, 44, 45, 46, 90, 91, 2000} {
			checkWords(t, slices.Repeat([]int64{p}, count))
			checkWords(t, append(slices.Repeat([]int64{p}, count-1), 233))
		}
	}
	for _, text := range []string{"", " ", "  ", "=?utf-8?Q?a?=", " =?utf-8?Q?a?= ", "a =?utf-8?Q?a?=\t=?utf-8?Q?a?= b", "?==?", " \u00e9 ", "=\u00e9?"} {
		checkWords(t, runes(text))
	}
	d := &dice{state: 4}
	for range 2000 {
		checkWords(t, d.somePoints(d.below(120)))
	}
	checkWords(t, d.somePoints(2000))
}

func TestCharsKeepArguments(t *testing.T) {
	room := []int64{'a', 233, 8364, 1, 2, 3, 4, 5}
	given := room[:3]
	impl.WriteWords(given)
	for _, set := range allSets {
		impl.Encode(set, given)
	}
	if !slices.Equal(room, []int64{'a', 233, 8364, 1, 2, 3, 4, 5}) {
		t.Errorf("an argument was changed: %v", room)
	}
	first := impl.ReadWords("ab")
	first[0] = 'z'
	wantNumbers(t, "ReadWords", "ab", impl.ReadWords("ab"), runes("ab"))
}
