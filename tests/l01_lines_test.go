package tests

import (
	"encoding/base64"
	"slices"
	"strings"
	"testing"

	"loop.example/g00013/impl"
)

// linePieces are what lines, stuffing and codings take notice of.
var linePieces = []string{"\r\n", "\r\n", "\r", "\n", ".", "..", "=", " ", "\t", "a", "Z", "~", "!", "\x00", "\x1f", "\x7f", "\x80", "\xff", "é", "=3D", "=\r\n", xs(70), xs(19)}

func TestLinesAreCutAtLineEnds(t *testing.T) {
	for _, c := range []struct {
		text string
		want []string
	}{
		{"", nil},
		{"\r\n", []string{""}},
		{"\r\n\r\n", []string{"", ""}},
		{"a", []string{"a"}},
		{"a\r\n", []string{"a"}},
		{"a\r\nb", []string{"a", "b"}},
		{"\r\na", []string{"", "a"}},
		{"a\r\n\r\nb\r\n", []string{"a", "", "b"}},
		{"\r", []string{"\r"}},
		{"\n", []string{"\n"}},
		{"\n\r", []string{"\n\r"}},
		{"a\rb\nc", []string{"a\rb\nc"}},
		{"\r\r\n\n", []string{"\r", "\n"}},
		{" \r\n\t", []string{" ", "\t"}},
	} {
		if got := impl.Lines(c.text); !slices.Equal(got, c.want) {
			t.Errorf("Lines of %q: %q, want %q", c.text, got, c.want)
		}
	}
}

func TestNormalMakesLineEnds(t *testing.T) {
	for _, c := range [][2]string{
		{"", ""},
		{"a", "a\r\n"},
		{"a\r\n", "a\r\n"},
		{"a\r", "a\r\n"},
		{"a\n", "a\r\n"},
		{"\r", "\r\n"},
		{"\n", "\r\n"},
		{"\n\r", "\r\n\r\n"},
		{"\r\r\n", "\r\n\r\n"},
		{"\r\n\n", "\r\n\r\n"},
		{"\r\n\r", "\r\n\r\n"},
		{"\r\n\r\n", "\r\n\r\n"},
		{"a\nb\rc\r\nd", "a\r\nb\r\nc\r\nd\r\n"},
		{" \t", " \t\r\n"},
		{"\x00\xff", "\x00\xff\r\n"},
	} {
		wantText(t, "Normal", c[0], impl.Normal(c[0]), c[1])
	}
}

func TestStuffedTexts(t *testing.T) {
	for _, c := range [][2]string{
		{"", ".\r\n"},
		{"a", "a\r\n.\r\n"},
		{"a\r\n", "a\r\n.\r\n"},
		{"\r\n", "\r\n.\r\n"},
		{".", "..\r\n.\r\n"},
		{"..", "...\r\n.\r\n"},
		{".\r\n", "..\r\n.\r\n"},
		{"a.\r\n.b\r\n", "a.\r\n..b\r\n.\r\n"},
		{" .\r\n", " .\r\n.\r\n"},
		{"a\n.b\r.c", "a\n.b\r.c\r\n.\r\n"},
	} {
		wantText(t, "Stuff", c[0], impl.Stuff(c[0]), c[1])
	}
}

func TestUnstuffedStreams(t *testing.T) {
	for _, c := range []struct {
		stream string
		want   impl.Cut
	}{
		{"", impl.Cut{}},
		{".", impl.Cut{}},
		{".\r", impl.Cut{}},
		{".\n", impl.Cut{}},
		{"a\r\n.", impl.Cut{}},
		{"a\r\n..\r\n", impl.Cut{}},
		{"a.\r\n", impl.Cut{}},
		{"a\n.\r\n", impl.Cut{}},
		{". \r\n", impl.Cut{}},
		{".\r\n", impl.Cut{Done: true}},
		{".\r\n.\r\n", impl.Cut{Done: true, Rest: ".\r\n"}},
		{"\r\n.\r\n", impl.Cut{Done: true, Text: "\r\n"}},
		{"a\r\n.\r\nb", impl.Cut{Done: true, Text: "a\r\n", Rest: "b"}},
		{"..\r\n.\r\n", impl.Cut{Done: true, Text: ".\r\n"}},
		{"...\r\n.\r\n", impl.Cut{Done: true, Text: "..\r\n"}},
		{".a\r\n.\r\n\r\n", impl.Cut{Done: true, Text: "a\r\n", Rest: "\r\n"}},
		{"a..\r\n.\r\n", impl.Cut{Done: true, Text: "a..\r\n"}},
		{".\rb\r\n.\r\n", impl.Cut{Done: true, Text: "\rb\r\n"}},
	} {
		if got := impl.Unstuff(c.stream); got != c.want {
			t.Errorf("Unstuff of %q: %+v, want %+v", c.stream, got, c.want)
		}
	}
}

// ended has a line end behind its last line.
func ended(text string) string {
	if text == "" || strings.HasSuffix(text, "\r\n") {
		return text
	}
	return text + "\r\n"
}

func checkStuffed(t *testing.T, text, behind string) {
	t.Helper()
	stream := impl.Stuff(text) + behind
	want := impl.Cut{Done: true, Text: ended(text), Rest: behind}
	if got := impl.Unstuff(stream); got != want {
		t.Errorf("Unstuff of %s: %v %s %s, want %s and %s", short(stream), got.Done, short(got.Text), short(got.Rest), short(want.Text), short(behind))
	}
}

func TestPromise1Stuffing(t *testing.T) {
	d := &dice{state: 1}
	for _, text := range []string{"", "\r\n", ".", ".\r\n.\r\n", "a\r\n.", "\r", "\n", ".\r", ".\n", "a\r\r\n"} {
		for _, behind := range []string{"", ".\r\n", "\r\n", "\n", "more"} {
			checkStuffed(t, text, behind)
		}
	}
	for range 2000 {
		checkStuffed(t, d.text(d.below(12), linePieces), d.text(d.below(4), linePieces))
	}
	// The stream's last bytes are ".\r\n", which the limit must leave room for.
	checkStuffed(t, xs(maxText-5), "")
	checkStuffed(t, "", xs(maxText-3))
}

func TestBase64Texts(t *testing.T) {
	digits := strings.Repeat("eHh4", 19)
	for _, c := range [][2]string{
		{"", ""},
		{"a", "YQ==\r\n"},
		{"ab", "YWI=\r\n"},
		{"abc", "YWJj\r\n"},
		{"abcd", "YWJjZA==\r\n"},
		{"\x00", "AA==\r\n"},
		{"\x00\x00\x00", "AAAA\r\n"},
		{"\xff\xff\xff", "////\r\n"},
		{"\xfb\xef\xbe", "++++\r\n"},
		{"\xff", "/w==\r\n"},
		{"\xff\xff", "//8=\r\n"},
		{"\r\n", "DQo=\r\n"},
		{xs(55), digits[:72] + "eA==\r\n"},
		{xs(56), digits[:72] + "eHg=\r\n"},
		{xs(57), digits + "\r\n"},
		{xs(58), digits + "\r\neA==\r\n"},
		{xs(114), digits + "\r\n" + digits + "\r\n"},
	} {
		wantText(t, "Base64", c[0], impl.Base64(c[0]), c[1])
	}
	for b := range 256 {
		for _, data := range []string{string([]byte{byte(b)}), string([]byte{7, byte(b)}), string([]byte{200, 3, byte(b)})} {
			wantText(t, "Base64", data, impl.Base64(data), base64.StdEncoding.EncodeToString([]byte(data))+"\r\n")
		}
	}
}

func TestUnBase64LeavesOutSpace(t *testing.T) {
	for _, c := range [][2]string{
		{"", ""},
		{" \t\r\n", ""},
		{"YWJj", "abc"},
		{"Y W\tJ\rj\n", "abc"},
		{"YQ\r\n==", "a"},
		{"YQ= =", "a"},
		{"YWI=\r\n\r\n ", "ab"},
		{"YWJjYQ==", "abca"},
		{"AAAA", "\x00\x00\x00"},
		{"++//", "\xfb\xef\xff"},
		{"AA==", "\x00"},
		{"AAA=", "\x00\x00"},
	} {
		if got := impl.UnBase64(c[0]); !got.Good || got.Data != c[1] {
			t.Errorf("UnBase64 of %q: %v, want %q", c[0], got, c[1])
		}
	}
}

func TestUnBase64RefusesIllTexts(t *testing.T) {
	for _, text := range []string{
		"Y", "YQ", "YWJ", "YQ=", "YWJj=", "YWJjY",
		"=", "==", "===", "====", "Y===", "YWJj====", "YWJjY===",
		"=YQ=", "Y=Q=", "YQ=a", "Y=YQ", "==YQ",
		"YQ==YQ==", "YWI=YWJj", "YQ==YWJj", "YWI=\r\nYWI=",
		"YR==", "YT==", "Yf==", "YY==", "YWJ=", "YWK=", "YWJjYR==", "AB==", "AAB=", "/////w==//8=",
		"YW-=", "YW_j", "YWJ.", "YWJ\x00", "YWJ\x80", "YWJ\xc1", "YWJ@", "YWJ[", "YWJ`", "YWJ{", "YWJ*", "YWJ,", "YWJ:",
		"YWJ\v", "YWJ\f", "YWJ\x00j", "YWJj-",
	} {
		if got := impl.UnBase64(text); got != (impl.Bytes{}) {
			t.Errorf("UnBase64 of %q: %v, want none", text, got)
		}
	}
}

// Every byte that is no digit is refused in each place, and of the last digit all forms but those with no bits left over.
func TestUnBase64Digits(t *testing.T) {
	for b := range 256 {
		c := string([]byte{byte(b)})
		for _, text := range []string{c + "AAA", "A" + c + "AA", "AA" + c + "A", "AAA" + c, "A" + c + "==", "AA" + c + "="} {
			if strings.ContainsAny(c, " \t\r\n") {
				continue
			}
			want, err := base64.StdEncoding.Strict().DecodeString(text)
			got := impl.UnBase64(text)
			if got.Good != (err == nil) || err == nil && got.Data != string(want) || err != nil && got.Data != "" {
				t.Errorf("UnBase64 of %q: %v, want %q %v", text, got, want, err)
			}
		}
	}
}

func TestQuotedTexts(t *testing.T) {
	for _, c := range [][2]string{
		{"", ""},
		{"a", "a"},
		{"a=b ", "a=3Db=20"},
		{"=", "=3D"},
		{" ", "=20"},
		{"\t", "=09"},
		{"  ", " =20"},
		{"\t ", "\t=20"},
		{" a", " a"},
		{"a \tb", "a \tb"},
		{"\r\n", "\r\n"},
		{" \r\n", "=20\r\n"},
		{"\t\r\n", "=09\r\n"},
		{" \t\r\n ", " =09\r\n=20"},
		{"a\r\nb\r\n", "a\r\nb\r\n"},
		{"\r", "=0D"},
		{"\n", "=0A"},
		{"\n\r", "=0A=0D"},
		{"\r\r\n\n", "=0D\r\n=0A"},
		{" \n \r ", " =0A =0D=20"},
		{"!~", "!~"},
		{"\x00\x1f\x7f\x80\xab\xff", "=00=1F=7F=80=AB=FF"},
		{".\r\n.", ".\r\n."},
	} {
		wantText(t, "Quoted", c[0], impl.Quoted(c[0]), c[1])
	}
}

func TestQuotedBytes(t *testing.T) {
	const hex = "0123456789ABCDEF"
	for b := range 256 {
		c := string([]byte{byte(b)})
		coded := "=" + hex[b/16:b/16+1] + hex[b%16:b%16+1]
		want := coded
		if b >= 33 && b <= 126 && c != "=" || c == " " || c == "\t" {
			want = c
		}
		wantText(t, "Quoted", c+"a", impl.Quoted(c+"a"), want+"a")
		if c == " " || c == "\t" {
			want = coded
		}
		wantText(t, "Quoted", c, impl.Quoted(c), want)
		wantText(t, "Quoted", c+"\r\n", impl.Quoted(c+"\r\n"), want+"\r\n")
	}
}

func TestQuotedBreaks(t *testing.T) {
	soft := "=\r\n"
	for _, c := range [][2]string{
		{xs(75), xs(75)},
		{xs(76), xs(76)},
		{xs(77), xs(75) + soft + "xx"},
		{xs(151), xs(75) + soft + xs(76)},
		{xs(152), xs(75) + soft + xs(75) + soft + "xx"},
		{xs(76) + "\r\n" + xs(76), xs(76) + "\r\n" + xs(76)},
		{xs(77) + "\r\na", xs(75) + soft + "xx\r\na"},
		{xs(75) + "\r\n", xs(75) + "\r\n"},
		{xs(76) + "\r", xs(75) + soft + "x=0D"},
		{xs(76) + "\n", xs(75) + soft + "x=0A"},
		{xs(72) + "=", xs(72) + "=3D"},
		{xs(73) + "=", xs(73) + "=3D"},
		{xs(74) + "=", xs(74) + soft + "=3D"},
		{xs(75) + "=", xs(75) + soft + "=3D"},
		{xs(76) + "=", xs(75) + soft + "x=3D"},
		{xs(72) + "=x", xs(72) + "=3Dx"},
		{xs(72) + "=xx", xs(72) + "=3D" + soft + "xx"},
		{xs(73) + "=x", xs(73) + soft + "=3Dx"},
		{xs(73) + "=\r\n", xs(73) + "=3D\r\n"},
		{xs(74) + "=\r\n", xs(74) + soft + "=3D\r\n"},
		{xs(73) + " ", xs(73) + "=20"},
		{xs(74) + " ", xs(74) + soft + "=20"},
		{xs(75) + " ", xs(75) + soft + "=20"},
		{xs(74) + " x", xs(74) + " x"},
		{xs(75) + " x", xs(75) + soft + " x"},
		{xs(74) + " xx", xs(74) + " " + soft + "xx"},
		{xs(73) + " \r\n" + xs(76), xs(73) + "=20\r\n" + xs(76)},
		{strings.Repeat("=", 25), strings.Repeat("=3D", 25)},
		{strings.Repeat("=", 26), strings.Repeat("=3D", 25) + soft + "=3D"},
	} {
		wantText(t, "Quoted", c[0], impl.Quoted(c[0]), c[1])
	}
}

func TestUnQuotedTexts(t *testing.T) {
	for _, c := range [][2]string{
		{"", ""},
		{"a", "a"},
		{"=41", "A"},
		{"=3D3D", "=3D"},
		{"=e9=E9=eF", "\xe9\xe9\xef"},
		{"=00=ff", "\x00\xff"},
		{"a \t", "a"},
		{" \t", ""},
		{"a \t\r\n \r\nb", "a\r\n\r\nb"},
		{"a=20 \r\n", "a \r\n"},
		{"a b", "a b"},
		{" a", " a"},
		{"a \n", "a \n"},
		{"a \rb", "a \rb"},
		{"=", ""},
		{"a=", "a"},
		{"a= \t", "a"},
		{"a=\r\n", "a"},
		{"a=\r\nb", "ab"},
		{"a =\r\nb", "a b"},
		{"a= \t\r\nb", "ab"},
		{"=\r\n=\r\n=", ""},
		{"a=\r\n b", "a b"},
		{"a=\r\n \r\nb", "a\r\nb"},
		{"=3D\r\n", "=\r\n"},
		{"=41=\r\n=42", "AB"},
		{"\r\n", "\r\n"},
		{"\r\r\n\n", "\r\r\n\n"},
		{"\x80\xff\x00", "\x80\xff\x00"},
		{xs(300), xs(300)},
	} {
		if got := impl.UnQuoted(c[0]); !got.Good || got.Data != c[1] {
			t.Errorf("UnQuoted of %q: %+v, want %q", c[0], got, c[1])
		}
	}
}

func TestUnQuotedRefusesIllTexts(t *testing.T) {
	for _, text := range []string{
		"=4", "=g1", "=1g", "=G0", "=4 ", "=4\r\n1", "= 41", "= a", "=\r", "=\n", "=\ra", "=\n\r\n", "=\r\r\n", "=\r \r\n",
		"==", "==41", "=3", "=-1", "=+1", "=0x", "=_1", "=1_", "=:0", "=/0", "=@0", "=`0", "ok=\r\nbut=zz", "a==\r\n", "=4=", "=\t4",
	} {
		if got := impl.UnQuoted(text); got != (impl.Bytes{}) {
			t.Errorf("UnQuoted of %q: %+v, want none", text, got)
		}
	}
}

func checkCodings(t *testing.T, data string) {
	t.Helper()
	for _, c := range []struct {
		call  string
		write func(string) string
		read  func(string) impl.Bytes
	}{
		{"Base64", impl.Base64, impl.UnBase64},
		{"Quoted", impl.Quoted, impl.UnQuoted},
	} {
		coded := c.write(data)
		if len(coded) > maxText {
			continue
		}
		if got := c.read(coded); !got.Good || got.Data != data {
			t.Errorf("%s of %s: %s, which is read as %v %s", c.call, short(data), short(coded), got.Good, short(got.Data))
		}
		for _, line := range strings.Split(coded, "\r\n") {
			if len(line) > 76 {
				t.Errorf("%s of %s: a line of %d bytes", c.call, short(data), len(line))
			}
			if strings.ContainsAny(line, "\r\n") || strings.TrimRight(line, " \t") != line {
				t.Errorf("%s of %s: the line %s", c.call, short(data), short(line))
			}
		}
	}
}

func TestPromise1Codings(t *testing.T) {
	for length := range 240 {
		for _, piece := range []string{"x", " ", "=", "\t", "\r", "\n", "\xff", ".", "\r\n"} {
			data := strings.Repeat(piece, length)
			checkCodings(t, data)
			checkCodings(t, data+"\r\n")
			checkCodings(t, xs(length)+piece)
			checkCodings(t, xs(length)+piece+"\r\n"+piece)
		}
	}
	d := &dice{state: 2}
	for range 3000 {
		checkCodings(t, d.text(d.below(40), linePieces))
	}
	for range 300 {
		data := make([]byte, d.below(400))
		for i := range data {
			data[i] = byte(d.below(256))
		}
		checkCodings(t, string(data))
	}
	checkCodings(t, xs(72000))
}

func TestLongLinesAndCodings(t *testing.T) {
	most, over := xs(maxText), xs(maxText+1)
	if got := impl.Lines(most); len(got) != 1 || got[0] != most {
		t.Errorf("Lines of the most: %d lines", len(got))
	}
	if got := impl.Lines(over); len(got) != 0 {
		t.Errorf("Lines of more: %d lines", len(got))
	}
	wantText(t, "Normal", most, impl.Normal(most), most+"\r\n")
	wantText(t, "Normal", over, impl.Normal(over), "")
	newlines := strings.Repeat("\n", maxText)
	wantText(t, "Normal", newlines, impl.Normal(newlines), strings.Repeat("\r\n", maxText))
	wantText(t, "Stuff", most, impl.Stuff(most), most+"\r\n.\r\n")
	wantText(t, "Stuff", over, impl.Stuff(over), "")
	if got := impl.Unstuff(".\r\n" + xs(maxText-3)); !got.Done || got.Rest != xs(maxText-3) {
		t.Errorf("Unstuff of the most: %v", got.Done)
	}
	if got := impl.Unstuff(".\r\n" + xs(maxText-2)); got != (impl.Cut{}) {
		t.Errorf("Unstuff of more: %v", got.Done)
	}
	if got := impl.Base64(most); len(got) != 133336+2*1755 {
		t.Errorf("Base64 of the most: %d bytes", len(got))
	}
	wantText(t, "Base64", over, impl.Base64(over), "")
	if got := impl.UnBase64(strings.Repeat("AAAA", maxText/4)); !got.Good || len(got.Data) != maxText/4*3 {
		t.Errorf("UnBase64 of the most: %v, %d bytes", got.Good, len(got.Data))
	}
	if got := impl.UnBase64(strings.Repeat("AAAA", maxText/4) + " "); got != (impl.Bytes{}) {
		t.Errorf("UnBase64 of more: %v", got.Good)
	}
	// 75 bytes a line, but 76 in the last one.
	if got := impl.Quoted(most); len(got) != maxText+3*((maxText-2)/75) {
		t.Errorf("Quoted of the most: %d bytes", len(got))
	}
	wantText(t, "Quoted", over, impl.Quoted(over), "")
	if got := impl.UnQuoted(most); !got.Good || got.Data != most {
		t.Errorf("UnQuoted of the most: %v, %d bytes", got.Good, len(got.Data))
	}
	if got := impl.UnQuoted(over); got != (impl.Bytes{}) {
		t.Errorf("UnQuoted of more: %v", got.Good)
	}
}

func TestLinesAreNewMemory(t *testing.T) {
	first := impl.Lines("a\r\nb\r\n")
	first[0] = "changed"
	_ = append(first[:1], "changed")
	if got := impl.Lines("a\r\nb\r\n"); !slices.Equal(got, []string{"a", "b"}) {
		t.Errorf("Lines: %q", got)
	}
	text := strings.Clone("first\r\n\r\n.second\r\n.\r\nbehind\r\n")
	cut := impl.Unstuff(text)
	wantText(t, "Rest of Unstuff", text, cut.Rest, "behind\r\n")
	wantOwnMemory(t, "Unstuff", text, cut.Text, cut.Rest)
	wantOwnMemory(t, "Lines", text, impl.Lines(text)...)
	wantOwnMemory(t, "Normal", text, impl.Normal(text))
}
