package tests

import (
	"fmt"
	"slices"
	"strings"
	"testing"

	"loop.example/g00013/impl"
)

const (
	maxFields    = 200
	maxFieldName = 70
	maxTokens    = 5000
	maxNest      = 20
)

func TestHeadConstants(t *testing.T) {
	got := []int64{impl.MaxFields, impl.MaxFieldName, impl.MaxTokens, impl.MaxNest, impl.TokAtom, impl.TokQuoted, impl.TokLiteral, impl.TokComment, impl.TokSpecial}
	wantNumbers(t, "constants", "", got, []int64{maxFields, maxFieldName, maxTokens, maxNest, 1, 2, 3, 4, 5})
}

// fields are made of a name and a value by turns.
func fields(texts ...string) []impl.Field {
	var out []impl.Field
	for i := 0; i+1 < len(texts); i += 2 {
		out = append(out, impl.Field{Name: texts[i], Value: texts[i+1]})
	}
	return out
}

// shown keeps what a test tells of great answers readable.
func shown(answer any) string {
	text := fmt.Sprintf("%#v", answer)
	return text[:min(len(text), 400)]
}

func sameHeads(a, b impl.Head) bool {
	return a.Code == b.Code && a.At == b.At && a.Body == b.Body && slices.Equal(a.Fields, b.Fields)
}

func checkHead(t *testing.T, text string, want impl.Head) {
	t.Helper()
	if got := impl.ReadHead(text); !sameHeads(got, want) {
		t.Errorf("ReadHead of %s: %s, want %s", short(text), shown(got), shown(want))
	}
}

func TestReadHeadTexts(t *testing.T) {
	for _, c := range []struct {
		text   string
		body   int64
		fields []impl.Field
	}{
		{"", 0, nil},
		{"\r\n", 2, nil},
		{"\r\nA: b\r\n", 2, nil},
		{"\r\n\r\n", 2, nil},
		{"\r\n \xff\x00\r\n", 2, nil},
		{"A: b\r\n\r\nbody", 8, fields("A", " b")},
		{"A: b\r\n\r\n", 8, fields("A", " b")},
		{"A: b\r\n\r\n\r\n", 8, fields("A", " b")},
		{"A: b\r\n\r\n\nno: field\r", 8, fields("A", " b")},
		{"A: b\r\n", 6, fields("A", " b")},
		{"A: b", 4, fields("A", " b")},
		{"A:", 2, fields("A", "")},
		{"A:\r\n", 4, fields("A", "")},
		{"A:\r\n\r\n", 6, fields("A", "")},
		{"A::", 3, fields("A", ":")},
		{"A:b:c", 5, fields("A", "b:c")},
		{"A :b", 4, fields("A", "b")},
		{"A\t \t:\tb ", 8, fields("A", "\tb ")},
		{"A: b\r\n c\r\n", 10, fields("A", " b\r\n c")},
		{"A: b\r\n\tc", 8, fields("A", " b\r\n\tc")},
		{"A:\r\n b\r\n\r\n", 10, fields("A", "\r\n b")},
		{"A: b\r\n \r\n\r\nx", 11, fields("A", " b\r\n ")},
		{"A: b\r\n ", 7, fields("A", " b\r\n ")},
		{"A: b\r\n \r\n", 9, fields("A", " b\r\n ")},
		{"A: b\r\n c\r\n\t d\r\nE:f\r\n g\r\n\r\n", 26, fields("A", " b\r\n c\r\n\t d", "E", "f\r\n g")},
		{"A: b\r\n x: y\r\nB:", 15, fields("A", " b\r\n x: y", "B", "")},
		{"A:1\r\nA:2\r\na:3\r\n", 15, fields("A", "1", "A", "2", "a", "3")},
		{"!\"#$~[]()<>@,;.\\: x", 19, fields("!\"#$~[]()<>@,;.\\", " x")},
		{"A: \x00\x01\x1f\x7f\x80\xff", 9, fields("A", " \x00\x01\x1f\x7f\x80\xff")},
	} {
		checkHead(t, c.text, impl.Head{Fields: c.fields, Body: c.body})
	}
}

func TestReadHeadRefusesIllLines(t *testing.T) {
	for _, c := range []struct {
		text string
		at   int64
	}{
		{" A: b", 0},
		{"\tA: b\r\n", 0},
		{" \r\nA: b\r\n", 0},
		{" ", 0},
		{":", 0},
		{": x\r\n", 0},
		{" : x\r\n", 0},
		{"A", 0},
		{"A ", 0},
		{"A\r\n", 0},
		{"A \r\n", 0},
		{"A\r\n :x", 0},
		{"A\r\n: x", 0},
		{"A \r\n : x", 0},
		{"A b: c", 0},
		{"A\x00: c", 0},
		{"A\x1f: c", 0},
		{"A\x7f: c", 0},
		{"\x80: c", 0},
		{"A\xff: c", 0},
		{"\r", 0},
		{"\n", 0},
		{"\n\r\n", 0},
		{"\r\r\n", 0},
		{"\rA: b\r\n", 0},
		{"A\n: b\r\n", 0},
		{"A: b\n", 0},
		{"A: b\r", 0},
		{"A: b\n\r\n", 0},
		{"A: b\r\r\n", 0},
		{"A: b\nC: d\r\n", 0},
		{"A: b\n c\r\n", 0},
		{"A: b\r c\r\n", 0},
		{"A:\r\r\n c\r\n", 0},
		{"A: b\r\n\r", 6},
		{"A: b\r\n\n", 6},
		{"A: b\r\n\n\r\n", 6},
		{"A: b\r\nc", 6},
		{"A: b\r\nc\r\n\r\n", 6},
		{"A: b\r\n: c\r\n", 6},
		{"A: b\r\n c\n\r\n", 6},
		{"A: b\r\n c\r", 6},
		{"A: b\r\n \n c\r\n\r\n", 6},
		{"A: b\r\n c\r\n d\r\r\n e\r\n", 10},
		{"A: b\r\n c\r\n\td\re\n\r\n e\n\r\n", 10},
		{"A: b\r\n c\r\nD\r\n", 10},
		{"A: b\r\nC: d\r\n e\n", 12},
		// Faults that come later in the text are not told.
		{"A: b\r\nc\r\nD: \n", 6},
		{"A: \n\r\nc\r\n", 0},
		{"A: b\r\n c\n\r\n d\n\r\nE", 6},
	} {
		checkHead(t, c.text, impl.Head{Code: impl.ErrSyntax, At: c.at})
	}
}

func TestReadHeadNames(t *testing.T) {
	for b := range 256 {
		text := "a" + string([]byte{byte(b)}) + "z:v"
		switch {
		case b == ':':
			checkHead(t, text, impl.Head{Fields: fields("a", "z:v"), Body: 5})
		case 33 <= b && b <= 126:
			checkHead(t, text, impl.Head{Fields: fields(text[:3], "v"), Body: 5})
		default:
			checkHead(t, text, impl.Head{Code: impl.ErrSyntax})
		}
	}
	most, over := xs(maxFieldName), xs(maxFieldName+1)
	checkHead(t, most+":v\r\n", impl.Head{Fields: fields(most, "v"), Body: maxFieldName + 4})
	checkHead(t, most+" \t :v\r\n", impl.Head{Fields: fields(most, "v"), Body: maxFieldName + 7})
	checkHead(t, over+":v\r\n", impl.Head{Code: impl.ErrSyntax})
	checkHead(t, "A:\r\n"+over+" :v\r\n", impl.Head{Code: impl.ErrSyntax, At: 4})
}

func TestReadHeadValueBytes(t *testing.T) {
	for b := range 256 {
		value := "a" + string([]byte{byte(b)}) + " z"
		want := impl.Head{Fields: fields("A", value), Body: 6}
		if b == 13 || b == 10 {
			want = impl.Head{Code: impl.ErrSyntax}
		}
		checkHead(t, "A:"+value, want)
	}
}

func TestReadHeadCounts(t *testing.T) {
	many := strings.Repeat("A: b\r\n c\r\n", maxFields)
	all := slices.Repeat(fields("A", " b\r\n c"), maxFields)
	size := int64(len(many))
	checkHead(t, many, impl.Head{Fields: all, Body: size})
	checkHead(t, many+"\r\nA: b\r\n", impl.Head{Fields: all, Body: size + 2})
	for _, more := range []string{"A:", "A:\r\n", "A: b\r\n c\r\n\r\n", "A:b\r\nC", "A:b\r\nC: \n", "A:\r\nB:\r\n"} {
		checkHead(t, many+more, impl.Head{Code: impl.ErrCount, At: size})
	}
	// The field that is one too much is ill itself.
	for _, c := range []struct {
		more string
		at   int64
	}{{"A", 0}, {":", 0}, {"A: \n", 0}, {"A: b\r\n c\n", 6}, {xs(maxFieldName+1) + ":", 0}, {"\r", 0}} {
		checkHead(t, many+c.more, impl.Head{Code: impl.ErrSyntax, At: size + c.at})
	}
	checkHead(t, "A\r\n"+many+"A:", impl.Head{Code: impl.ErrSyntax})
}

func TestReadHeadLengths(t *testing.T) {
	value := xs(maxText - 2)
	checkHead(t, "A:"+value, impl.Head{Fields: fields("A", value), Body: maxText})
	checkHead(t, "A:"+value+"x", impl.Head{Code: impl.ErrSize})
	checkHead(t, "\r\n"+value, impl.Head{Body: 2})
	checkHead(t, "\r\n"+value+"x", impl.Head{Code: impl.ErrSize})
	checkHead(t, xs(maxText+1), impl.Head{Code: impl.ErrSize})
	checkHead(t, xs(maxText), impl.Head{Code: impl.ErrSyntax})
	lines := "A:" + strings.Repeat("\r\n ", maxText/3-1)
	checkHead(t, lines, impl.Head{Fields: fields("A", lines[2:]), Body: int64(len(lines))})
}

func TestWriteHeadTexts(t *testing.T) {
	for _, c := range []struct {
		fields []impl.Field
		want   string
	}{
		{nil, ""},
		{[]impl.Field{}, ""},
		{fields("A", "b"), "A:b\r\n"},
		{fields("A", " b"), "A: b\r\n"},
		{fields("A", ""), "A:\r\n"},
		{fields("A", "\r\n "), "A:\r\n \r\n"},
		{fields("A", "b\r\n c\r\n\td"), "A:b\r\n c\r\n\td\r\n"},
		{fields("A", "\r\n \r\n "), "A:\r\n \r\n \r\n"},
		{fields("A", "1", "B", "2", "a", "3"), "A:1\r\nB:2\r\na:3\r\n"},
		{fields("A", ":x"), "A::x\r\n"},
		{fields("!~", "\x00\x7f\x80\xff"), "!~:\x00\x7f\x80\xff\r\n"},
		{fields(xs(maxFieldName), "v"), xs(maxFieldName) + ":v\r\n"},
	} {
		wantText(t, "WriteHead", fmt.Sprintf("%q", c.fields), impl.WriteHead(c.fields), c.want)
	}
}

func TestWriteHeadRefuses(t *testing.T) {
	for _, field := range [][2]string{
		{"", "v"},
		{"", ""},
		{":", "v"},
		{"A:", "v"},
		{" A", "v"},
		{"A ", "v"},
		{"A\t", "v"},
		{"A\r\n", "v"},
		{"A\x00", "v"},
		{"A\x7f", "v"},
		{"\x80", "v"},
		{xs(maxFieldName + 1), "v"},
		{"A", "\r"},
		{"A", "\n"},
		{"A", "\r\n"},
		{"A", "b\r\n"},
		{"A", "b\rc"},
		{"A", "b\nc"},
		{"A", "b\n c"},
		{"A", "b\r c"},
		{"A", "b\r\nc"},
		{"A", "b\n\r c"},
		{"A", "b\r\r\n c"},
		{"A", "b\r\n\n c"},
		{"A", "b\r\n\r\n c"},
		{"A", "b\r\n c\r\n"},
		{"A", "b\r\n c\n"},
	} {
		one := fields(field[0], field[1])
		wantText(t, "WriteHead", fmt.Sprintf("%q", one), impl.WriteHead(one), "")
		among := fields("A", "b", field[0], field[1], "C", "d")
		wantText(t, "WriteHead", fmt.Sprintf("%q", among), impl.WriteHead(among), "")
	}
}

func TestWriteHeadLimits(t *testing.T) {
	most := slices.Repeat(fields("A", "b"), maxFields)
	wantText(t, "WriteHead", "200 fields", impl.WriteHead(most), strings.Repeat("A:b\r\n", maxFields))
	wantText(t, "WriteHead", "201 fields", impl.WriteHead(append(most, impl.Field{Name: "A"})), "")
	value := xs(maxText - 4)
	wantText(t, "WriteHead", "the most", impl.WriteHead(fields("A", value)), "A:"+value+"\r\n")
	wantText(t, "WriteHead", "one more", impl.WriteHead(fields("A", value+"x")), "")
	wantText(t, "WriteHead", "one line end more", impl.WriteHead(fields("A", value+"xx")), "")
	wantText(t, "WriteHead", "too much", impl.WriteHead(fields("A", xs(maxText+1))), "")
	wantText(t, "WriteHead", "one more in two", impl.WriteHead(fields("A", xs(50000), "B", xs(maxText-50000-7))), "")
	wantText(t, "WriteHead", "the most in two", impl.WriteHead(fields("A", xs(50000), "B", xs(maxText-50000-8))), "A:"+xs(50000)+"\r\nB:"+xs(maxText-50008)+"\r\n")
	wantText(t, "WriteHead", "an ill one that is too long", impl.WriteHead(fields("A", xs(maxText)+"\n")), "")
}

var valuePieces = []string{"\r\n ", "\r\n\t", " ", "\t", "a", "Z9", ":", "\x00", "\x7f", "\x80", "\xff", "\"", "\\", "(", "é", xs(30)}

var bodyPieces = append([]string{"\r\n", "\r", "\n", "A: b\r\n", "\r\n\r\n"}, valuePieces...)

func (d *dice) fieldName() string {
	size := 1 + d.below(12)
	if d.below(8) == 0 {
		size = maxFieldName
	}
	name := make([]byte, size)
	for i := range name {
		name[i] = byte(33 + d.below(94))
		if name[i] == ':' {
			name[i] = ';'
		}
	}
	return string(name)
}

func (d *dice) fields(count int) []impl.Field {
	out := make([]impl.Field, count)
	for i := range out {
		out[i] = impl.Field{Name: d.fieldName(), Value: d.text(d.below(12), valuePieces)}
	}
	return out
}

func TestPromise3Heads(t *testing.T) {
	d := &dice{state: 31}
	for range 3000 {
		given := d.fields(d.below(6))
		head := impl.WriteHead(given) + "\r\n"
		checkHead(t, head+d.text(d.below(8), bodyPieces), impl.Head{Fields: given, Body: int64(len(head))})
	}
	most := d.fields(maxFields)
	head := impl.WriteHead(most) + "\r\n"
	checkHead(t, head+d.text(300, bodyPieces), impl.Head{Fields: most, Body: int64(len(head))})
	checkHead(t, head+xs(maxText-len(head)), impl.Head{Fields: most, Body: int64(len(head))})
	checkHead(t, head+xs(maxText-len(head)+1), impl.Head{Code: impl.ErrSize})
}

func TestUnfoldTexts(t *testing.T) {
	for _, c := range [][2]string{
		{"", ""},
		{"a b", "a b"},
		{"a\r\n b", "a b"},
		{"a\r\n\tb", "a\tb"},
		{"a \r\n b", "a  b"},
		{"\r\n a", " a"},
		{"a\r\n ", "a "},
		{"a\r\n \r\n b", "a  b"},
		{"a\r\n\r\n b", "a\r\n b"},
		{"a\r\n", "a\r\n"},
		{"a\r\nb", "a\r\nb"},
		{"a\r b\n c", "a\r b\n c"},
		{"a\n\r b", "a\n\r b"},
		{"a\r\r\n b", "a\r b"},
		{"a\r\n\n b", "a\r\n\n b"},
		{"\r", "\r"},
		{"\n", "\n"},
		{"\x00\xff\r\n \x80", "\x00\xff \x80"},
		{"a\r\n\x0bb\r\n\x00", "a\r\n\x0bb\r\n\x00"},
	} {
		wantText(t, "Unfold", c[0], impl.Unfold(c[0]), c[1])
	}
	most := strings.Repeat("\r\n ", maxText/3) + "x"
	wantText(t, "Unfold", most, impl.Unfold(most), strings.Repeat(" ", maxText/3)+"x")
	wantText(t, "Unfold", most+"x", impl.Unfold(most+"x"), "")
	wantText(t, "Unfold", xs(maxText), impl.Unfold(xs(maxText)), xs(maxText))
}

func TestFoldTexts(t *testing.T) {
	for _, c := range []struct {
		value string
		used  int64
		want  string
	}{
		{"", 0, ""},
		{"", 78, ""},
		{"a", 78, "a"},
		{" ", 78, " "},
		// The 78th byte may be used, the one behind it not.
		{xs(40) + " " + xs(37), 0, xs(40) + " " + xs(37)},
		{xs(40) + " " + xs(38), 0, xs(40) + "\r\n " + xs(38)},
		{"a bcd", 73, "a bcd"},
		{"a bcd", 74, "a\r\n bcd"},
		{"a bcd", 78, "a\r\n bcd"},
		{"a\tbcd", 74, "a\r\n\tbcd"},
		{" a bcd", 72, " a bcd"},
		{" a bcd", 73, " a\r\n bcd"},
		// There is nothing but blanks ahead on the line, whatever is used.
		{" " + xs(90), 0, " " + xs(90)},
		{" " + xs(90), 78, " " + xs(90)},
		{"  \t " + xs(90), 78, "  \t " + xs(90)},
		{xs(90), 78, xs(90)},
		// A new line has as many bytes as stand in it.
		{xs(90) + " " + xs(90) + " a", 0, xs(90) + "\r\n " + xs(90) + "\r\n a"},
		{"a " + xs(77) + " b", 70, "a\r\n " + xs(77) + "\r\n b"},
		{"a " + xs(76) + " b", 70, "a\r\n " + xs(76) + "\r\n b"},
		{"a " + xs(75) + " b", 70, "a\r\n " + xs(75) + " b"},
		{"a " + xs(75) + " b", 0, "a " + xs(75) + "\r\n b"},
		{"a " + xs(74) + " b", 0, "a " + xs(74) + " b"},
		{"a bb cc", 78, "a\r\n bb cc"},
		{"a bb cc", 72, "a bb\r\n cc"},
		// Blanks stay with what is behind them; at the end they stay on the line.
		{"a  b", 78, "a\r\n  b"},
		{"a \t b", 77, "a\r\n \t b"},
		{"a ", 78, "a "},
		{"a" + strings.Repeat(" ", 90), 78, "a" + strings.Repeat(" ", 90)},
		{"a b   ", 78, "a\r\n b   "},
		{xs(76) + " b   ", 0, xs(76) + " b   "},
		{xs(77) + " b   ", 0, xs(77) + "\r\n b   "},
		{xs(76) + " b c", 0, xs(76) + " b\r\n c"},
		// Only a space and a tab are places to cut.
		{"a\x00b\x0bc\xa0" + xs(90), 78, "a\x00b\x0bc\xa0" + xs(90)},
		{"a\x00 \xff", 78, "a\x00\r\n \xff"},
		// Values as they are.
		{"a b\r", 78, "a b\r"},
		{"a b\n", 78, "a b\n"},
		{"a\r\n b c", 78, "a\r\n b c"},
		{"a b", 79, "a b"},
		{"a b", -1, "a b"},
		{"a " + xs(90), -1, "a " + xs(90)},
		{"a b", 1 << 62, "a b"},
		{"a b", -1 << 63, "a b"},
		{"a b", 1<<63 - 1, "a b"},
	} {
		wantText(t, fmt.Sprint("Fold from ", c.used), c.value, impl.Fold(c.value, c.used), c.want)
	}
}

func TestFoldLengths(t *testing.T) {
	most, over := xs(maxText), xs(maxText+1)
	wantText(t, "Fold", most, impl.Fold(most, 0), most)
	wantText(t, "Fold", over, impl.Fold(over, 0), "")
	wantText(t, "Fold", over, impl.Fold(over, 79), "")
	wantText(t, "Fold", over+"\n", impl.Fold(over+"\n", 0), "")
	wantText(t, "Fold", xs(maxText-1)+"\n", impl.Fold(xs(maxText-1)+"\n", 0), xs(maxText-1)+"\n")
	blank := strings.Repeat(" ", maxText)
	wantText(t, "Fold", blank, impl.Fold(blank, 0), blank)
	words := strings.Repeat(" a", maxText/2)
	wantText(t, "Fold", words, impl.Fold(words, 0), strings.Repeat("\r\n"+strings.Repeat(" a", 39), 1282)[2:]+"\r\n a a")
}

func says(text string) bool { return strings.Trim(text, " \t") != "" }

// firstPiece goes up to a blank behind another byte.
func firstPiece(text string) string {
	lead := len(text) - len(strings.TrimLeft(text, " \t"))
	if at := strings.IndexAny(text[lead:], " \t"); at >= 0 {
		return text[:lead+at]
	}
	return text
}

// checkFolded holds each fold, and each place without one, against the rule.
func checkFolded(t *testing.T, value string, used int) {
	t.Helper()
	folded := impl.Fold(value, int64(used))
	wantText(t, "Unfold of Fold", value, impl.Unfold(folded), value)
	lines := strings.Split(folded, "\r\n")
	for i, line := range lines {
		if i > 0 {
			used = 0
		}
		if i+1 < len(lines) {
			next := firstPiece(lines[i+1])
			if used+len(line)+len(next) <= 78 || !strings.HasPrefix(next, " ") && !strings.HasPrefix(next, "\t") || !says(next) || !says(line) {
				t.Errorf("Fold of %s from %d: needless: %s", short(value), used, short(folded))
			}
		}
		for at := len(firstPiece(line)); at < len(line); {
			piece := firstPiece(line[at:])
			if used+at+len(piece) > 78 && says(line[:at]) && says(piece) {
				t.Errorf("Fold of %s from %d: one lacks: %s", short(value), used, short(folded))
			}
			at += len(piece)
		}
	}
}

func TestPromise3Folds(t *testing.T) {
	d := &dice{state: 32}
	pieces := []string{" ", " ", "\t", "  ", "a", "bb", xs(8), xs(30), xs(70), "\x00", "\xff", "é", ","}
	for range 20000 {
		checkFolded(t, d.text(d.below(40), pieces), d.below(79))
	}
	for used := range 79 {
		checkFolded(t, d.text(400, pieces), used)
		for size := range 90 {
			checkFolded(t, "a "+xs(size)+" "+xs(size), used)
		}
	}
}

func TestFindFieldValues(t *testing.T) {
	given := fields("To", "1", "X", "2", "TO", "3", "to ", "4", "tO", "", "T-O", "5", "", "6", "a[", "7", "A{", "8")
	for _, c := range []struct {
		name string
		want []string
	}{
		{"to", []string{"1", "3", ""}},
		{"To", []string{"1", "3", ""}},
		{"TO", []string{"1", "3", ""}},
		{"x", []string{"2"}},
		{"t", nil},
		{"too", nil},
		{"to ", []string{"4"}},
		{"t-o", []string{"5"}},
		{"", []string{"6"}},
		// Only letters have two forms.
		{"A[", []string{"7"}},
		{"a{", []string{"8"}},
	} {
		if got := impl.FindField(given, c.name); !slices.Equal(got, c.want) {
			t.Errorf("FindField %q: %q, want %q", c.name, got, c.want)
		}
	}
	letters := fields("k\xc3\xa9", "1", "K\xc3\x89", "2", "\xe2\x84\xaa\xc3\xa9", "3")
	if got := impl.FindField(letters, "K\xc3\xa9"); !slices.Equal(got, []string{"1"}) {
		t.Errorf("FindField of other letters: %q", got)
	}
	if got := impl.FindField(nil, "to"); len(got) != 0 {
		t.Errorf("FindField of none: %q", got)
	}
}

func TestFindFieldLimits(t *testing.T) {
	most := slices.Repeat(fields("A", "b"), maxFields)
	if got := impl.FindField(most, "a"); !slices.Equal(got, slices.Repeat([]string{"b"}, maxFields)) {
		t.Errorf("FindField among 200: %d", len(got))
	}
	if got := impl.FindField(append(most, impl.Field{}), "a"); len(got) != 0 {
		t.Errorf("FindField among 201: %d", len(got))
	}
	for size, want := range map[int]int{maxText: 1, maxText + 1: 0} {
		long := xs(size)
		if got := impl.FindField(fields(long, "v"), long); len(got) != want {
			t.Errorf("FindField of a name of %d: %d", size, len(got))
		}
		if got := impl.FindField(fields("A", long), "a"); len(got) != want {
			t.Errorf("FindField of a value of %d: %d", size, len(got))
		}
		if got := impl.FindField(fields("A", "b", long, "c"), "a"); len(got) != want {
			t.Errorf("FindField beside a field of %d: %d", size, len(got))
		}
	}
}

func tok(kind int64, text string, at int64) impl.Token {
	return impl.Token{Kind: kind, Text: text, At: at}
}

func checkTokens(t *testing.T, value string, want impl.TokenList) {
	t.Helper()
	got := impl.Tokens(value)
	if got.Code != want.Code || got.At != want.At || !slices.Equal(got.Tokens, want.Tokens) {
		t.Errorf("Tokens of %s: %s, want %s", short(value), shown(got), shown(want))
	}
}

func TestTokensOfValues(t *testing.T) {
	for _, c := range []struct {
		value string
		want  []impl.Token
	}{
		{"", nil},
		{" \t ", nil},
		{"\r\n ", nil},
		{" \r\n \r\n\t", nil},
		{"abc", []impl.Token{tok(1, "abc", 0)}},
		{" aZ09 ", []impl.Token{tok(1, "aZ09", 1)}},
		{"a b\tc\r\n d", []impl.Token{tok(1, "a", 0), tok(1, "b", 2), tok(1, "c", 4), tok(1, "d", 8)}},
		{"\r\n a", []impl.Token{tok(1, "a", 3)}},
		{"a\r\n\t", []impl.Token{tok(1, "a", 0)}},
		{"!#$%&'*+-/=?^_{|}~`", []impl.Token{tok(1, "!#$%&'*+-/=?^_{|}~`", 0)}},
		{"\x80\xff\xc3\xa9", []impl.Token{tok(1, "\x80\xff\xc3\xa9", 0)}},
		{"a.b@c", []impl.Token{tok(1, "a", 0), tok(5, ".", 1), tok(1, "b", 2), tok(5, "@", 3), tok(1, "c", 4)}},
		{"<>@,;:.)]\\", []impl.Token{tok(5, "<", 0), tok(5, ">", 1), tok(5, "@", 2), tok(5, ",", 3), tok(5, ";", 4), tok(5, ":", 5), tok(5, ".", 6), tok(5, ")", 7), tok(5, "]", 8), tok(5, "\\", 9)}},
		{"\\\"a\"", []impl.Token{tok(5, "\\", 0), tok(2, "a", 1)}},
		{"..", []impl.Token{tok(5, ".", 0), tok(5, ".", 1)}},
		// Quoted.
		{`""`, []impl.Token{tok(2, "", 0)}},
		{`"a b"`, []impl.Token{tok(2, "a b", 0)}},
		{`a"b"c`, []impl.Token{tok(1, "a", 0), tok(2, "b", 1), tok(1, "c", 4)}},
		{`"a""b"`, []impl.Token{tok(2, "a", 0), tok(2, "b", 3)}},
		{`"\""`, []impl.Token{tok(2, `"`, 0)}},
		{`"\\"`, []impl.Token{tok(2, `\`, 0)}},
		{`"\\\""`, []impl.Token{tok(2, `\"`, 0)}},
		{`"\a\ \(" x`, []impl.Token{tok(2, "a (", 0), tok(1, "x", 9)}},
		{`"([<)"`, []impl.Token{tok(2, "([<)", 0)}},
		{"\"a\r\n b\"", []impl.Token{tok(2, "a b", 0)}},
		{"\"\r\n\t\r\n \"", []impl.Token{tok(2, "\t ", 0)}},
		{"\"\x00\x01\x1f\t\x7f\x80\xff\"", []impl.Token{tok(2, "\x00\x01\x1f\t\x7f\x80\xff", 0)}},
		{"\"\\\x00\\\t\\\xff\"", []impl.Token{tok(2, "\x00\t\xff", 0)}},
		// Literals.
		{"[]", []impl.Token{tok(3, "", 0)}},
		{"[1.2]]", []impl.Token{tok(3, "1.2", 0), tok(5, "]", 5)}},
		{"[a[b]", []impl.Token{tok(3, "a[b", 0)}},
		{`[\]\[\\\"]"x"`, []impl.Token{tok(3, `][\"`, 0), tok(2, "x", 10)}},
		{"[a\r\n b \"(]", []impl.Token{tok(3, "a b \"(", 0)}},
		{"[\x00\x7f]", []impl.Token{tok(3, "\x00\x7f", 0)}},
		// Comments.
		{"()", []impl.Token{tok(4, "", 0)}},
		{"a(b)c", []impl.Token{tok(1, "a", 0), tok(4, "b", 1), tok(1, "c", 4)}},
		{"(a)(b)", []impl.Token{tok(4, "a", 0), tok(4, "b", 3)}},
		{"(a (b) c (d (e)))f", []impl.Token{tok(4, "a (b) c (d (e))", 0), tok(1, "f", 17)}},
		{"(a))", []impl.Token{tok(4, "a", 0), tok(5, ")", 3)}},
		{`(\))`, []impl.Token{tok(4, `\)`, 0)}},
		{`(\()`, []impl.Token{tok(4, `\(`, 0)}},
		{`(\\)`, []impl.Token{tok(4, `\\`, 0)}},
		{`(a "b) c"d"`, []impl.Token{tok(4, `a "b`, 0), tok(1, "c", 7), tok(2, "d", 8)}},
		{"(a\r\n b\r\n\t)", []impl.Token{tok(4, "a\r\n b\r\n\t", 0)}},
		{"(\x00[\x7f\xff)", []impl.Token{tok(4, "\x00[\x7f\xff", 0)}},
		{"(\\\x00)", []impl.Token{tok(4, "\\\x00", 0)}},
	} {
		checkTokens(t, c.value, impl.TokenList{Tokens: c.want})
	}
}

func TestTokensRefuseIllValues(t *testing.T) {
	for _, c := range []struct {
		value string
		at    int64
	}{
		{"\r", 0},
		{"\n", 0},
		{"\r\n", 0},
		{"a\r\n", 1},
		{"a\r\nb", 1},
		{"a\r b", 1},
		{"a\n b", 1},
		{"a\r\n\r\n b", 1},
		{"a \r\n \n", 5},
		{"a\x00b", 1},
		{"a \x7f", 2},
		{"\x1f", 0},
		{"\x0b", 0},
		{`"`, 0},
		{`a "b`, 2},
		{`"a\"`, 0},
		{`"a\`, 0},
		{"x \"a\rb\"", 2},
		{"x \"a\nb\"", 2},
		{"x \"a\r\nb\"", 2},
		{"x \"a\r\n\"", 2},
		{"\"a\r\r\n b\"", 0},
		{"\"a\r\n\n b\"", 0},
		{"\"a\r\n", 0},
		{"\"a\r\n ", 0},
		{"\"a\\\r\n b\"", 0},
		{"\"a\\\r b\"", 0},
		{"\"a\\\n b\"", 0},
		{"[", 0},
		{"a[b", 1},
		{`[\]`, 0},
		{`[\`, 0},
		{"[a\r]", 0},
		{"[a\n]", 0},
		{"[a\r\n]", 0},
		{"[a\\\r\n ]", 0},
		{"[a\\\n ]", 0},
		{"(", 0},
		{"a (b", 2},
		{"a (b (c)", 2},
		{`(\)`, 0},
		{`(\`, 0},
		{"(a\r)", 0},
		{"(a\n)", 0},
		{"(a\r\n)", 0},
		{"(a (b\r\nc))", 0},
		{"(a\\\r\n )", 0},
		{"(a\\\n )", 0},
		// The first ill one is told.
		{"\x01 \x02", 0},
		{"a \x01 \"", 2},
		{"a (b \x01", 2},
	} {
		checkTokens(t, c.value, impl.TokenList{Code: impl.ErrSyntax, At: c.at})
	}
}

func TestTokensOfEachByte(t *testing.T) {
	const letters = "abcdefghijklmnopqrstuvwxyzABCDEFGHIJKLMNOPQRSTUVWXYZ0123456789"
	for b := range 256 {
		text := string([]byte{byte(b)})
		x := tok(1, "x", 0)
		switch {
		case b >= 128 || strings.Contains(letters+"!#$%&'*+-/=?^_{|}~`", text):
			checkTokens(t, "x"+text+"y", impl.TokenList{Tokens: []impl.Token{tok(1, "x"+text+"y", 0)}})
		case strings.Contains("<>@,;:.)]\\", text):
			checkTokens(t, "x"+text+"y", impl.TokenList{Tokens: []impl.Token{x, tok(5, text, 1), tok(1, "y", 2)}})
		case b == ' ' || b == '\t':
			checkTokens(t, "x"+text+"y", impl.TokenList{Tokens: []impl.Token{x, tok(1, "y", 2)}})
		default:
			checkTokens(t, "x"+text+"y", impl.TokenList{Code: impl.ErrSyntax, At: 1})
		}
	}
}

func nested(depth int, inner string) string {
	return strings.Repeat("(", depth) + inner + strings.Repeat(")", depth)
}

func TestTokensNest(t *testing.T) {
	checkTokens(t, "a "+nested(maxNest, "x"), impl.TokenList{Tokens: []impl.Token{tok(1, "a", 0), tok(4, nested(maxNest-1, "x"), 2)}})
	checkTokens(t, "a "+nested(maxNest+1, "x"), impl.TokenList{Code: impl.ErrSyntax, At: 2})
	checkTokens(t, "a "+nested(maxNest, "\\("), impl.TokenList{Tokens: []impl.Token{tok(1, "a", 0), tok(4, nested(maxNest-1, "\\("), 2)}})
	// The depth counts, not how many there are.
	wide := nested(maxNest-1, "()()") + nested(maxNest, "")
	checkTokens(t, wide, impl.TokenList{Tokens: []impl.Token{tok(4, nested(maxNest-2, "()()"), 0), tok(4, nested(maxNest-1, ""), 42)}})
	checkTokens(t, "("+nested(maxNest-1, "")+nested(maxNest-1, "")+")", impl.TokenList{Tokens: []impl.Token{tok(4, nested(maxNest-1, "")+nested(maxNest-1, ""), 0)}})
	checkTokens(t, "("+nested(maxNest-1, "")+nested(maxNest, "")+")", impl.TokenList{Code: impl.ErrSyntax})
	checkTokens(t, nested(maxText/2, ""), impl.TokenList{Code: impl.ErrSyntax})
}

func TestTokensCount(t *testing.T) {
	value := strings.Repeat("a ", maxTokens)
	var most []impl.Token
	for i := range int64(maxTokens) {
		most = append(most, tok(1, "a", 2*i))
	}
	size := int64(len(value))
	checkTokens(t, value, impl.TokenList{Tokens: most})
	checkTokens(t, value+" \r\n ", impl.TokenList{Tokens: most})
	for _, more := range []string{"a", "\"\"", "(c)", ".", "a b c", "a."} {
		checkTokens(t, value+more, impl.TokenList{Code: impl.ErrCount, At: size})
		checkTokens(t, value+" \r\n "+more, impl.TokenList{Code: impl.ErrCount, At: size + 4})
	}
	// An ill text is the fault that is told first, too, where there are too many.
	checkTokens(t, value+"(", impl.TokenList{Code: impl.ErrSyntax, At: size})
	checkTokens(t, value+"\x01", impl.TokenList{Code: impl.ErrSyntax, At: size})
	checkTokens(t, value+"a b \"", impl.TokenList{Code: impl.ErrSyntax, At: size + 4})
	comments := strings.Repeat("()", maxTokens)
	checkTokens(t, comments+"()", impl.TokenList{Code: impl.ErrCount, At: size})
}

func TestTokensLengths(t *testing.T) {
	most, over := xs(maxText), xs(maxText+1)
	checkTokens(t, most, impl.TokenList{Tokens: []impl.Token{tok(1, most, 0)}})
	checkTokens(t, over, impl.TokenList{Code: impl.ErrSize})
	checkTokens(t, "\x01"+most, impl.TokenList{Code: impl.ErrSize})
	inner := most[:maxText-2]
	checkTokens(t, "\""+inner+"\"", impl.TokenList{Tokens: []impl.Token{tok(2, inner, 0)}})
	checkTokens(t, "["+inner+"]", impl.TokenList{Tokens: []impl.Token{tok(3, inner, 0)}})
	checkTokens(t, "("+inner+")", impl.TokenList{Tokens: []impl.Token{tok(4, inner, 0)}})
	checkTokens(t, strings.Repeat(" ", maxText), impl.TokenList{})
}

// comment is what stands in one, with comments in it up to a depth.
func (d *dice) comment(depth int) string {
	text := d.text(d.below(5), []string{"a", " ", "\\)", "\\(", "\\\\", "\r\n ", "\"", "[", "]", "\xff", "\x00"})
	for depth > 0 && d.below(2) == 0 {
		text += "(" + d.comment(depth-1) + ")" + d.text(1, []string{"", "b", "\\x"})
	}
	return text
}

// token is one as it is written, and as it is read at a place.
func (d *dice) token(at int) (written string, token impl.Token) {
	inner := d.text(d.below(5), []string{"a", " ", "\t", ".", "é", "\xff", "\x00", "\x7f", "(", ")", "[", "]", "\"", "\\", "@"})
	kind := int64(1 + d.below(5))
	text := inner
	switch kind {
	case impl.TokAtom:
		text = d.text(1+d.below(4), []string{"a", "Z", "0", "`", "~", "\x80", "é", "="})
		written = text
	case impl.TokSpecial:
		text = d.text(1, []string{"<", ">", "@", ",", ";", ":", ".", ")", "]", "\\"})
		written = text
	case impl.TokQuoted:
		written = `"` + strings.NewReplacer(`"`, `\"`, `\`, `\\`, "a", "\\a", ".", "\r\n\t.").Replace(inner) + `"`
		text = strings.ReplaceAll(inner, ".", "\t.")
	case impl.TokLiteral:
		written = `[` + strings.NewReplacer(`]`, `\]`, `\`, `\\`, ".", "\r\n .").Replace(inner) + `]`
		text = strings.ReplaceAll(inner, ".", " .")
	case impl.TokComment:
		text = d.comment(3)
		written = "(" + text + ")"
	}
	return written, tok(kind, text, int64(at))
}

func TestTokensAsWritten(t *testing.T) {
	d := &dice{state: 33}
	for range 20000 {
		value := d.text(d.below(2), []string{" ", "\r\n "})
		var want []impl.Token
		for range d.below(6) {
			written, token := d.token(len(value))
			value += written + d.text(1, []string{" ", "\t", "\r\n ", " \r\n\t\r\n "})
			want = append(want, token)
		}
		checkTokens(t, value, impl.TokenList{Tokens: want})
	}
}

func TestPhraseTexts(t *testing.T) {
	for _, c := range [][2]string{
		{"", `""`},
		{"a", "a"},
		{"a b", "a b"},
		{"a b c", "a b c"},
		{"!#$%&'*+-/=?^_{|}~` Z9 \x80\xff é", "!#$%&'*+-/=?^_{|}~` Z9 \x80\xff é"},
		{" ", `" "`},
		{" a", `" a"`},
		{"a ", `"a "`},
		{"a  b", `"a  b"`},
		{"a.b", `"a.b"`},
		{"a, b", `"a, b"`},
		{"a@b", `"a@b"`},
		{"(a)", `"(a)"`},
		{"[a]", `"[a]"`},
		{`"`, `"\""`},
		{`\`, `"\\"`},
		{`a "b\" c`, `"a \"b\\\" c"`},
		{"\xff.", "\"\xff.\""},
		{"a\tb", ""},
		{"\t", ""},
		{"\x00", ""},
		{"a\x1f", ""},
		{"a.\x7f", ""},
		{"a\r\n b", ""},
		{"a\n", ""},
	} {
		wantText(t, "Phrase", c[0], impl.Phrase(c[0]), c[1])
	}
	for b := range 256 {
		text := string([]byte{byte(b)})
		want := text
		switch {
		case b < 32 || b == 127:
			want = ""
		case strings.Contains(" <>@,;:.()[]", text):
			want = `"` + text + `"`
		case b == '"' || b == '\\':
			want = `"\` + text + `"`
		}
		wantText(t, "Phrase", text, impl.Phrase(text), want)
	}
}

func TestPhraseLengths(t *testing.T) {
	most, over := xs(maxText), xs(maxText+1)
	wantText(t, "Phrase", most, impl.Phrase(most), most)
	wantText(t, "Phrase", over, impl.Phrase(over), "")
	quotes := strings.Repeat(`"`, maxText)
	wantText(t, "Phrase", quotes, impl.Phrase(quotes), `"`+strings.Repeat(`\"`, maxText)+`"`)
	wantText(t, "Phrase", quotes+".", impl.Phrase(quotes+"."), "")
}

func TestPhrasesAreRead(t *testing.T) {
	d := &dice{state: 34}
	for range 5000 {
		text := d.text(d.below(8), []string{" ", "a", "B0", ".", "\"", "\\", "(", ")", "[", "é", "\xff", ","})
		list := impl.Tokens(impl.Phrase(text))
		var read []string
		for _, token := range list.Tokens {
			if token.Kind != impl.TokAtom && token.Kind != impl.TokQuoted {
				t.Errorf("Phrase of %q has a token %+v", text, token)
			}
			read = append(read, token.Text)
		}
		wantText(t, "Tokens of Phrase", text, strings.Join(read, " "), text)
	}
}

func TestHeadsAreNewMemory(t *testing.T) {
	text := "Name: value\r\n more\r\nOther : \"quoted\"\r\n\r\nbody"
	for _, field := range impl.ReadHead(text).Fields {
		wantOwnMemory(t, "ReadHead", text, field.Name, field.Value)
	}
	value := "atom \"quoted\" [literal] (comment) ;"
	for _, token := range impl.Tokens(value).Tokens {
		wantOwnMemory(t, "Tokens", value, token.Text)
	}
	wantOwnMemory(t, "Unfold", value, impl.Unfold(value))
	wantOwnMemory(t, "Fold", value, impl.Fold(value, 0), impl.Fold(value, 79))
	phrase := "a phrase"
	wantOwnMemory(t, "Phrase", phrase, impl.Phrase(phrase))
	found := impl.FindField(fields("A", value), "a")
	wantOwnMemory(t, "FindField", value, found...)
	room := fields("A", "b", "C", "d", "E", "f")
	impl.WriteHead(room[:2])
	impl.FindField(room[:2], "a")
	if !slices.Equal(room, fields("A", "b", "C", "d", "E", "f")) {
		t.Errorf("an argument was changed: %v", room)
	}
}

// TestHeadsAreWhatStandsThere has heads without blanks ahead of a colon: nothing of what they are is lost then.
func TestHeadsAreWhatStandsThere(t *testing.T) {
	d := &dice{state: 36}
	read := 0
	for range 20000 {
		text := d.text(d.below(12), []string{"A:", "B:", "\r\n", "\r\n", "\r\n ", "c", "\r", "D: \t"})
		head := impl.ReadHead(text)
		if head.Code != impl.OK {
			continue
		}
		read++
		ended := strings.HasSuffix(text[:head.Body], "\r\n\r\n") || head.Body == 2 && len(head.Fields) == 0
		written := impl.WriteHead(head.Fields)
		if ended && written+"\r\n" != text[:head.Body] || !ended && written != strings.TrimSuffix(text, "\r\n")+"\r\n" && text != "" {
			t.Errorf("ReadHead of %q: %s", text, shown(head))
		}
	}
	if read < 1000 {
		t.Errorf("only %d heads were read", read)
	}
}

func TestHeadsTakeWhateverComes(t *testing.T) {
	d := &dice{state: 35}
	for range 20000 {
		text := d.text(d.below(20), append([]string{"A:", "\x01", ")", "[", "]", "."}, bodyPieces...))
		if h := impl.ReadHead(text); h.Code != 0 && (len(h.Fields) != 0 || h.Body != 0 || h.At > int64(len(text))) {
			t.Errorf("ReadHead of %s: %+v", short(text), h)
		}
		if l := impl.Tokens(text); l.Code != 0 && (len(l.Tokens) != 0 || l.At >= int64(len(text))) {
			t.Errorf("Tokens of %s: %+v", short(text), l)
		}
		impl.Phrase(text)
		impl.Unfold(text)
		impl.Fold(text, int64(d.below(90)-5))
	}
}
