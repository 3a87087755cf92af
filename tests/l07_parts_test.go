package tests

import (
	"fmt"
	"math"
	"slices"
	"strconv"
	"strings"
	"testing"

	"loop.example/g00013/impl"
)

const (
	maxParts    = 200
	maxDeep     = 20
	maxBoundary = 70
	ownFields   = 3
	mixed       = "Content-Type: multipart/mixed; boundary=b\r\n\r\n"
	inMessage   = "Content-Type: message/rfc822\r\n\r\n"
)

func TestPartConstants(t *testing.T) {
	got := []int64{impl.MaxParts, impl.MaxDeep, impl.CodedNone, impl.CodedBase64, impl.CodedQuoted, impl.CodedOther}
	wantNumbers(t, "constants", "", got, []int64{maxParts, maxDeep, 0, 1, 2, 3})
}

// told is each part as a line: its parent, what it is, its coding and children, and its text (that of part 0 is all).
func told(message string, list impl.PartList) []string {
	var lines []string
	for number, p := range list.Parts {
		text := ""
		if number > 0 {
			text = message[p.Head:p.End]
		}
		lines = append(lines, fmt.Sprintf("%d %s/%s %d %d %s", p.Parent, p.Content.Type, p.Content.Sub, p.Coded, p.Children, text))
	}
	return lines
}

func checkTree(t *testing.T, message string, want ...string) {
	t.Helper()
	list := impl.ReadParts(message)
	if list.Code != impl.OK || list.At != 0 {
		t.Errorf("ReadParts of %s: %d, %d", short(message), list.Code, list.At)
		return
	}
	checkPlaces(t, message, list)
	if got := told(message, list); !slices.Equal(got, want) {
		t.Errorf("ReadParts of %s: %q, want %q", short(message), got, want)
	}
}

// checkPlaces is promise 7, and what a part's numbers say of one another.
func checkPlaces(t *testing.T, message string, list impl.PartList) {
	t.Helper()
	ends := make([]int64, len(list.Parts))
	children := make([]int64, len(list.Parts))
	for number, p := range list.Parts {
		head := impl.ReadHead(message[p.Head:p.End])
		if p.Body != p.Head+head.Body || p.Body > p.End {
			t.Errorf("ReadParts of %s: part %d has its body at %d", short(message), number, p.Body)
		}
		ends[number] = p.Body
		if number == 0 {
			wantNumbers(t, "part 0", message, []int64{p.Parent, p.Depth, p.Head, p.End}, []int64{-1, 0, 0, int64(len(message))})
			continue
		}
		if p.Parent < 0 || p.Parent >= int64(number) {
			t.Fatalf("ReadParts of %s: part %d below %d", short(message), number, p.Parent)
		}
		parent := list.Parts[p.Parent]
		if p.Depth != parent.Depth+1 || p.Head < ends[p.Parent] || p.End > parent.End {
			t.Errorf("ReadParts of %s: part %d is %s, its parent %s", short(message), number, shown(p), shown(parent))
		}
		ends[p.Parent] = p.End
		children[p.Parent]++
	}
	for number, p := range list.Parts {
		if p.Children != children[number] {
			t.Errorf("ReadParts of %s: part %d has %d children, %d were told", short(message), number, children[number], p.Children)
		}
	}
}

func TestReadPartsThatAreOne(t *testing.T) {
	for _, c := range [][2]string{
		{"", "-1 text/plain 0 0 "},
		{"\r\n", "-1 text/plain 0 0 "},
		{"\r\nhi", "-1 text/plain 0 0 "},
		{"Subject: x", "-1 text/plain 0 0 "},
		{"Subject: x\r\n\r\n--b\r\n\r\nhi\r\n--b--", "-1 text/plain 0 0 "},
		{"Content-Type: text/html; boundary=b\r\n\r\n--b\r\n\r\nhi\r\n--b--", "-1 text/html 0 0 "},
		{"Content-Type: multipart/mixed\r\n\r\n--b\r\n\r\nhi\r\n--b--", "-1 multipart/mixed 0 0 "},
		{"Content-Type: multipart/mixed; boundary*0*=b; boundary*2=c\r\n\r\n--c\r\n\r\nhi", "-1 multipart/mixed 0 0 "},
		{"Content-Type: multiparts/mixed; boundary=b\r\n\r\n--b\r\n", "-1 multiparts/mixed 0 0 "},
		{"Content-Type: message/external; boundary=b\r\n\r\n--b\r\n", "-1 message/external 0 0 "},
		{"Content-Type: text/rfc822\r\n\r\n--b\r\n", "-1 text/rfc822 0 0 "},
	} {
		checkTree(t, c[0], c[1])
	}
	list := impl.ReadParts("A: b\r\n\r\nhi")
	if p := list.Parts[0]; p.Body != 8 || p.End != 10 {
		t.Errorf("%s", shown(p))
	}
}

func TestReadPartsRefuses(t *testing.T) {
	many := strings.Repeat("A: b\r\n", maxFields)
	for _, c := range []struct {
		message  string
		code, at int64
	}{
		{"x", impl.ErrSyntax, 0}, {"A: b\r\nx\r\n\r\n", impl.ErrSyntax, 6}, {" A: b", impl.ErrSyntax, 0}, {"A: b\nc", impl.ErrSyntax, 0}, {"A: b\r\n\n", impl.ErrSyntax, 6},
		{many + "A: b\r\n\r\nhi", impl.ErrCount, int64(len(many))},
		{"Content-Type: multipart/mixed; boundary=b\r\n--b\r\n\r\n--b", impl.ErrSyntax, 43},
		{xs(maxText + 1), impl.ErrSize, 0}, {"A: b\r\n\r\n" + xs(maxText-7), impl.ErrSize, 0}, {mixed + strings.Repeat("--b\r\n", maxText), impl.ErrSize, 0},
	} {
		list := impl.ReadParts(c.message)
		if list.Code != c.code || list.At != c.at || len(list.Parts) > 0 {
			t.Errorf("ReadParts of %s: %s, want %d at %d", short(c.message), shown(list), c.code, c.at)
		}
	}
	checkTree(t, many+"\r\nhi", "-1 text/plain 0 0 ")
	checkTree(t, "A: b\r\n\r\n"+xs(maxText-8), "-1 text/plain 0 0 ")
}

func TestReadMultiparts(t *testing.T) {
	top := func(children int) string { return fmt.Sprintf("-1 multipart/mixed 0 %d ", children) }
	for _, c := range []struct {
		body  string
		texts []string
	}{
		// No child.
		{"", nil}, {"hi", nil}, {"--b--", nil}, {"--b--\r\n", nil}, {"--b--\r\n--b\r\n\r\nhi\r\n--b--", nil}, {"hi\r\n--b-- \r\n--b", nil}, {"--", nil}, {"--bb", nil}, {"-b", nil}, {"b", nil}, {" --b", nil}, {"--B", nil}, {"--b\n", nil}, {"x--b\r\n", nil}, {"\n--b\r\n", nil}, {"\r--b\r\n", nil}, {"--b-", nil}, {"--b -", nil}, {"--b --", nil}, {"--b---", nil}, {"--b--x", nil}, {"--b-- x", nil}, {"--b x", nil}, {"--\r\nb", nil},
		// At the very beginning, and at the very end.
		{"--b", []string{""}}, {"--b\r\n", []string{""}}, {"--b\r\n--b--", []string{""}}, {"--b\r\n\r\n--b--", []string{""}}, {"--b\r\n\r\n\r\n--b--", []string{"\r\n"}}, {"hi\r\n--b", []string{""}}, {"--b\r\n\r\nhi\r\n--b", []string{"\r\nhi", ""}}, {"--b\r\n\r\nhi\r\n--b\t", []string{"\r\nhi", ""}}, {"--b\r\n\r\nhi\r\n--b\r\n", []string{"\r\nhi", ""}},
		// One behind the other.
		{"--b\r\n--b", []string{"", ""}}, {"--b\r\n--b\r\n--b\r\n--b--", []string{"", "", ""}}, {"--b\r\n\r\n--b\r\n\r\n", []string{"", "\r\n"}}, {"--b\r\n--b\r\nA: c", []string{"", "A: c"}},
		// Blanks behind them.
		{"--b \r\n\r\nhi\r\n--b\t \r\n\r\nho\r\n--b-- \t\r\n--b", []string{"\r\nhi", "\r\nho"}}, {"--b \r\n--b--\t", []string{""}}, {"--b   ", []string{""}},
		// Texts ahead and behind.
		{"pre\r\n\r\npre\r\n--b\r\n\r\nhi\r\n--b--\r\nepi\r\n--b\r\n--b--", []string{"\r\nhi"}}, {"pre\r\n--b--\r\n--b", nil}, {"\r\n\r\n--b\r\n\r\nhi\r\n--b--epi\r\n--b--", []string{"\r\nhi\r\n--b--epi"}},
		// No end.
		{"--b\r\n\r\nhi", []string{"\r\nhi"}}, {"--b\r\n\r\nhi\r\n", []string{"\r\nhi\r\n"}}, {"--b\r\n\r\nhi\r\n--b\r\n\r\nho", []string{"\r\nhi", "\r\nho"}}, {"--b\r\n\r\nhi\r\n--b\r\n\r\nho\r\n--b -", []string{"\r\nhi", "\r\nho\r\n--b -"}},
		// Line ends alone end lines, and just one of them is left out.
		{"--b\r\n\r\nhi\r\r\n--b--", []string{"\r\nhi\r"}}, {"--b\r\n\r\nhi\n\r\n--b--", []string{"\r\nhi\n"}}, {"--b\r\n\r\nhi\n--b--\r\n--b--", []string{"\r\nhi\n--b--"}}, {"--b\r\n\r\nhi\r\n\r\n--b--", []string{"\r\nhi\r\n"}}, {"--b\r\n\r\nhi\r--b--", []string{"\r\nhi\r--b--"}}, {"--b\r\n\r\nhi\r\n--b--\r", []string{"\r\nhi\r\n--b--\r"}},
		// Lines that are none.
		{"--b\r\n\r\n--bc\r\n-- b\r\n --b\r\n--B\r\n--b-\r\n--b -\r\n--b --\r\n--b--c\r\n--b", []string{"\r\n--bc\r\n-- b\r\n --b\r\n--B\r\n--b-\r\n--b -\r\n--b --\r\n--b--c", ""}},
		// Children whose heads are ill.
		{"--b\r\nx\r\n--b\r\n A: c\r\n--b\r\n\n", []string{"x", " A: c", "\n"}}, {"--b\r\nContent-Type: multipart/mixed; boundary=c\r\nx\r\n\r\n--c", []string{"Content-Type: multipart/mixed; boundary=c\r\nx\r\n\r\n--c"}}, {"--b\r\nContent-Transfer-Encoding: base64\r\nx\r\n\r\nYQ==", []string{"Content-Transfer-Encoding: base64\r\nx\r\n\r\nYQ=="}},
	} {
		want := []string{top(len(c.texts))}
		for _, text := range c.texts {
			want = append(want, "0 text/plain 0 0 "+text)
		}
		checkTree(t, mixed+c.body, want...)
	}
}

func TestReadPartsInParts(t *testing.T) {
	inner := "Content-Type: multipart/x; boundary=c\r\n\r\n"
	checkTree(t, mixed+"--b\r\n"+inner+"--c\r\n\r\none\r\n--c\r\n\r\ntwo\r\n--c--\r\n--b\r\n\r\nthree\r\n--b--",
		"-1 multipart/mixed 0 2 ", "0 multipart/x 0 2 "+inner+"--c\r\n\r\none\r\n--c\r\n\r\ntwo\r\n--c--", "1 text/plain 0 0 \r\none", "1 text/plain 0 0 \r\ntwo", "0 text/plain 0 0 \r\nthree")
	// The inner one has no end, or lies in one whose line would be its own.
	checkTree(t, mixed+"--b\r\n"+inner+"--c\r\n\r\none\r\n--c\r\n\r\ntwo\r\n--b--\r\n--c--",
		"-1 multipart/mixed 0 1 ", "0 multipart/x 0 2 "+inner+"--c\r\n\r\none\r\n--c\r\n\r\ntwo", "1 text/plain 0 0 \r\none", "1 text/plain 0 0 \r\ntwo")
	checkTree(t, mixed+"--b\r\n"+inner+"--c\r\n--b\r\n\r\n--c\r\n--b--",
		"-1 multipart/mixed 0 2 ", "0 multipart/x 0 1 "+inner+"--c", "1 text/plain 0 0 ", "0 text/plain 0 0 \r\n--c")
	checkTree(t, mixed+"--b\r\n"+mixed+"--b\r\n\r\none\r\n--b--\r\n--b--",
		"-1 multipart/mixed 0 2 ", "0 multipart/mixed 0 0 "+mixed[:len(mixed)-2], "0 text/plain 0 0 \r\none")
	// One boundary is the beginning of the other one.
	for _, longer := range []string{"bb", "b-", "b--", "b--x", "b x"} {
		inner := "Content-Type: multipart/x; boundary=\"" + longer + "\"\r\n\r\n"
		first := "--" + longer + "\r\n\r\none"
		if longer == "b--" {
			checkTree(t, mixed+"--b\r\n"+inner+first+"\r\n--b", "-1 multipart/mixed 0 1 ", "0 multipart/x 0 0 "+inner[:len(inner)-2])
			continue
		}
		checkTree(t, mixed+"--b\r\n"+inner+first+"\r\n--b\r\n\r\ntwo", "-1 multipart/mixed 0 2 ", "0 multipart/x 0 1 "+inner+first, "1 text/plain 0 0 \r\none", "0 text/plain 0 0 \r\ntwo")
		outer := strings.Replace(mixed, "=b", "=\""+longer+"\"", 1)
		checkTree(t, outer+"--"+longer+"\r\n"+mixed+"--b\r\n\r\none\r\n--"+longer+"\r\n\r\ntwo", "-1 multipart/mixed 0 2 ", "0 multipart/mixed 0 1 "+mixed+"--b\r\n\r\none", "1 text/plain 0 0 \r\none", "0 text/plain 0 0 \r\ntwo")
	}
}

func TestBoundaries(t *testing.T) {
	for _, c := range []struct {
		written, said string
		good          bool
	}{
		{"b", "b", true}, {"\"\"", "", false}, {"\" \"", " ", false}, {"\"b \"", "b ", false}, {"\"b\\\t\"", "b\t", false}, {"\" b\"", " b", true}, {"\"a b\"", "a b", true}, {"\"--\"", "--", true}, {"-", "-", true}, {"\"=_0\"", "=_0", true}, {"é", "é", true},
		{xs(maxBoundary), xs(maxBoundary), true}, {xs(maxBoundary + 1), xs(maxBoundary + 1), false}, {"\"" + xs(maxBoundary) + " \"", xs(maxBoundary) + " ", false}, {"\"" + xs(maxBoundary-1) + " \"", xs(maxBoundary-1) + " ", false}, {"\"" + strings.Repeat(" ", maxBoundary-1) + "b\"", strings.Repeat(" ", maxBoundary-1) + "b", true},
	} {
		message := "Content-Type: multipart/mixed; boundary=" + c.written + "\r\n\r\n--" + c.said + "\r\n\r\none\r\n--" + c.said + "\r\n\r\ntwo\r\n--" + c.said + "--\r\n\r\nepi"
		if c.good {
			checkTree(t, message, "-1 multipart/mixed 0 2 ", "0 text/plain 0 0 \r\none", "0 text/plain 0 0 \r\ntwo")
		} else {
			checkTree(t, message, "-1 multipart/mixed 0 0 ")
		}
	}
	// Half of a line end may stand in one, a whole one cannot be found in a line.
	coded := "Content-Type: multipart/mixed; boundary*=utf-8''"
	checkTree(t, coded+"b%0D\r\n\r\n--b\r\r\n\r\none\r\n--b\r\n\r\n--b\r--", "-1 multipart/mixed 0 1 ", "0 text/plain 0 0 \r\none\r\n--b\r\n")
	checkTree(t, coded+"b%0D%0Ac\r\n\r\n--b\r\nc\r\n\r\none", "-1 multipart/mixed 0 0 ")
	checkTree(t, coded+"%0Ab\r\n\r\n--\nb\r\n\r\none", "-1 multipart/mixed 0 1 ", "0 text/plain 0 0 \r\none")
	checkTree(t, coded+"b%20\r\n\r\n--b \r\n\r\none", "-1 multipart/mixed 0 0 ")
}

// levels is a message with so many parts below one another, of which all but the last have one child.
func levels(count int, inner string) string {
	if count == 0 {
		return inner
	}
	boundary := "b" + strconv.Itoa(count) + "x"
	return "Content-Type: multipart/mixed; boundary=" + boundary + "\r\n\r\n--" + boundary + "\r\n" + levels(count-1, inner) + "\r\n--" + boundary + "--"
}

func checkDeep(t *testing.T, message string, count int) {
	t.Helper()
	list := impl.ReadParts(message)
	checkPlaces(t, message, list)
	if list.Code != impl.OK || len(list.Parts) != count {
		t.Errorf("%d parts, want %d: %s", len(list.Parts), count, short(message))
		return
	}
	for number, p := range list.Parts {
		if p.Depth != int64(number) {
			t.Errorf("part %d of %s has the depth %d", number, short(message), p.Depth)
		}
	}
}

func TestDepthOfParts(t *testing.T) {
	for count := range 30 {
		want := min(count, maxDeep) + 1
		checkDeep(t, levels(count, "\r\nhi"), want)
		checkDeep(t, strings.Repeat(inMessage, count)+"\r\nhi", want)
		checkDeep(t, levels(count, inMessage+"\r\nhi"), min(count+1, maxDeep)+1)
		checkDeep(t, strings.Repeat(inMessage, count)+levels(1, "\r\nhi"), min(count+1, maxDeep)+1)
	}
	// What is too deep is a part without children, with all its text.
	for _, message := range []string{levels(maxDeep+1, "\r\nhi"), strings.Repeat(inMessage, maxDeep+1) + "\r\nhi"} {
		last := impl.ReadParts(message).Parts[maxDeep]
		data := impl.PartData(message, maxDeep)
		if last.Children != 0 || !data.Good || data.Data != message[last.Body:last.End] || !strings.Contains(data.Data, "hi") {
			t.Errorf("%s: %s", shown(last), shown(data))
		}
	}
}

func TestCountOfParts(t *testing.T) {
	tooMany := func(message string) {
		t.Helper()
		list := impl.ReadParts(message)
		if list.Code != impl.ErrCount || list.At != 0 || len(list.Parts) > 0 {
			t.Errorf("ReadParts of %s: %d at %d, %d parts", short(message), list.Code, list.At, len(list.Parts))
		}
		if impl.PartData(message, 1).Good || impl.PartText(message, 1).Good {
			t.Errorf("there is a part of %s", short(message))
		}
	}
	many := func(message string, count int) {
		t.Helper()
		list := impl.ReadParts(message)
		checkPlaces(t, message, list)
		if list.Code != impl.OK || len(list.Parts) != count {
			t.Errorf("ReadParts of %s: %d, %d parts, want %d", short(message), list.Code, len(list.Parts), count)
		}
	}
	marks := func(mark string, count int) string { return strings.Repeat("--"+mark+"\r\n", count) }
	for count := range 5 {
		many(mixed+marks("b", count), count+1)
	}
	many(mixed+marks("b", maxParts-1), maxParts)
	tooMany(mixed + marks("b", maxParts))
	tooMany(mixed + marks("b", (maxText-len(mixed))/5))
	inner := "--b\r\nContent-Type: multipart/x; boundary=c\r\n\r\n"
	many(mixed+inner+marks("c", maxParts/2)+inner+marks("c", maxParts/2-3), maxParts)
	tooMany(mixed + inner + marks("c", maxParts/2) + inner + marks("c", maxParts/2-2))
	// One too much deep within, with others to come.
	tooMany(mixed + inner + marks("c", maxParts) + "--b\r\n\r\nhi\r\n--b\r\n\r\nho")
	tooMany(levels(3, mixed+marks("b", maxParts)+"--b--") + "\r\n--b3x\r\n\r\nhi")
	tooMany(mixed + "--b\r\n" + inMessage + "Content-Type: multipart/x; boundary=c\r\n\r\n" + marks("c", maxParts) + "--b\r\n\r\nhi")
	many(mixed+strings.Repeat("--b\r\n"+inMessage+"\r\nhi\r\n", 99)+"--b", maxParts)
	tooMany(mixed + strings.Repeat("--b\r\n"+inMessage+"\r\nhi\r\n", 99) + "--b\r\n" + inMessage)
	many(inMessage+mixed+marks("b", maxParts-2), maxParts)
	tooMany(inMessage + mixed + marks("b", maxParts-1))
	// What does not count is not counted.
	many(mixed+"--b--\r\n"+marks("b", maxParts), 1)
	// A fault of the head comes ahead.
	if list := impl.ReadParts("x\r\n" + mixed + marks("b", maxParts)); list.Code != impl.ErrSyntax {
		t.Errorf("%d", list.Code)
	}
}

func TestMessagesInMessages(t *testing.T) {
	checkTree(t, inMessage+"Subject: x\r\n\r\nhi", "-1 message/rfc822 0 1 ", "0 text/plain 0 0 Subject: x\r\n\r\nhi")
	checkTree(t, inMessage+inMessage+"\r\nhi", "-1 message/rfc822 0 1 ", "0 message/rfc822 0 1 "+inMessage+"\r\nhi", "1 text/plain 0 0 \r\nhi")
	checkTree(t, inMessage, "-1 message/rfc822 0 1 ", "0 text/plain 0 0 ")
	checkTree(t, "Content-Type: Message/RFC822; x=y", "-1 message/rfc822 0 1 ", "0 text/plain 0 0 ")
	checkTree(t, inMessage+mixed+"--b\r\n\r\nhi\r\n--b--", "-1 message/rfc822 0 1 ", "0 multipart/mixed 0 1 "+mixed+"--b\r\n\r\nhi\r\n--b--", "1 text/plain 0 0 \r\nhi")
	checkTree(t, mixed+"--b\r\n"+inMessage+"A: c\r\n--b--", "-1 multipart/mixed 0 1 ", "0 message/rfc822 0 1 "+inMessage+"A: c", "1 text/plain 0 0 A: c")
	checkTree(t, mixed+"--b\r\n"+inMessage+"x\r\n--b\r\n"+inMessage+"--b--", "-1 multipart/mixed 0 2 ", "0 message/rfc822 0 0 "+inMessage+"x", "0 message/rfc822 0 1 "+inMessage[:len(inMessage)-2], "2 text/plain 0 0 ")
	// A head that is ill, or has too many fields.
	many := strings.Repeat("A: b\r\n", maxFields)
	checkTree(t, inMessage+"x", "-1 message/rfc822 0 0 ")
	checkTree(t, inMessage+"A: b\r\n\n", "-1 message/rfc822 0 0 ")
	checkTree(t, inMessage+many+"A: b", "-1 message/rfc822 0 0 ")
	checkTree(t, inMessage+many, "-1 message/rfc822 0 1 ", "0 text/plain 0 0 "+many)
	if data := impl.PartData(inMessage+"x", 0); data != good("x") {
		t.Errorf("%v", data)
	}
	// Coded ones, and others.
	for coding, coded := range map[string]int64{"7bit": 0, "8BIT": 0, "binary": 0, "base64": 1, "quoted-printable": 2, "x": 3} {
		message := "Content-Transfer-Encoding: " + coding + "\r\n" + inMessage + "A: b\r\n\r\nhi"
		outer := fmt.Sprintf("-1 message/rfc822 %d ", coded)
		if coded == 0 {
			checkTree(t, message, outer+"1 ", "0 text/plain 0 0 A: b\r\n\r\nhi")
		} else {
			checkTree(t, message, outer+"0 ")
		}
		message = "Content-Transfer-Encoding: " + coding + "\r\n" + mixed + "--b\r\n\r\nhi"
		outer = fmt.Sprintf("-1 multipart/mixed %d ", coded)
		if coded == 0 {
			checkTree(t, message, outer+"1 ", "0 text/plain 0 0 \r\nhi")
		} else {
			checkTree(t, message, outer+"0 ")
		}
	}
}

func TestContentsOfParts(t *testing.T) {
	plain := content("text", "plain")
	for _, c := range []struct {
		head string
		want impl.Content
	}{
		{"", plain}, {"A: b\r\n", plain}, {"Content-Type: text/html\r\n", content("text", "html")}, {"content-TYPE : Text/HTML; Charset=X\r\n", content("text", "html", "charset", "X")}, {"Content-Type:\r\n a/b;\r\n\tx=\"y\r\n z\"\r\n", content("a", "b", "x", "y z")},
		// Ill ones, and those without sub type.
		{"Content-Type:\r\n", plain}, {"Content-Type: \r\n", plain}, {"Content-Type: text/\r\n", plain}, {"Content-Type: text/html; x\r\n", plain}, {"Content-Type: text/html \"\r\n", plain}, {"Content-Type: text\r\n", plain}, {"Content-Type: html; charset=utf-8\r\n", plain}, {"Content-Type: multipart; boundary=b\r\n", plain}, {"Content-Type: a/b\x00\r\n", plain}, {"Content-Type: a/b" + strings.Repeat("(c)", maxTokens) + "\r\n", plain},
		// Two of them: the first one counts, whatever it is.
		{"Content-Type: a/b\r\nContent-Type: c/d\r\n", content("a", "b")}, {"Content-Type: a/b/c\r\nContent-Type: c/d\r\n", plain}, {"Content-Type: a\r\nContent-Type: c/d\r\n", plain}, {"content-type: a/b; x=1\r\nX: y\r\nCONTENT-TYPE: c/d\r\n", content("a", "b", "x", "1")},
		// Other fields.
		{"Content: a/b\r\n", plain}, {"Content-Types: a/b\r\n", plain}, {"X-Content-Type: a/b\r\n", plain},
	} {
		for _, message := range []string{c.head, c.head + "\r\nhi", "\r\n", mixed + "--b\r\n" + c.head + "\r\nhi"} {
			list := impl.ReadParts(message)
			last := list.Parts[len(list.Parts)-1]
			want := c.want
			if message == "\r\n" {
				want = plain
			}
			if !sameContent(last.Content, want) {
				t.Errorf("ReadParts of %s: %s, want %s", short(message), shown(last.Content), shown(want))
			}
		}
	}
	// A multipart has all its parameters.
	list := impl.ReadParts("Content-Type: multipart/mixed; x=y; boundary=b; z=w\r\n\r\n--b")
	if len(list.Parts) != 2 || !sameContent(list.Parts[0].Content, content("multipart", "mixed", "x", "y", "boundary", "b", "z", "w")) {
		t.Errorf("%s", shown(list))
	}
}

func TestCodingsOfParts(t *testing.T) {
	field := "Content-Transfer-Encoding:"
	for _, c := range []struct {
		head string
		want int64
	}{
		{"", 0}, {field + "7bit", 0}, {field + " 8bit", 0}, {field + " binary", 0}, {field + " base64", 1}, {field + " quoted-printable", 2},
		{field + "base64", 1}, {field + " \t BASE64 \t", 1}, {field + "\tBase64", 1}, {field + " Quoted-Printable ", 2}, {field + "QUOTED-PRINTABLE", 2}, {field + " 7BIT ", 0}, {field + " 8Bit\t", 0}, {field + " BINARY", 0}, {"content-transfer-encoding : base64", 1}, {"CONTENT-TRANSFER-ENCODING: base64", 1},
		{field, 3}, {field + " ", 3}, {field + " base", 3}, {field + " base 64", 3}, {field + " base64;", 3}, {field + " \"base64\"", 3}, {field + " base64 (c)", 3}, {field + " base-64", 3}, {field + " quoted", 3}, {field + " quotedprintable", 3}, {field + " 9bit", 3}, {field + " x-uuencode", 3}, {field + " base64\x00", 3}, {field + " none", 3}, {field + " b\u0430se64", 3},
		// A line end is no blank.
		{field + "\r\n base64", 3}, {field + " base64\r\n ", 3},
		{field + " base64\r\n" + field + " quoted-printable", 1}, {field + " x\r\n" + field + " base64", 3}, {field + " 7bit\r\n" + field + " base64", 0},
		{"Content-Encoding: base64", 0}, {"Content-Transfer-Encodings: base64", 0}, {"Transfer-Encoding: base64", 0},
	} {
		for _, message := range []string{c.head, c.head + "\r\n\r\nhi", "Content-Type: a/b\r\n" + c.head, mixed + "--b\r\nX: y\r\n" + c.head + "\r\n\r\nhi"} {
			list := impl.ReadParts(message)
			if last := list.Parts[len(list.Parts)-1]; last.Coded != c.want {
				t.Errorf("ReadParts of %s: coded %d, want %d", short(message), last.Coded, c.want)
			}
		}
	}
}

func TestPartDataTexts(t *testing.T) {
	coded := func(coding, body string) string { return "Content-Transfer-Encoding: " + coding + "\r\n\r\n" + body }
	two := mixed + "pre\r\n--b\r\n\r\none\r\n--b\r\n" + coded("base64", "YWI=\r\n") + "\r\n--b\r\n" + coded("quoted-printable", "a=3Db=\r\n c \r\nd") + "\r\n--b\r\nx\r\n--b--\r\nepi"
	for _, c := range []struct {
		message string
		part    int64
		want    impl.Bytes
	}{
		{"", 0, good("")}, {"A: b", 0, good("")}, {"\r\nhi", 0, good("hi")}, {"\r\n\x00\xff\r\n", 0, good("\x00\xff\r\n")}, {two, 1, good("one")}, {two, 2, good("ab")}, {two, 3, good("a=b c\r\nd")}, {two, 4, good("x")},
		{coded("base64", "YQ=="), 0, good("a")}, {coded("base64", ""), 0, good("")}, {coded("BASE64", "\r\n YQ\r\n=="), 0, good("a")}, {coded("quoted-printable", "=C3=a9"), 0, good("é")}, {coded("7bit", "=41"), 0, good("=41")}, {coded("8bit", "YQ=="), 0, good("YQ==")}, {coded("binary", "YQ=="), 0, good("YQ==")},
		// One that is not there, or has children.
		{two, 0, impl.Bytes{}}, {two, 5, impl.Bytes{}}, {two, -1, impl.Bytes{}}, {two, math.MaxInt64, impl.Bytes{}}, {two, math.MinInt64, impl.Bytes{}}, {"\r\nhi", 1, impl.Bytes{}}, {"\r\nhi", -1, impl.Bytes{}}, {"x", 0, impl.Bytes{}}, {"x", -1, impl.Bytes{}}, {inMessage + "A: b", 0, impl.Bytes{}}, {inMessage + "\r\nhi", 1, good("hi")},
		// One that cannot be taken.
		{coded("base64", "YQ="), 0, impl.Bytes{}}, {coded("base64", "Y"), 0, impl.Bytes{}}, {coded("base64", "YR=="), 0, impl.Bytes{}}, {coded("base64", "!!!!"), 0, impl.Bytes{}}, {coded("quoted-printable", "=4"), 0, impl.Bytes{}}, {coded("quoted-printable", "a=xx"), 0, impl.Bytes{}}, {coded("x", "YQ=="), 0, impl.Bytes{}}, {coded("", ""), 0, impl.Bytes{}},
		// Those that would be parents, but have no child.
		{mixed + "hi", 0, good("hi")}, {mixed + "--b--\r\nhi", 0, good("--b--\r\nhi")}, {inMessage + "x", 0, good("x")}, {"Content-Transfer-Encoding: base64\r\n" + inMessage + "QTogYg==", 0, good("A: b")}, {"Content-Transfer-Encoding: base64\r\n" + mixed + "--b", 0, impl.Bytes{}}, {"Content-Transfer-Encoding: quoted-printable\r\n" + mixed + "--b=\r\n--", 0, good("--b--")},
	} {
		if got := impl.PartData(c.message, c.part); got != c.want {
			t.Errorf("PartData of %s, %d: %v, want %v", short(c.message), c.part, got, c.want)
		}
	}
}

func TestPartTextTexts(t *testing.T) {
	text := func(kind, body string) string { return "Content-Type: " + kind + "\r\n\r\n" + body }
	points := func(points ...int64) impl.Points { return impl.Points{Good: true, Points: points} }
	base64 := "Content-Transfer-Encoding: base64\r\n"
	for _, c := range []struct {
		message string
		part    int64
		want    impl.Points
	}{
		{"", 0, points()}, {"\r\nhi", 0, points(104, 105)}, {"Content-Type: text\r\n\r\nhi", 0, points(104, 105)}, {text("text/plain", "hi\r\n"), 0, points(104, 105, 13, 10)}, {text("text/html", "hi"), 0, points(104, 105)}, {text("TEXT/x", "hi"), 0, points(104, 105)},
		// Without a charset, and with each one.
		{"\r\n\x7f", 0, points(127)}, {"\r\na\x80", 0, impl.Points{At: 1}}, {text("text/plain", "aé"), 0, impl.Points{At: 1}}, {text("text/plain; charset=us-ascii", "ab\xe9"), 0, impl.Points{At: 2}}, {text("text/plain; charset=latin1", "\xe9"), 0, points(233)}, {text("text/plain; charset=\"ISO-8859-15\"", "\xa4"), 0, points(8364)}, {text("text/plain; charset=UTF-8", "é€"), 0, points(233, 8364)}, {text("text/plain; Charset=utf-8", "é\xff"), 0, impl.Points{At: 2}}, {text("text/plain; charset=utf-16be", "\x00a\x20\xac"), 0, points(97, 8364)}, {text("text/plain; x=y; charset*0=lat; charset*1=in1", "\xe9"), 0, points(233)},
		{base64 + text("text/plain; charset=utf-8", "w6k="), 0, points(233)}, {"Content-Transfer-Encoding: quoted-printable\r\n" + text("text/plain; charset=utf-8", "=C3=A9="), 0, points(233)},
		// One that is none.
		{text("text/plain; charset=x", "hi"), 0, impl.Points{}}, {text("text/plain; charset=x", ""), 0, impl.Points{}}, {text("text/plain; charset=\"\"", "hi"), 0, impl.Points{}}, {text("text/plain; charset=\" utf-8\"", "hi"), 0, impl.Points{}}, {text("text/plain; charset=utf-16", "hi"), 0, impl.Points{}},
		// No text, none that is there, none that can be taken.
		{text("image/png", "hi"), 0, impl.Points{}}, {text("texts/plain; charset=utf-8", "hi"), 0, impl.Points{}}, {mixed + "hi", 0, impl.Points{}}, {inMessage + "x", 0, impl.Points{}}, {mixed + "--b\r\n\r\nhi", 0, impl.Points{}}, {mixed + "--b\r\n\r\nhi", 1, points(104, 105)}, {mixed + "--b\r\n\r\nhi", 2, impl.Points{}}, {"\r\nhi", 1, impl.Points{}}, {"\r\nhi", -1, impl.Points{}}, {"\r\nhi", math.MinInt64, impl.Points{}}, {"\r\nhi", math.MaxInt64, impl.Points{}}, {"x", 0, impl.Points{}},
		{base64 + "\r\nYQ", 0, impl.Points{}}, {base64 + text("text/plain; charset=latin1", "!"), 0, impl.Points{}}, {"Content-Transfer-Encoding: x\r\n\r\nhi", 0, impl.Points{}}, {xs(maxText + 1), 0, impl.Points{}},
	} {
		got := impl.PartText(c.message, c.part)
		if got.Good != c.want.Good || got.At != c.want.At || !slices.Equal(got.Points, c.want.Points) {
			t.Errorf("PartText of %s, %d: %v, want %v", short(c.message), c.part, got, c.want)
		}
	}
}

func TestPartsOfLongMessages(t *testing.T) {
	for _, head := range []string{"\r\n", "A: b\r\n\r\n", "Content-Transfer-Encoding: 8bit\r\n\r\n"} {
		message := head + xs(maxText-len(head))
		if got := impl.PartData(message, 0); got != good(message[len(head):]) {
			t.Errorf("PartData of %s: %s", short(message), short(got.Data))
		}
		if got := impl.PartText(message, 0); !got.Good || len(got.Points) != maxText-len(head) {
			t.Errorf("PartText of %s: %d points", short(message), len(got.Points))
		}
		if impl.PartData(message+"x", 0) != (impl.Bytes{}) || impl.PartText(message+"x", 0).Good {
			t.Errorf("a part of %s", short(message+"x"))
		}
	}
	full := mixed + "--b\r\n\r\n"
	full += xs(maxText - len(full))
	if got := impl.PartData(full, 1); !got.Good || !strings.HasSuffix(full, "\r\n"+got.Data) {
		t.Errorf("PartData of %s: %s", short(full), short(got.Data))
	}
	// As many lines and levels as there is room for.
	deep := levels(maxDeep-1, mixed+"--b\r\n\r\n"+strings.Repeat("\r\n", 49000)+"\r\n--b--")
	checkDeep(t, deep, maxDeep+1)
	deep = strings.Repeat(inMessage, maxDeep+5) + strings.Repeat("A:\r\n", maxFields)
	checkDeep(t, deep+strings.Repeat("\r\n", (maxText-len(deep))/2), maxDeep+1)
}

// slowParts reads parts once more, with the lines of a part's body as a list.
func slowParts(message string, from, to int, parent int64, list []impl.Part) []impl.Part {
	head := impl.ReadHead(message[from:to])
	p := impl.Part{Parent: parent, Head: int64(from), Body: int64(from) + head.Body, End: int64(to), Content: content("text", "plain")}
	if values := impl.FindField(head.Fields, "content-type"); values != nil {
		if read := impl.ReadContent(values[0]); read.Code == impl.OK && read.Content.Sub != "" {
			p.Content = read.Content
		}
	}
	if values := impl.FindField(head.Fields, "content-transfer-encoding"); values != nil {
		name := strings.ToLower(strings.Trim(values[0], " \t"))
		p.Coded = int64(slices.Index([]string{"7bit", "base64", "quoted-printable", name}, name))
	}
	if parent >= 0 {
		p.Depth = list[parent].Depth + 1
	}
	number := int64(len(list))
	list = append(list, p)
	for _, child := range slowChildren(message, p) {
		list = slowParts(message, child[0], child[1], number, list)
		list[number].Children++
	}
	return list
}

func slowChildren(message string, p impl.Part) (children [][2]int) {
	kind := p.Content.Type + "/" + p.Content.Sub
	if p.Coded != 0 || p.Depth >= maxDeep {
		return nil
	}
	if kind == "message/rfc822" && impl.ReadHead(message[p.Body:p.End]).Code == impl.OK {
		return [][2]int{{int(p.Body), int(p.End)}}
	}
	boundary := impl.ParamOf(p.Content, "boundary").Data
	if p.Content.Type != "multipart" || boundary == "" || len(boundary) > maxBoundary || strings.TrimRight(boundary, " \t") != boundary {
		return nil
	}
	at := int(p.Body)
	for _, line := range strings.SplitAfter(message[p.Body:p.End], "\r\n") {
		bare := strings.TrimRight(strings.TrimSuffix(line, "\r\n"), " \t")
		behind := at + len(line)
		if bare == "--"+boundary || bare == "--"+boundary+"--" {
			if last := len(children) - 1; last >= 0 {
				children[last][1] = max(children[last][0], at-2)
			}
			if bare != "--"+boundary {
				return children
			}
			children = append(children, [2]int{behind, int(p.End)})
		}
		at = behind
	}
	return children
}

func sameParts(a, b impl.Part) bool {
	same := sameContent(a.Content, b.Content)
	a.Content, b.Content = impl.Content{}, impl.Content{}
	return same && fmt.Sprint(a) == fmt.Sprint(b)
}

var partPieces = []string{
	"--b\r\n", "--b\r\n", "--b--\r\n", "--c\r\n", "--c--\r\n", "--b \t\r\n", "--c-- \r\n", "--b", "\r\n--c", "\r\n--c--", "--d\r\n", "--d--\r\n", "--", "-", "b", "\r", "\n", "\r\n", "\r\n", "X: y\r\n", "text\r\n", "text", " ",
	"--b\r\nContent-Type: multipart/x; boundary=c\r\n\r\n", "--c\r\n" + mixed, "\r\n--c\r\n" + inMessage, "--b\r\n" + inMessage, "--d\r\nContent-Type: text/html\r\n\r\n", "--b\r\nContent-Type: multipart/x; boundary=d\r\n\r\n--d\r\n", "--d\r\nContent-Type: multipart/y; boundary=\"b--\"\r\n\r\n", "\r\n--b--\r\n", mixed, inMessage,
	"Content-Type: multipart/mixed; boundary=b\r\n", "Content-Type: message/rfc822\r\n", "Content-Transfer-Encoding: base64\r\n", "Content-Transfer-Encoding: 7bit\r\n",
}

func TestPromise7(t *testing.T) {
	d := &dice{state: 70}
	deep, wide := 0, 0
	for at := range 20000 {
		message := d.text(d.below(40), partPieces)
		switch at % 5 {
		case 0:
			message = mixed + message
		case 1:
			message = inMessage + message
		case 2:
			message = mixed + "--b\r\n" + message
		case 3:
			message = levels(d.below(5), mixed+message)
		}
		list := impl.ReadParts(message)
		if head := impl.ReadHead(message); head.Code != impl.OK {
			if list.Code != head.Code || list.At != head.At || len(list.Parts) > 0 {
				t.Fatalf("ReadParts of %q: %d at %d", message, list.Code, list.At)
			}
			continue
		}
		want := slowParts(message, 0, len(message), -1, nil)
		if list.Code != impl.OK || list.At != 0 || !slices.EqualFunc(list.Parts, want, sameParts) {
			t.Fatalf("ReadParts of %q: %v, want %v", message, list, want)
		}
		checkPlaces(t, message, list)
		checkData(t, message, list)
		if len(want) > 5 {
			wide++
		}
		if slices.ContainsFunc(want, func(p impl.Part) bool { return p.Depth > 3 }) {
			deep++
		}
	}
	if deep < 100 || wide < 1000 {
		t.Errorf("only %d are deep, %d wide", deep, wide)
	}
}

// checkData wants of each part just what its coding says.
func checkData(t *testing.T, message string, list impl.PartList) {
	t.Helper()
	for number, p := range list.Parts {
		text := message[p.Body:p.End]
		want := []impl.Bytes{good(text), impl.UnBase64(text), impl.UnQuoted(text), {}}[p.Coded]
		if p.Children > 0 {
			want = impl.Bytes{}
		}
		if got := impl.PartData(message, int64(number)); got != want {
			t.Errorf("PartData of %s, %d: %v, want %v", short(message), number, got, want)
		}
	}
	for _, number := range []int64{-1, int64(len(list.Parts))} {
		if impl.PartData(message, number).Good || impl.PartText(message, number).Good {
			t.Errorf("part %d of %s", number, short(message))
		}
	}
}

func leaf(depth, coded int64, data string) impl.Made {
	return impl.Made{Depth: depth, Content: content("text", "plain"), Coded: coded, Data: data}
}

func multi(depth int64, params ...string) impl.Made {
	return impl.Made{Depth: depth, Content: content("multipart", "mixed", params...)}
}

// slowWrite writes parts once more, with all numbers of a boundary tried.
func slowWrite(made []impl.Made) string {
	first := made[0]
	head := "Content-Transfer-Encoding: " + []string{"", "base64", "quoted-printable"}[first.Coded] + "\r\n\r\n"
	if first.Coded == 0 {
		head = "\r\n"
	}
	if first.Content.Type != "multipart" {
		data := []string{first.Data, impl.Base64(first.Data), impl.Quoted(first.Data)}[first.Coded]
		return "Content-Type: " + impl.WriteContent(first.Content) + "\r\n" + head + data
	}
	var children []string
	for from := 1; from < len(made); {
		to := from + 1
		for to < len(made) && made[to].Depth > made[from].Depth {
			to++
		}
		children = append(children, slowWrite(made[from:to]))
		from = to
	}
	boundary := slowBoundary(children)
	c := content("multipart", first.Content.Sub)
	c.Params = append(append(c.Params, first.Content.Params...), impl.Param{Name: "boundary", Value: boundary})
	out := "Content-Type: " + impl.WriteContent(c) + "\r\n\r\n"
	for _, child := range children {
		out += "--" + boundary + "\r\n" + child + "\r\n"
	}
	return out + "--" + boundary + "--"
}

func slowBoundary(children []string) string {
	for number := 0; ; number++ {
		boundary := "=_" + strconv.Itoa(number)
		if !slices.ContainsFunc(children, func(child string) bool { return strings.Contains("\r\n"+child, "\r\n--"+boundary) }) {
			return boundary
		}
	}
}

// checkBuilt is promise 8, and that it is written as the document says.
func checkBuilt(t *testing.T, fields []impl.Field, made []impl.Made) string {
	t.Helper()
	message := impl.BuildMessage(fields, made)
	head := impl.WriteHead(fields) + "MIME-Version: 1.0\r\n"
	wantText(t, "BuildMessage", shown(made), message, head+slowWrite(made))
	list := impl.ReadParts(message)
	if list.Code != impl.OK || len(list.Parts) != len(made) {
		t.Errorf("ReadParts of %s: %d, %d parts, want %d", short(message), list.Code, len(list.Parts), len(made))
		return message
	}
	checkPlaces(t, message, list)
	for number, m := range made {
		p := list.Parts[number]
		c := p.Content
		if m.Content.Type == "multipart" {
			boundary := c.Params[len(c.Params)-1]
			c.Params = c.Params[:len(c.Params)-1]
			if boundary.Name != "boundary" || !strings.HasPrefix(boundary.Value, "=_") || p.Children == 0 {
				t.Errorf("ReadParts of %s: part %d is %s", short(message), number, shown(p))
			}
		} else if data := impl.PartData(message, int64(number)); data != good(m.Data) {
			t.Errorf("PartData of %s, %d: %s, want %s", short(message), number, short(data.Data), short(m.Data))
		}
		if p.Depth != m.Depth || p.Coded != m.Coded || !sameContent(c, m.Content) {
			t.Errorf("ReadParts of %s: part %d is %s, want %s", short(message), number, shown(p), shown(m))
		}
	}
	read := impl.ReadHead(message).Fields
	if len(read) < len(fields)+2 || !slices.Equal(read[:len(fields)], fields) || read[len(fields)] != (impl.Field{Name: "MIME-Version", Value: " 1.0"}) {
		t.Errorf("ReadHead of %s: %s", short(message), shown(read))
	}
	return message
}

func TestBuildMessageTexts(t *testing.T) {
	version := "MIME-Version: 1.0\r\n"
	plain := "Content-Type: text/plain\r\n"
	coding := "Content-Transfer-Encoding: "
	bounded := func(number string) string {
		return "Content-Type: multipart/mixed; boundary=\"=_" + number + "\"\r\n\r\n"
	}
	for _, c := range []struct {
		fields []impl.Field
		made   []impl.Made
		want   string
	}{
		{nil, []impl.Made{leaf(0, 0, "")}, version + plain + "\r\n"},
		{nil, []impl.Made{leaf(0, 0, "hi\r\n")}, version + plain + "\r\nhi\r\n"},
		{[]impl.Field{}, []impl.Made{leaf(0, 1, "a")}, version + plain + coding + "base64\r\n\r\nYQ==\r\n"},
		{nil, []impl.Made{leaf(0, 1, "")}, version + plain + coding + "base64\r\n\r\n"},
		{nil, []impl.Made{leaf(0, 2, "é ")}, version + plain + coding + "quoted-printable\r\n\r\n=C3=A9=20"},
		{fields("X", " y", "Subject", "\r\n z"), []impl.Made{leaf(0, 0, "hi")}, "X: y\r\nSubject:\r\n z\r\n" + version + plain + "\r\nhi"},
		{fields("MIME-Version", " 2"), []impl.Made{leaf(0, 0, "hi")}, "MIME-Version: 2\r\n" + version + plain + "\r\nhi"},
		{nil, []impl.Made{multi(0), leaf(1, 0, "")}, version + bounded("0") + "--=_0\r\n" + plain + "\r\n\r\n--=_0--"},
		{nil, []impl.Made{multi(0), leaf(1, 0, "a"), leaf(1, 1, "b"), leaf(1, 2, "c")}, version + bounded("0") + "--=_0\r\n" + plain + "\r\na\r\n--=_0\r\n" + plain + coding + "base64\r\n\r\nYg==\r\n\r\n--=_0\r\n" + plain + coding + "quoted-printable\r\n\r\nc\r\n--=_0--"},
		{nil, []impl.Made{multi(0), multi(1), leaf(2, 0, "a"), leaf(1, 0, "b")}, version + bounded("1") + "--=_1\r\n" + bounded("0") + "--=_0\r\n" + plain + "\r\na\r\n--=_0--\r\n--=_1\r\n" + plain + "\r\nb\r\n--=_1--"},
		{nil, []impl.Made{multi(0), multi(1), leaf(2, 0, "a"), multi(1), leaf(2, 0, "b")}, version + bounded("1") + "--=_1\r\n" + bounded("0") + "--=_0\r\n" + plain + "\r\na\r\n--=_0--\r\n--=_1\r\n" + bounded("0") + "--=_0\r\n" + plain + "\r\nb\r\n--=_0--\r\n--=_1--"},
		{nil, []impl.Made{multi(0, "x", "y", "z", "é"), leaf(1, 0, "a")}, version + "Content-Type: multipart/mixed; x=y; z*=utf-8''%C3%A9; boundary=\"=_0\"\r\n\r\n--=_0\r\n" + plain + "\r\na\r\n--=_0--"},
	} {
		wantText(t, "BuildMessage", shown(c.made), impl.BuildMessage(c.fields, c.made), c.want)
		checkBuilt(t, c.fields, c.made)
	}
}

func TestBuiltBoundaries(t *testing.T) {
	for _, c := range []struct{ data, want string }{
		{"", "0"}, {"--=_", "0"}, {"--=_0", "1"}, {"--=_0\r\n", "1"}, {"--=_0x", "1"}, {"--=_0--", "1"}, {"--=_00", "1"}, {"--=_01", "1"}, {"x\r\n--=_0", "1"}, {"\r\n--=_0", "1"}, {"--=_1", "0"}, {"--=_1\r\n--=_0", "2"}, {"--=_0\r\n--=_2", "1"}, {"--=_0\r\n--=_10", "2"}, {"--=_0\r\n--=_1\r\n--=_2", "3"}, {"--=_0\r\n--=_1\r\n--=_20", "3"},
		// No line begins with it.
		{" --=_0", "0"}, {"x--=_0", "0"}, {"-=_0", "0"}, {"=_0", "0"}, {"\n--=_0", "0"}, {"\r--=_0", "0"}, {"x\n--=_0", "0"}, {"x\r--=_0", "0"}, {"---=_0", "0"}, {"--=_-0", "0"}, {"--=_+0", "0"}, {"--=_ 0", "0"}, {"--=__0", "0"}, {"--\r\n=_0", "0"}, {"--=_\r\n0", "0"}, {"--=_x0", "0"}, {"--=-0", "0"},
		// Numbers of two digits and more, and what they begin with.
		{"--=_0\r\n--=_1\r\n--=_2\r\n--=_3\r\n--=_4\r\n--=_5\r\n--=_6\r\n--=_7\r\n--=_8\r\n--=_9", "10"}, {"--=_0\r\n--=_12\r\n--=_23\r\n--=_34\r\n--=_45\r\n--=_56\r\n--=_67\r\n--=_78\r\n--=_89\r\n--=_9", "10"}, {"--=_0\r\n--=_10\r\n--=_2\r\n--=_3\r\n--=_4\r\n--=_5\r\n--=_6\r\n--=_7\r\n--=_8\r\n--=_9", "11"}, {"--=_0\r\n--=_100\r\n--=_2\r\n--=_3\r\n--=_4\r\n--=_5\r\n--=_6\r\n--=_7\r\n--=_8\r\n--=_9", "11"},
		{"--=_0\r\n--=_" + strings.Repeat("1", 50), "2"}, {"--=_0\r\n--=_99999999999999999999", "1"}, {"--=_0\r\n--=_18446744073709551617", "2"}, {"--=_00000000001", "1"},
	} {
		made := []impl.Made{multi(0), leaf(1, 0, "x"), leaf(1, 0, c.data), leaf(1, 0, "y")}
		message := checkBuilt(t, nil, made)
		if !strings.HasSuffix(message, "\r\n--=_"+c.want+"--") {
			t.Errorf("BuildMessage of %s ends with %s, want %s", short(c.data), short(message[len(message)-20:]), c.want)
		}
		checkBuilt(t, nil, []impl.Made{multi(0), multi(1), leaf(2, 0, c.data), leaf(1, 0, c.data)})
	}
	// As coded, they stand there in another way.
	checkBuilt(t, nil, []impl.Made{multi(0), leaf(1, 1, "--=_0"), leaf(1, 2, "--=_0"), leaf(1, 2, "-x=_0\r\n-")})
	for _, coded := range []int64{1, 2} {
		message := impl.BuildMessage(nil, []impl.Made{multi(0), leaf(1, coded, "--=_0\r\n")})
		if !strings.HasSuffix(message, "--=_0--") {
			t.Errorf("%s", short(message))
		}
	}
}

// TestBuiltBoundariesOfMany has as many numbers taken as there is room for, at each level.
func TestBuiltBoundariesOfMany(t *testing.T) {
	var data strings.Builder
	for number := range 8500 {
		data.WriteString("--=_" + strconv.Itoa(number) + "\r\n")
	}
	var made []impl.Made
	for depth := range maxDeep {
		made = append(made, multi(int64(depth)))
	}
	message := impl.BuildMessage(nil, append(made, leaf(maxDeep, 0, data.String())))
	list := impl.ReadParts(message)
	if len(list.Parts) != maxDeep+1 || impl.PartData(message, maxDeep) != good(data.String()) {
		t.Fatalf("%d parts, %d bytes", len(list.Parts), len(message))
	}
	for depth, p := range list.Parts[:maxDeep] {
		want := "=_" + strconv.Itoa(8500+maxDeep-1-depth)
		wantText(t, "boundary", strconv.Itoa(depth), impl.ParamOf(p.Content, "boundary").Data, want)
	}
}

func TestBuiltEdges(t *testing.T) {
	one := []impl.Made{leaf(0, 0, "hi")}
	var many []impl.Field
	for number := range maxFields - ownFields {
		many = append(many, impl.Field{Name: "N" + strconv.Itoa(number), Value: " v"})
	}
	checkBuilt(t, many, one)
	checkBuilt(t, many, []impl.Made{leaf(0, 1, "hi")})
	checkBuilt(t, many, []impl.Made{multi(0), leaf(1, 2, "hi")})
	checkBuilt(t, fields(xs(maxFieldName), "", "Content", " a/b", "Content-Types", "", "X-Content-Type", "", "Content-Transfer", "", "MIME-Version", ""), one)
	wide := multi(0)
	for number := range maxParams - 1 {
		wide.Content.Params = append(wide.Content.Params, impl.Param{Name: "n" + strconv.Itoa(number), Value: strings.Repeat("\x00", 500)})
	}
	checkBuilt(t, nil, []impl.Made{wide, leaf(1, 0, "hi")})
	full := impl.Made{Content: numbered(maxParams), Data: "hi"}
	checkBuilt(t, nil, []impl.Made{full})
	full.Content.Params[3].Name = "boundary"
	full.Depth = 1
	checkBuilt(t, nil, []impl.Made{multi(0), full})
	// As many parts, and as deep, as may be.
	flat := []impl.Made{multi(0)}
	var deep []impl.Made
	for number := range maxParts - 1 {
		flat = append(flat, leaf(1, int64(number%3), "--=_"+strconv.Itoa(number)+"\r\n"))
	}
	for depth := range maxDeep {
		deep = append(deep, multi(int64(depth)), leaf(int64(depth)+1, 0, "x"))
	}
	checkBuilt(t, nil, flat)
	checkBuilt(t, nil, deep)
	// Back from the deepest one to the first one's children.
	checkBuilt(t, nil, append(deep, leaf(1, 0, "y"), multi(1), leaf(2, 0, "z")))
	// Types that are no multiparts, nor messages.
	for _, kind := range []string{"multiparts", "multi", "messages", "x"} {
		checkBuilt(t, nil, []impl.Made{{Content: content(kind, "rfc822"), Data: "A: b\r\n\r\nhi"}})
	}
	// Data that look like something else.
	for _, data := range []string{"\r\n", "\r\n\r\n", "A: b\r\n\r\nc", "--", "\r", "\n", "\r\r", "\n\n", ".", " ", "=", "x\r", "x\n", "\x00\xff", "--=_0--\r\n--=_1", "--=_0\r"} {
		for coded := range int64(3) {
			checkBuilt(t, nil, []impl.Made{leaf(0, coded, data)})
			checkBuilt(t, nil, []impl.Made{multi(0), leaf(1, coded, data), leaf(1, coded, data)})
		}
	}
}

func TestBuildMessageRefuses(t *testing.T) {
	right := []impl.Made{multi(0), leaf(1, 0, "a"), multi(1), leaf(2, 1, "b"), leaf(1, 2, "c")}
	checkBuilt(t, fields("X", " y"), right)
	refused := func(what string, fields []impl.Field, made []impl.Made) {
		t.Helper()
		if got := impl.BuildMessage(fields, made); got != "" {
			t.Errorf("BuildMessage with %s: %s", what, short(got))
		}
	}
	for _, name := range []string{"", "A b", "A:", xs(maxFieldName + 1), "é", "Content-Type", "CONTENT-TYPE", "content-type", "Content-Transfer-Encoding", "content-transfer-encoding", "CONTENT-Transfer-Encoding", xs(maxText + 1)} {
		refused("the field "+short(name), fields(name, " y"), right)
		refused("a field behind, "+short(name), fields("X", " y", name, " y"), right)
		refused("a field ahead, "+short(name), fields(name, " y", "X", " y"), right)
	}
	for _, value := range []string{"\r\n", "x\r\ny", "x\ry", "\n", xs(maxText), xs(maxText + 1)} {
		refused("the value "+short(value), fields("X", value), right)
		refused("a value behind, "+short(value), fields("X", " y", "Y", value), right)
	}
	var many []impl.Field
	for number := range maxFields + 2 {
		many = append(many, impl.Field{Name: "N" + strconv.Itoa(number)})
	}
	for count := maxFields - ownFields + 1; count <= maxFields+2; count++ {
		refused(strconv.Itoa(count)+" fields", many[:count], right)
	}
	refused("no part", nil, nil)
	refused("no part", fields("X", " y"), []impl.Made{})
	flat := []impl.Made{multi(0)}
	for range maxParts {
		flat = append(flat, leaf(1, 0, ""))
	}
	refused("too many parts", nil, flat)
	// One thing of one part is another one.
	for at := range right {
		change := func(what string, how func(*impl.Made)) {
			t.Helper()
			made := slices.Clone(right)
			how(&made[at])
			refused(strconv.Itoa(at)+" with "+what, nil, made)
		}
		for _, depth := range []int64{math.MinInt64, -1, 3, maxDeep, maxDeep + 1, math.MaxInt64} {
			change("depth "+strconv.FormatInt(depth, 10), func(m *impl.Made) { m.Depth = depth })
		}
		change("another depth", func(m *impl.Made) { m.Depth = 2 - 2*min(m.Depth, 1) })
		for _, coded := range []int64{math.MinInt64, -1, 3, 4, math.MaxInt64} {
			change("coded "+strconv.FormatInt(coded, 10), func(m *impl.Made) { m.Coded = coded })
		}
		for _, c := range illContents() {
			change(shown(c), func(m *impl.Made) { m.Content = c })
		}
		change("no sub type", func(m *impl.Made) { m.Content.Sub = "" })
		change("a message", func(m *impl.Made) { m.Content = content("message", "rfc822") })
		change("a message of another kind", func(m *impl.Made) { m.Content = content("message", "x") })
		change("data that are too long", func(m *impl.Made) { m.Data = xs(maxText + 1) })
		change("data of MaxText bytes", func(m *impl.Made) { m.Data = xs(maxText) })
		if right[at].Content.Type != "multipart" {
			change("no child", func(m *impl.Made) { *m = multi(m.Depth) })
			change("the type alone", func(m *impl.Made) { m.Content.Type = "multipart" })
			continue
		}
		for coded := range int64(2) {
			change("a coding", func(m *impl.Made) { m.Coded = coded + 1 })
		}
		change("data", func(m *impl.Made) { m.Data = "x" })
		change("a line end as data", func(m *impl.Made) { m.Data = "\r\n" })
		change("a boundary", func(m *impl.Made) { m.Content = content("multipart", "mixed", "boundary", "b") })
		change("a boundary behind", func(m *impl.Made) { m.Content = content("multipart", "mixed", "x", "y", "boundary", "") })
		change("children and another type", func(m *impl.Made) { m.Content = content("text", "plain") })
		change("many parameters", func(m *impl.Made) { m.Content = numbered(maxParams); m.Content.Type = "multipart" })
		change("too many parameters", func(m *impl.Made) { m.Content = numbered(maxParams + 1); m.Content.Type = "multipart" })
	}
	// Children that are not there, or too deep.
	refused("a multipart alone", nil, []impl.Made{multi(0)})
	refused("a multipart at the end", nil, append(slices.Clone(right), multi(1)))
	refused("a second one", nil, append(slices.Clone(right), leaf(0, 0, "")))
	refused("two", nil, []impl.Made{leaf(0, 0, ""), leaf(0, 0, "")})
	refused("a text's child", nil, []impl.Made{leaf(0, 0, ""), leaf(1, 0, "")})
	var deep []impl.Made
	for depth := range maxDeep + 1 {
		deep = append(deep, multi(int64(depth)))
	}
	refused("parts that are too deep", nil, append(deep, leaf(maxDeep+1, 0, "")))
}

// isRight tells once more what can be built, with the parts' parents looked for.
func isRight(made []impl.Made) bool {
	children := make([]int, len(made))
	for at, m := range made {
		if m.Depth < 0 || m.Depth > maxDeep || (m.Depth == 0) != (at == 0) || m.Coded < 0 || m.Coded > 2 || m.Content.Sub == "" || m.Content.Type == "message" {
			return false
		}
		parent := at - 1
		for parent >= 0 && made[parent].Depth >= m.Depth {
			parent--
		}
		if at > 0 && m.Depth > made[at-1].Depth+1 {
			return false
		}
		if parent >= 0 {
			children[parent]++
		}
	}
	for at, m := range made {
		inner := m.Content.Type == "multipart"
		if inner != (children[at] > 0) || inner && (m.Coded != 0 || m.Data != "" || impl.ParamOf(m.Content, "boundary").Good) {
			return false
		}
	}
	return len(made) > 0
}

// made are parts that can often be written, and often not.
func (d *dice) made(count int) []impl.Made {
	var made []impl.Made
	depth := int64(0)
	for range count {
		m := leaf(depth, int64(d.below(3)), d.text(d.below(4), []string{"--=_0", "\r\n", "x", "--=_1\r\n"}))
		next := 1 + int64(d.below(int(depth)+2))
		if next = min(next, depth+1); next > depth && len(made) < count-1 {
			m = multi(depth)
		} else {
			next = max(1, min(next, depth))
		}
		made = append(made, m)
		depth = next
	}
	for range d.below(2) * count {
		if at := d.below(count); d.below(3) == 0 {
			made[at].Depth += int64(d.below(3) - 1)
		} else if d.below(6) == 0 {
			made[at].Content = []impl.Content{content("message", "x"), content("text", ""), content("multipart", "x", "boundary", "b"), content("multipart", "x", "y", "z"), content("text", "plain", "boundary", "b")}[d.below(5)]
			made[at].Coded = int64(d.below(5) - 1)
		}
	}
	return made
}

func TestBuildMessageOfAnyTree(t *testing.T) {
	d := &dice{state: 80}
	count := [2]int{}
	for range 20000 {
		made := d.made(1 + d.below(8))
		if isRight(made) {
			count[1]++
			checkBuilt(t, nil, made)
		} else if got := impl.BuildMessage(nil, made); got != "" {
			count[0]++
			t.Errorf("BuildMessage of %s: %s", shown(made), short(got))
		} else {
			count[0]++
		}
	}
	if count[0] < 4000 || count[1] < 4000 {
		t.Errorf("%v are right", count)
	}
}

var dataPieces = []string{"--=_0\r\n", "\r\n--=_1", "--=_", "--", "0", "1", "2", "\r\n", "\r\n", "\r", "\n", "=", " ", "\t", "x", "A: b\r\n", ".", "\x00", "\xff", "é", xs(30)}

func TestPromise8(t *testing.T) {
	d := &dice{state: 81}
	for range 1500 {
		made := d.made(1 + d.below(12))
		for !isRight(made) {
			made = d.made(1 + d.below(12))
		}
		for at, m := range made {
			c := d.content(d.below(3))
			c.Params = slices.DeleteFunc(c.Params, func(p impl.Param) bool { return p.Name == "boundary" || len(p.Value) > 300 })
			if c.Sub == "" {
				c.Sub = "x"
			}
			if m.Content.Type == "multipart" {
				c.Type = "multipart"
			} else {
				made[at].Data = d.text(d.below(30), dataPieces)
			}
			made[at].Content = c
		}
		var some []impl.Field
		for _, field := range d.fields(d.below(5)) {
			if !strings.EqualFold(field.Name, "content-type") && !strings.EqualFold(field.Name, "content-transfer-encoding") {
				some = append(some, field)
			}
		}
		checkBuilt(t, some, made)
	}
}

// checkFull wants a message of just MaxText bytes to be built, with one field that makes it so, and none of one more.
func checkFull(t *testing.T, made []impl.Made) {
	t.Helper()
	missing := maxText - len(checkBuilt(t, fields("X", ""), made))
	full := checkBuilt(t, fields("X", xs(missing)), made)
	if len(full) != maxText {
		t.Errorf("BuildMessage has %d bytes", len(full))
	}
	wantText(t, "BuildMessage", "one byte more", impl.BuildMessage(fields("X", xs(missing+1)), made), "")
	wantText(t, "BuildMessage", "more", impl.BuildMessage(fields("X", xs(missing+1000)), made), "")
}

func TestBuiltSizes(t *testing.T) {
	for coded := range int64(3) {
		checkFull(t, []impl.Made{leaf(0, coded, "é=x")})
		checkFull(t, []impl.Made{multi(0), leaf(1, coded, strings.Repeat("é=x\r\n", 4000))})
		checkFull(t, []impl.Made{multi(0), multi(1), multi(2), leaf(3, coded, strings.Repeat("é=x\r\n", 4000)), leaf(1, 0, "x")})
		// Data that are too long as they are coded, or together.
		for _, made := range [][]impl.Made{
			{leaf(0, coded, strings.Repeat("é", maxText/2))}, {multi(0), leaf(1, coded, strings.Repeat("é", maxText/2)), leaf(1, 0, "x")}, {multi(0), leaf(1, 0, "x"), multi(1), leaf(2, coded, xs(maxText-100)), leaf(1, 0, "x")},
			{multi(0), leaf(1, coded, xs(maxText/2)), leaf(1, coded, xs(maxText/2))}, {multi(0), multi(1), leaf(2, coded, xs(maxText/2)), multi(1), leaf(2, coded, xs(maxText/2))},
		} {
			wantText(t, "BuildMessage", shown(made), impl.BuildMessage(nil, made), "")
		}
	}
	// Just as many data as there is room for.
	for _, made := range [][]impl.Made{{leaf(0, 0, "")}, {multi(0), leaf(1, 0, "")}, {multi(0), multi(1), leaf(2, 0, "")}} {
		missing := maxText - len(impl.BuildMessage(nil, made))
		made[len(made)-1].Data = xs(missing)
		if got := checkBuilt(t, nil, made); len(got) != maxText {
			t.Errorf("BuildMessage has %d bytes", len(got))
		}
		made[len(made)-1].Data = xs(missing + 1)
		wantText(t, "BuildMessage", "one byte more", impl.BuildMessage(nil, made), "")
	}
	// Many parts of which each one would fit.
	var made []impl.Made
	for range maxParts - 1 {
		made = append(made, leaf(1, 0, strings.Repeat("--=_1\r\n", maxText/8)))
	}
	wantText(t, "BuildMessage", "many long ones", impl.BuildMessage(nil, append([]impl.Made{multi(0)}, made...)), "")
}

// contentOfSize has a text of so many bytes.
func contentOfSize(size int) impl.Content {
	c := wide(maxParams-4, "x")
	for at := range c.Params {
		c.Params[at].Value = "x"
	}
	for at := range c.Params {
		c.Params[at].Value = strings.Repeat("\x00", maxValue)
		if written := len(impl.WriteContent(c)); written == 0 || written > size {
			c.Params[at].Value = "x"
			break
		}
	}
	for at := len(c.Params) - 1; at >= 0; at-- {
		if missing := size - len(impl.WriteContent(c)); missing > 0 && c.Params[at].Value == "x" {
			c.Params[at].Value = xs(1 + min(missing, maxValue-1))
		}
	}
	return c
}

// TestBuiltContentSizes has contents that can be written, but not in a message, or not with a boundary.
func TestBuiltContentSizes(t *testing.T) {
	around := len("MIME-Version: 1.0\r\nContent-Type: \r\n\r\n")
	for _, size := range []int{maxText - 2000, maxText - around - 1, maxText - around, maxText - around + 1, maxText - 14, maxText - 10, maxText - 1, maxText} {
		c := contentOfSize(size)
		if got := len(impl.WriteContent(c)); got != size {
			t.Fatalf("WriteContent has %d bytes, want %d", got, size)
		}
		for coded := range int64(3) {
			made := []impl.Made{{Content: c, Coded: coded}}
			room := maxText - around - []int{0, len("Content-Transfer-Encoding: base64\r\n"), len("Content-Transfer-Encoding: quoted-printable\r\n")}[coded]
			if size <= room {
				checkBuilt(t, nil, made)
				continue
			}
			wantText(t, "BuildMessage", strconv.Itoa(size), impl.BuildMessage(nil, made), "")
			made[0].Data = "data"
			wantText(t, "BuildMessage", strconv.Itoa(size), impl.BuildMessage(nil, made), "")
		}
		c.Type = "multipart"
		c.Params[0].Value = "x"
		if size > maxText-2000 {
			c = contentOfSize(size - len("multipart") + 1)
			c.Type = "multipart"
			wantText(t, "BuildMessage", strconv.Itoa(size), impl.BuildMessage(nil, []impl.Made{{Content: c}, leaf(1, 0, "x")}), "")
			c.Type = "a"
			wantText(t, "BuildMessage", strconv.Itoa(size), impl.BuildMessage(nil, []impl.Made{multi(0), {Depth: 1, Content: c}}), "")
		} else {
			checkBuilt(t, nil, []impl.Made{{Content: c}, leaf(1, 0, "x")})
		}
	}
}

func TestAddFieldsTexts(t *testing.T) {
	for _, c := range []struct {
		message string
		fields  []impl.Field
		want    string
	}{
		{"A: b\r\n", fields("C", "d"), "C:d\r\nA: b\r\n"}, {"", fields("C", " d"), "C: d\r\n"}, {"x", fields("C", ""), "C:\r\nx"}, {"\r\nhi", fields("C", " d", "E", "\r\n f"), "C: d\r\nE:\r\n f\r\n\r\nhi"}, {"\x00", fields("Content-Type", " a/b"), "Content-Type: a/b\r\n\x00"},
		// None, and those that cannot be written.
		{"x", nil, ""}, {"", nil, ""}, {"A: b\r\n", []impl.Field{}, ""}, {"A: b\r\n", fields("", "x"), ""}, {"A: b\r\n", fields("A b", "x"), ""}, {"A: b\r\n", fields("A", "x\r\n"), ""}, {"A: b\r\n", fields("A", "x", "B", "\n"), ""}, {"", fields(xs(maxFieldName+1), "x"), ""}, {"", fields("A", xs(maxText)), ""},
		// Lengths.
		{xs(maxText - 4), fields("A", "b"), ""}, {xs(maxText), fields("A", "b"), ""}, {xs(maxText + 1), fields("A", "b"), ""}, {xs(maxText - 5), fields("A", "b"), "A:b\r\n" + xs(maxText-5)}, {"", fields("A", xs(maxText-4)), "A:" + xs(maxText-4) + "\r\n"}, {"x", fields("A", xs(maxText-4)), ""}, {"x", fields("A", xs(maxText-5)), "A:" + xs(maxText-5) + "\r\nx"},
	} {
		wantText(t, "AddFields", c.message, impl.AddFields(c.message, c.fields), c.want)
	}
	var many []impl.Field
	for range maxFields + 1 {
		many = append(many, impl.Field{Name: "A", Value: "b"})
	}
	wantText(t, "AddFields", "many", impl.AddFields("x", many[1:]), strings.Repeat("A:b\r\n", maxFields)+"x")
	wantText(t, "AddFields", "too many", impl.AddFields("x", many), "")
}

func TestPartsTakeWhateverComes(t *testing.T) {
	d := &dice{state: 82}
	for range 3000 {
		message := d.text(d.below(30), append(bodyPieces, partPieces...))
		list := impl.ReadParts(message)
		if list.Code != impl.OK && len(list.Parts) > 0 {
			t.Errorf("ReadParts of %s: %s", short(message), shown(list))
		}
		checkPlaces(t, message, list)
		for number := int64(-1); number <= int64(len(list.Parts)); number++ {
			impl.PartData(message, number)
			if text := impl.PartText(message, number); text.Good && !impl.PartData(message, number).Good {
				t.Errorf("PartText of %s, %d: %v", short(message), number, text)
			}
		}
		made := []impl.Made{{Depth: int64(d.below(3) - 1), Content: d.content(3), Coded: int64(d.below(5) - 1), Data: message}}
		if built := impl.BuildMessage(d.fields(d.below(3)), made); built != "" && impl.ReadParts(built).Code != impl.OK {
			t.Errorf("BuildMessage of %s: %s", shown(made), short(built))
		}
	}
}

func TestPartsAreNewMemory(t *testing.T) {
	message := strings.Clone("Content-Type: multipart/mixed; boundary=bound; x=value\r\n\r\n--bound\r\nContent-Type: text/html; y=\"z\"\r\n\r\nhi\r\n--bound\r\nContent-Transfer-Encoding: quoted-printable\r\n\r\nhi")
	list := impl.ReadParts(message)
	for number, p := range list.Parts {
		wantOwnMemory(t, "ReadParts", message, p.Content.Type, p.Content.Sub)
		for _, param := range p.Content.Params {
			wantOwnMemory(t, "ReadParts", message, param.Name, param.Value)
		}
		wantOwnMemory(t, "PartData", message, impl.PartData(message, int64(number)).Data)
	}
	data := strings.Clone("data")
	room := []impl.Param{{Name: "x", Value: "y"}, {Name: "z", Value: "w"}}
	some := []impl.Made{{Content: impl.Content{Type: "multipart", Sub: "mixed", Params: room[:1]}}, {Depth: 1, Content: content("text", "plain"), Data: data}, {Depth: 1, Content: content("text", "plain"), Data: data}, leaf(7, 7, "")}
	before := shown(some)
	head := fields("A", "b", "C", "d")
	built := impl.BuildMessage(head[:1], some[:3])
	wantOwnMemory(t, "BuildMessage", data, built)
	wantOwnMemory(t, "AddFields", message, impl.AddFields(message, head[:1]))
	if shown(some) != before || !slices.Equal(room, []impl.Param{{Name: "x", Value: "y"}, {Name: "z", Value: "w"}}) || !slices.Equal(head, fields("A", "b", "C", "d")) {
		t.Errorf("an argument was changed: %s, %v, %v", shown(some), room, head)
	}
}
