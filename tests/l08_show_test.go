package tests

import (
	"fmt"
	"math"
	"regexp"
	"slices"
	"strconv"
	"strings"
	"testing"

	"loop.example/g00013/impl"
)

const (
	maxNames     = 100
	maxQuoted    = 1000
	nextPart     = "--b\r\n"
	lastPart     = "\r\n--b--"
	inBase64     = "Content-Transfer-Encoding: base64\r\n"
	notCut       = "Content-Type: multipart/mixed\r\n\r\n"
	otherMessage = "Content-Type: message/partial\r\n\r\n"
	inC          = "Content-Type: multipart/x; boundary=c\r\n\r\n"
	noFields     = "\r\n"
)

var wrongNumbers = []int64{0, -1, -2, math.MinInt64, math.MinInt64 + 1, math.MaxInt64, 1 << 32, 1<<32 + 1, 256}

func TestShowConstants(t *testing.T) {
	got := []int64{impl.ShowAll, impl.ShowHead, impl.ShowText, impl.ShowMime, impl.ShowFields, impl.ShowNotFields}
	wantNumbers(t, "constants", "", got, []int64{0, 1, 2, 3, 4, 5})
}

func path(numbers ...int64) []int64 { return numbers }

// ones is a path of so many times the number 1.
func ones(count int) []int64 { return slices.Repeat([]int64{1}, count) }

func checkFind(t *testing.T, message string, path []int64, want int64) {
	t.Helper()
	if got := impl.FindPart(message, path); got != want {
		t.Errorf("FindPart of %s, %s: %d, want %d", short(message), few(path), got, want)
	}
}

// checkNowhere wants no number but those up to count to lead on from a part.
func checkNowhere(t *testing.T, message string, path []int64, count int64) {
	t.Helper()
	for _, number := range append([]int64{count + 1, count + 2}, wrongNumbers...) {
		if number < 1 || number > count {
			checkFind(t, message, append(slices.Clone(path), number), -1)
			checkFind(t, message, append(slices.Clone(path), number, 1), -1)
		}
	}
}

func TestFindPartOfOne(t *testing.T) {
	for _, message := range []string{
		"", noFields, "A: b", "A: b\r\n\r\nx", "Content-Type: text/html; boundary=b\r\n\r\n" + nextPart + "\r\nhi", "Content-Type: image/png\r\n" + inBase64,
		// A multipart that is not cut.
		notCut + nextPart + "\r\nhi" + lastPart, inBase64 + mixed + nextPart + "\r\nhi" + lastPart, "Content-Type: multipart/mixed; boundary=\"b \"\r\n\r\n" + nextPart + "\r\nhi", "Content-Type: multipart/mixed; boundary=" + xs(maxBoundary+1) + "\r\n\r\n--" + xs(maxBoundary+1),
		// A message without a child.
		otherMessage + "A: b\r\n\r\nhi", inBase64 + inMessage + "A: b\r\n\r\nhi", inMessage + "x", inMessage + " A: b\r\n\r\nhi",
	} {
		checkFind(t, message, nil, 0)
		checkFind(t, message, path(), 0)
		for count := range maxDeep + 1 {
			checkFind(t, message, ones(count), 0)
		}
		for count := maxDeep + 1; count < maxDeep+5; count++ {
			checkFind(t, message, ones(count), -1)
		}
		checkNowhere(t, message, nil, 1)
		checkNowhere(t, message, ones(1), 1)
		checkNowhere(t, message, ones(maxDeep-1), 1)
		checkFind(t, message, append(ones(maxDeep-1), 2), -1)
	}
}

func TestFindPartOfMultiparts(t *testing.T) {
	three := mixed + nextPart + "\r\none\r\n" + nextPart + "\r\ntwo\r\n" + nextPart + "\r\nthree" + lastPart
	checkFind(t, three, nil, 0)
	for number := range int64(3) {
		checkFind(t, three, path(number+1), number+1)
		checkFind(t, three, path(number+1, 1), -1)
		checkNowhere(t, three, path(number+1), 0)
	}
	checkNowhere(t, three, nil, 3)
	// Within one another: the k-th child is not the k-th part.
	tree := mixed + nextPart + inC + "--c\r\n\r\none\r\n--c\r\n\r\ntwo\r\n--c--\r\n" + nextPart + "\r\nthree\r\n" + nextPart + inC + "--c\r\n\r\nfour\r\n--c--" + lastPart
	for _, c := range []struct {
		path []int64
		want int64
	}{
		{path(1), 1}, {path(1, 1), 2}, {path(1, 2), 3}, {path(1, 3), -1}, {path(2), 4}, {path(2, 1), -1}, {path(3), 5}, {path(3, 1), 6}, {path(3, 2), -1}, {path(4), -1}, {path(1, 1, 1), -1}, {path(3, 1, 1), -1},
	} {
		checkFind(t, tree, c.path, c.want)
	}
	// One that is cut and has no child leads nowhere, not even to itself.
	for _, body := range []string{"", "hi", "--b--", "--b--\r\n" + nextPart} {
		checkFind(t, mixed+body, nil, 0)
		checkNowhere(t, mixed+body, nil, 0)
		checkNowhere(t, inMessage+mixed+body, nil, 0)
		checkFind(t, inMessage+mixed+body, nil, 0)
	}
	inner := mixed + nextPart + inC + lastPart
	checkFind(t, inner, path(1), 1)
	checkNowhere(t, inner, path(1), 0)
	// Neither do those of a multipart's children that have none of their own.
	for _, child := range []string{"", noFields, "x", notCut + "--c\r\n\r\nhi", inBase64 + inC + "--c\r\n\r\nhi", otherMessage + "A: b\r\n\r\nhi", inBase64 + inMessage + "A: b\r\n\r\nhi", inMessage + "x"} {
		message := mixed + nextPart + child + lastPart
		checkFind(t, message, path(1), 1)
		checkNowhere(t, message, path(1), 0)
		checkFind(t, message, path(2), -1)
	}
}

func TestFindPartOfMessages(t *testing.T) {
	hi := "Subject: x\r\n\r\nhi"
	twoParts := mixed + nextPart + "\r\none\r\n" + nextPart + "\r\ntwo" + lastPart
	for _, c := range []struct {
		message string
		path    []int64
		want    int64
	}{
		// Alone.
		{inMessage + hi, nil, 0}, {inMessage + hi, path(1), 1}, {inMessage + hi, path(1, 1), 1}, {inMessage + hi, path(2), -1}, {inMessage + hi, path(1, 2), -1}, {inMessage + hi, ones(maxDeep), 1}, {inMessage + hi, ones(maxDeep + 1), -1},
		{inMessage, path(1), 1}, {inMessage, path(2), -1},
		// With a multipart in it: that is passed by.
		{inMessage + twoParts, nil, 0}, {inMessage + twoParts, path(1), 2}, {inMessage + twoParts, path(2), 3}, {inMessage + twoParts, path(3), -1}, {inMessage + twoParts, path(1, 1), -1}, {inMessage + twoParts, path(2, 1), -1},
		// With one that is not cut, which is not.
		{inMessage + notCut + nextPart, path(1), 1}, {inMessage + notCut + nextPart, path(1, 1), 1}, {inMessage + notCut + nextPart, path(2), -1},
		// With a message in it: just the first one is passed by.
		{inMessage + inMessage + hi, nil, 0}, {inMessage + inMessage + hi, path(1), 1}, {inMessage + inMessage + hi, path(1, 1), 2}, {inMessage + inMessage + hi, ones(3), 2}, {inMessage + inMessage + hi, path(2), -1}, {inMessage + inMessage + hi, path(1, 2), -1}, {inMessage + inMessage + hi, path(1, 1, 2), -1},
		{inMessage + inMessage + twoParts, path(1), 1}, {inMessage + inMessage + twoParts, path(2), -1}, {inMessage + inMessage + twoParts, path(1, 1), 3}, {inMessage + inMessage + twoParts, path(1, 2), 4}, {inMessage + inMessage + twoParts, path(1, 3), -1}, {inMessage + inMessage + twoParts, path(1, 1, 1), -1},
		{inMessage + inMessage + inMessage + hi, path(1), 1}, {inMessage + inMessage + inMessage + hi, ones(2), 2}, {inMessage + inMessage + inMessage + hi, ones(3), 3}, {inMessage + inMessage + inMessage + hi, ones(4), 3},
		// With one in it that has no child.
		{inMessage + inMessage + "x", path(1), 1}, {inMessage + inMessage + "x", ones(5), 1}, {inMessage + inMessage + "x", path(1, 2), -1}, {inMessage + inBase64 + inMessage + hi, ones(2), 1}, {inMessage + otherMessage + hi, ones(2), 1},
		// As a child.
		{mixed + nextPart + inMessage + hi + lastPart, path(1), 1}, {mixed + nextPart + inMessage + hi + lastPart, path(1, 1), 2}, {mixed + nextPart + inMessage + hi + lastPart, path(1, 1, 1), 2}, {mixed + nextPart + inMessage + hi + lastPart, path(1, 2), -1}, {mixed + nextPart + inMessage + hi + lastPart, path(1, 1, 2), -1}, {mixed + nextPart + inMessage + hi + lastPart, path(2), -1},
		{mixed + nextPart + inMessage + inMessage + hi, path(1), 1}, {mixed + nextPart + inMessage + inMessage + hi, path(1, 1), 2}, {mixed + nextPart + inMessage + inMessage + hi, path(1, 1, 1), 3}, {mixed + nextPart + inMessage + inMessage + hi, ones(6), 3},
		{mixed + nextPart + inMessage + inC + "--c\r\n\r\none\r\n--c\r\n\r\ntwo\r\n--c--\r\n" + nextPart + "\r\nthree", path(1, 2), 4}, {mixed + nextPart + inMessage + inC + "--c\r\n\r\none\r\n--c\r\n\r\ntwo\r\n--c--\r\n" + nextPart + "\r\nthree", path(2), 5}, {mixed + nextPart + inMessage + inC + "--c\r\n\r\none\r\n--c\r\n\r\ntwo", path(1, 1, 1), -1},
		// A multipart's child that is a message in a message.
		{inMessage + mixed + nextPart + inMessage + hi, path(1), 2}, {inMessage + mixed + nextPart + inMessage + hi, path(1, 1), 3}, {inMessage + mixed + nextPart + inMessage + hi, path(1, 1, 1), 3},
	} {
		checkFind(t, c.message, c.path, c.want)
	}
	checkNowhere(t, inMessage+hi, nil, 1)
	checkNowhere(t, inMessage+twoParts, nil, 2)
	checkNowhere(t, mixed+nextPart+inMessage+hi, path(1), 1)
}

func TestFindPartDeep(t *testing.T) {
	for count := range maxDeep + 3 {
		deepest := min(count, maxDeep)
		tower := strings.Repeat(inMessage, count) + "\r\nhi"
		steps := levels(count, "\r\nhi")
		for size := range maxDeep + 1 {
			checkFind(t, tower, ones(size), int64(min(size, deepest)))
			want := int64(size)
			if size > deepest && count > 0 {
				want = -1
			} else if count == 0 {
				want = 0
			}
			checkFind(t, steps, ones(size), want)
		}
		checkFind(t, tower, ones(maxDeep+1), -1)
		checkFind(t, steps, ones(maxDeep+1), -1)
	}
	// What is too deep for a child is no message with one, and not cut.
	deep := strings.Repeat(inMessage, maxDeep) + mixed + nextPart + "\r\nhi"
	checkFind(t, deep, ones(maxDeep), maxDeep)
	checkFind(t, deep, append(ones(maxDeep-1), 2), -1)
	checkFind(t, strings.Repeat(inMessage, maxDeep-1)+mixed+nextPart+"\r\nhi", ones(maxDeep-1), maxDeep)
	checkFind(t, strings.Repeat(inMessage, maxDeep-1)+mixed+nextPart+"\r\nhi", ones(maxDeep), -1)
}

// tooManyParts is a message that ReadHead takes and ReadParts does not.
func tooManyParts() string { return mixed + strings.Repeat(nextPart, maxParts) }

func TestFindPartRefuses(t *testing.T) {
	for _, message := range []string{
		"x", " A: b", "A: b\r\nx\r\n\r\nhi", strings.Repeat("A: b\r\n", maxFields+1), xs(maxText + 1), "A: b\r\n\r\n" + xs(maxText-7), tooManyParts(), inMessage + tooManyParts(),
	} {
		for _, path := range [][]int64{nil, {}, {1}, {2}, {1, 1}, {0}, {-1}, ones(maxDeep), ones(maxDeep + 1)} {
			checkFind(t, message, path, -1)
		}
	}
	most := mixed + strings.Repeat(nextPart, maxParts-1)
	checkFind(t, most, nil, 0)
	checkFind(t, most, path(maxParts-1), maxParts-1)
	checkNowhere(t, most, nil, maxParts-1)
	full := "A: b\r\n\r\n" + xs(maxText-8)
	checkFind(t, full, nil, 0)
	checkFind(t, full, path(1), 0)
	checkFind(t, "A: b\r\n\r\nhi", make([]int64, 100000), -1)
}

// allPaths are the paths of a message's parts, of at most size numbers: each part tells where its numbers lead.
func allPaths(list []impl.Part, at int64, path string, size int, found map[string]int64) {
	found[path] = at
	if size == 0 {
		return
	}
	p := list[at]
	if p.Content.Type == "message" && p.Children > 0 {
		at++
		p = list[at]
		if p.Content.Type != "multipart" {
			allPaths(list, at, path+"1.", size-1, found)
			return
		}
	}
	boundary := impl.ParamOf(p.Content, "boundary").Data
	cut := p.Content.Type == "multipart" && p.Coded == 0 && p.Depth < maxDeep && boundary != "" && len(boundary) <= maxBoundary && strings.TrimRight(boundary, " \t") == boundary
	if !cut && (p.Parent == -1 || list[p.Parent].Content.Type == "message") {
		allPaths(list, at, path+"1.", size-1, found)
	}
	number := 0
	for child, c := range list {
		if cut && c.Parent == at {
			number++
			allPaths(list, int64(child), path+strconv.Itoa(number)+".", size-1, found)
		}
	}
}

// somePaths are all paths of at most size numbers from -1 to top.
func somePaths(size int, top int64) [][]int64 {
	paths := [][]int64{nil}
	for from := 0; size > 0; size-- {
		end := len(paths)
		for ; from < end; from++ {
			for number := int64(-1); number <= top; number++ {
				paths = append(paths, append(slices.Clone(paths[from]), number))
			}
		}
	}
	return paths
}

func written(path []int64) string {
	text := ""
	for _, number := range path {
		text += strconv.FormatInt(number, 10) + "."
	}
	return text
}

// anyMessage is one with parts, mostly.
func (d *dice) anyMessage() string {
	message := d.text(d.below(30), partPieces)
	return []string{message, mixed + message, inMessage + message, mixed + nextPart + message, levels(d.below(3), mixed+message), inMessage + mixed + nextPart + inMessage + message}[d.below(6)]
}

func TestFindPartOfAnyTree(t *testing.T) {
	d := &dice{state: 90}
	paths := somePaths(4, 3)
	taken, reached := 0, 0
	for range 300 {
		message := d.anyMessage()
		if impl.ReadHead(message).Code != impl.OK {
			checkFind(t, message, nil, -1)
			continue
		}
		taken++
		list := slowParts(message, 0, len(message), -1, nil)
		want := map[string]int64{}
		allPaths(list, 0, "", 4, want)
		reached += len(want)
		for _, path := range paths {
			if at, there := want[written(path)]; there {
				checkFind(t, message, path, at)
			} else {
				checkFind(t, message, path, -1)
			}
		}
	}
	if taken < 200 || reached < 4*taken {
		t.Errorf("%d messages, %d paths", taken, reached)
	}
}

func checkSection(t *testing.T, message string, path []int64, what int64, want impl.Bytes, names ...string) {
	t.Helper()
	if got := impl.Section(message, path, what, names); got != want {
		t.Errorf("Section of %s, %s, %d, %s: %t %s, want %t %s", short(message), few(path), what, shown(names), got.Good, short(got.Data), want.Good, short(want.Data))
	}
}

func TestSections(t *testing.T) {
	head := "Subject: x\r\nX : y\r\n  z\r\nsubject: w\r\n\r\n"
	text := head + "hi\r\nho"
	forwarded := "Content-Type: message/rfc822\r\nX-Outer: o\r\n\r\n"
	first := "Content-Type: text/html\r\n\r\n"
	message := "To: a@b\r\n" + mixed + "pre\r\n" + nextPart + first + "one\r\n" + nextPart + forwarded + text + "\r\n" + nextPart + inMessage + "x\r\n" + nextPart + "x" + lastPart + "\r\nepi"
	body := message[len("To: a@b\r\n"+mixed):]
	none := impl.Bytes{}
	subjects, others := good("Subject: x\r\nsubject: w\r\n\r\n"), good("X: y\r\n  z\r\n\r\n")
	own := "Content-Type: multipart/mixed; boundary=b\r\n"
	for _, c := range []struct {
		path                                      []int64
		all, head, text, mime, fields, otherNames impl.Bytes
	}{
		{nil, good(message), good("To: a@b\r\n" + mixed), good(body), none, good("\r\n"), good("To: a@b\r\n" + own + "\r\n")},
		{path(), good(message), good("To: a@b\r\n" + mixed), good(body), none, good("\r\n"), good("To: a@b\r\n" + own + "\r\n")},
		{path(1), good("one"), none, none, good(first), none, none},
		{path(2), good(text), good(head), good("hi\r\nho"), good(forwarded), subjects, others},
		{path(2, 1), good("hi\r\nho"), none, none, good(head), none, none},
		{path(2, 1, 1), good("hi\r\nho"), none, none, good(head), none, none},
		{path(3), good("x"), none, none, good(inMessage), none, none},
		{path(4), good("x"), none, none, good(""), none, none},
		{path(5), none, none, none, none, none, none},
		{path(0), none, none, none, none, none, none},
		{path(-1), none, none, none, none, none, none},
		{path(1, 1), none, none, none, none, none, none},
		{path(3, 1), none, none, none, none, none, none},
		{ones(maxDeep + 1), none, none, none, none, none, none},
	} {
		checkSection(t, message, c.path, impl.ShowAll, c.all)
		checkSection(t, message, c.path, impl.ShowHead, c.head)
		checkSection(t, message, c.path, impl.ShowText, c.text)
		checkSection(t, message, c.path, impl.ShowMime, c.mime)
		checkSection(t, message, c.path, impl.ShowFields, c.fields, "SUBJECT", "cc")
		checkSection(t, message, c.path, impl.ShowNotFields, c.otherNames, "cc", "sUBJECt")
		// Names are nothing to the others.
		checkSection(t, message, c.path, impl.ShowAll, c.all, "SUBJECT", "x")
		checkSection(t, message, c.path, impl.ShowHead, c.head, "SUBJECT", "x")
		checkSection(t, message, c.path, impl.ShowText, c.text, "SUBJECT", "x")
		checkSection(t, message, c.path, impl.ShowMime, c.mime, "SUBJECT", "x")
		for _, what := range []int64{-1, 6, 7, 9, 256, 1 << 32, math.MaxInt64, math.MinInt64} {
			checkSection(t, message, c.path, what, none)
			checkSection(t, message, c.path, what, none, "Subject")
		}
	}
}

func TestSectionsOfOneMessage(t *testing.T) {
	none := impl.Bytes{}
	// The message by its number is the part, not the message itself.
	plain := "A: b\r\n\r\nx"
	for _, path := range [][]int64{{1}, {1, 1}, ones(maxDeep)} {
		checkSection(t, plain, path, impl.ShowAll, good("x"))
		checkSection(t, plain, path, impl.ShowMime, good("A: b\r\n\r\n"))
		for _, what := range []int64{impl.ShowHead, impl.ShowText, impl.ShowFields, impl.ShowNotFields} {
			checkSection(t, plain, path, what, none, "A")
		}
	}
	// Of a message that is a message, the empty path speaks of the outer one.
	two := inMessage + inMessage + "C: d\r\n\r\nhi"
	checkSection(t, two, nil, impl.ShowAll, good(two))
	checkSection(t, two, nil, impl.ShowHead, good(inMessage))
	checkSection(t, two, nil, impl.ShowText, good(inMessage+"C: d\r\n\r\nhi"))
	checkSection(t, two, nil, impl.ShowNotFields, good(inMessage))
	checkSection(t, two, path(1), impl.ShowAll, good("C: d\r\n\r\nhi"))
	checkSection(t, two, path(1), impl.ShowMime, good(inMessage))
	checkSection(t, two, path(1), impl.ShowHead, good("C: d\r\n\r\n"))
	checkSection(t, two, path(1), impl.ShowText, good("hi"))
	checkSection(t, two, path(1), impl.ShowFields, good("C: d\r\n\r\n"), "c")
	checkSection(t, two, path(1), impl.ShowNotFields, good("\r\n"), "c")
	checkSection(t, two, path(1, 1), impl.ShowAll, good("hi"))
	checkSection(t, two, path(1, 1), impl.ShowMime, good("C: d\r\n\r\n"))
	checkSection(t, two, path(1, 1), impl.ShowText, none)
	// Without a child there is no head to show.
	for _, message := range []string{inMessage + "x", inBase64 + inMessage + "A: b\r\n\r\nhi", otherMessage + "A: b\r\n\r\nhi"} {
		for _, what := range []int64{impl.ShowHead, impl.ShowText, impl.ShowFields, impl.ShowNotFields} {
			checkSection(t, message, path(1), what, none)
		}
		checkSection(t, message, path(1), impl.ShowAll, good(message[strings.Index(message, "\r\n\r\n")+4:]))
	}
	// A multipart's head is its own.
	inner := mixed + nextPart + inC + "--c\r\n\r\nhi\r\n--c--" + lastPart
	checkSection(t, inner, path(1), impl.ShowMime, good(inC))
	checkSection(t, inner, path(1), impl.ShowAll, good("--c\r\n\r\nhi\r\n--c--"))
	checkSection(t, inner, path(1), impl.ShowHead, none)
	checkSection(t, inner, path(1), impl.ShowText, none)
	// No head, no body.
	checkSection(t, "", nil, impl.ShowAll, good(""))
	checkSection(t, "", nil, impl.ShowHead, good(""))
	checkSection(t, "", nil, impl.ShowText, good(""))
	checkSection(t, "", nil, impl.ShowFields, good("\r\n"))
	checkSection(t, "", nil, impl.ShowMime, none)
	checkSection(t, "A: b", nil, impl.ShowHead, good("A: b"))
	checkSection(t, "A: b", nil, impl.ShowText, good(""))
	checkSection(t, "A: b", nil, impl.ShowNotFields, good("A: b\r\n\r\n"))
	checkSection(t, "A: b\r\n", nil, impl.ShowHead, good("A: b\r\n"))
	checkSection(t, "\r\nx", nil, impl.ShowHead, good("\r\n"))
	checkSection(t, "\r\nx", nil, impl.ShowText, good("x"))
}

func TestSectionsOfIllMessages(t *testing.T) {
	for _, message := range []string{"x", " A: b", "A: b\r\nx", strings.Repeat("A: b\r\n", maxFields+1), xs(maxText + 1), "A: b\r\n\r\n" + xs(maxText-7)} {
		for what := int64(-1); what < 7; what++ {
			for _, path := range [][]int64{nil, {}, {1}, {0}} {
				checkSection(t, message, path, what, impl.Bytes{}, "A")
			}
		}
	}
	// With too many parts there is none of them, but still the message itself.
	message := tooManyParts()
	for what := range int64(6) {
		checkSection(t, message, path(1), what, impl.Bytes{}, "A")
	}
	checkSection(t, message, nil, impl.ShowAll, good(message))
	checkSection(t, message, nil, impl.ShowNotFields, good(mixed), "A")
	checkSection(t, message, nil, impl.ShowMime, impl.Bytes{})
	checkSection(t, message, nil, 6, impl.Bytes{})
}

func TestSectionFields(t *testing.T) {
	message := "From: a\r\nTO: b\r\nfrom:c\r\n d\r\nX-y :\t e \r\nTo:\r\nFROM: f\r\n\r\nFrom: body"
	for _, c := range []struct {
		names        []string
		named, other string
	}{
		{nil, "", "From: a\r\nTO: b\r\nfrom:c\r\n d\r\nX-y:\t e \r\nTo:\r\nFROM: f\r\n"},
		{[]string{"none", "fro", "froms", "", "From:", " From", "from ", "ＦＲＯＭ"}, "", "From: a\r\nTO: b\r\nfrom:c\r\n d\r\nX-y:\t e \r\nTo:\r\nFROM: f\r\n"},
		{[]string{"from"}, "From: a\r\nfrom:c\r\n d\r\nFROM: f\r\n", "TO: b\r\nX-y:\t e \r\nTo:\r\n"},
		{[]string{"FROM", "from", "From"}, "From: a\r\nfrom:c\r\n d\r\nFROM: f\r\n", "TO: b\r\nX-y:\t e \r\nTo:\r\n"},
		// The order is the head's.
		{[]string{"to", "From"}, "From: a\r\nTO: b\r\nfrom:c\r\n d\r\nTo:\r\nFROM: f\r\n", "X-y:\t e \r\n"},
		{[]string{"X-Y"}, "X-y:\t e \r\n", "From: a\r\nTO: b\r\nfrom:c\r\n d\r\nTo:\r\nFROM: f\r\n"},
		{[]string{"x-Y", "tO", "fRoM"}, "From: a\r\nTO: b\r\nfrom:c\r\n d\r\nX-y:\t e \r\nTo:\r\nFROM: f\r\n", ""},
	} {
		checkSection(t, message, nil, impl.ShowFields, good(c.named+"\r\n"), c.names...)
		checkSection(t, message, nil, impl.ShowNotFields, good(c.other+"\r\n"), c.names...)
		inner := mixed + nextPart + inMessage + message
		checkSection(t, inner, path(1), impl.ShowFields, good(c.named+"\r\n"), c.names...)
		checkSection(t, inner, path(1), impl.ShowNotFields, good(c.other+"\r\n"), c.names...)
	}
	// Letters beyond A-Z are themselves.
	checkSection(t, "K: a\r\n\r\n", nil, impl.ShowFields, good("\r\n"), "\u212a")
	checkSection(t, "[: a\r\n\r\n", nil, impl.ShowFields, good("\r\n"), "{")
	checkSection(t, "@: a\r\n\r\n", nil, impl.ShowFields, good("\r\n"), "`")
	for letter := range 26 {
		small, capital := string(rune('a'+letter)), string(rune('A'+letter))
		checkSection(t, small+": x\r\n\r\n", nil, impl.ShowFields, good(small+": x\r\n\r\n"), capital)
		checkSection(t, capital+": x\r\n\r\n", nil, impl.ShowFields, good(capital+": x\r\n\r\n"), small)
	}
	many := strings.Repeat("A: b\r\n", maxFields)
	checkSection(t, many+"\r\nx", nil, impl.ShowFields, good(many+"\r\n"), "a")
	checkSection(t, many+"\r\nx", nil, impl.ShowNotFields, good(many+"\r\n"), "b")
}

func TestSectionNameLimits(t *testing.T) {
	message := "A: b\r\nC: d\r\n\r\nx"
	names := slices.Repeat([]string{"none"}, maxNames-1)
	most := append(slices.Clone(names), "a")
	checkSection(t, message, nil, impl.ShowFields, good("A: b\r\n\r\n"), most...)
	checkSection(t, message, nil, impl.ShowNotFields, good("C: d\r\n\r\n"), most...)
	checkSection(t, message, nil, impl.ShowHead, good("A: b\r\nC: d\r\n\r\n"), most...)
	for what := range int64(6) {
		checkSection(t, message, nil, what, impl.Bytes{}, append(most, "a")...)
		checkSection(t, message, nil, what, impl.Bytes{}, slices.Repeat([]string{"a"}, 3*maxNames)...)
		checkSection(t, message, path(1), what, impl.Bytes{}, append(most, "a")...)
		// A text that is too long is refused wherever it stands.
		checkSection(t, message, nil, what, impl.Bytes{}, "a", xs(maxText+1))
	}
	checkSection(t, message, nil, impl.ShowFields, good("A: b\r\n\r\n"), "a", xs(maxText))
	checkSection(t, message, nil, impl.ShowNotFields, good("C: d\r\n\r\n"), xs(maxText), "a")
}

func TestSectionLengths(t *testing.T) {
	full := "A: b\r\n\r\n" + xs(maxText-8)
	checkSection(t, full, nil, impl.ShowAll, good(full))
	checkSection(t, full, nil, impl.ShowHead, good("A: b\r\n\r\n"))
	checkSection(t, full, nil, impl.ShowText, good(xs(maxText-8)))
	checkSection(t, full, path(1), impl.ShowAll, good(xs(maxText-8)))
	checkSection(t, full, nil, impl.ShowFields, good("A: b\r\n\r\n"), "a")
	long := "A:" + xs(maxText-6) + "\r\n\r\n"
	checkSection(t, long, nil, impl.ShowHead, good(long))
	checkSection(t, long, nil, impl.ShowFields, good(long), "a")
	// What WriteHead writes has at most MaxText bytes: a head without its last line end may be too long for it.
	open := "A:" + xs(maxText-4)
	checkSection(t, open, nil, impl.ShowHead, good(open))
	checkSection(t, open, nil, impl.ShowFields, good(open+"\r\n\r\n"), "a")
	for _, message := range []string{open + "x", open + "xx"} {
		checkSection(t, message, nil, impl.ShowHead, good(message))
		checkSection(t, message, nil, impl.ShowFields, good("\r\n"), "a")
	}
}

// checkParted is promise 9's first sentence, and what goes with it.
func checkParted(t *testing.T, message string) {
	t.Helper()
	if impl.ReadHead(message).Code != impl.OK {
		t.Errorf("ReadHead does not take %s", short(message))
	}
	head, text := impl.Section(message, nil, impl.ShowHead, nil), impl.Section(message, nil, impl.ShowText, nil)
	if !head.Good || !text.Good || head.Data+text.Data != message {
		t.Errorf("Section of %s: %t %s, %t %s", short(message), head.Good, short(head.Data), text.Good, short(text.Data))
	}
	if all := impl.Section(message, nil, impl.ShowAll, nil); all != good(message) {
		t.Errorf("Section of %s: all is %t %s", short(message), all.Good, short(all.Data))
	}
	if head.Data != message[:impl.ReadHead(message).Body] {
		t.Errorf("Section of %s: the head is %s", short(message), short(head.Data))
	}
}

func TestPromise9Sections(t *testing.T) {
	many := strings.Repeat("A: b\r\n", maxFields)
	for _, message := range []string{
		"", "\r\n", "\r\n\r\n", "\r\nx", "A:", "A: b", "A: b\r\n", "A: b\r\n c", "A: b\r\n\r\n", "A: b\r\n\r\n\r\n", "A: b\r\n\r\nx", "A : b\r\n\r\n\n\r\x00", many, many + "\r\n", many + "\r\nx",
		"A: b\r\n\r\n" + xs(maxText-8), "A:" + xs(maxText-2), "A:" + xs(maxText-4) + "\r\n", "A:" + xs(maxText-6) + "\r\n\r\n", "A:" + xs(maxText-7) + "\r\n\r\nx", "\r\n" + xs(maxText-2),
		mixed, notCut + nextPart, inMessage, inMessage + "x", inMessage + inMessage, inBase64 + inMessage + "x", mixed + nextPart + "x" + lastPart, mixed + strings.Repeat(nextPart, maxParts-1), tooManyParts(), inMessage + tooManyParts(), mixed + strings.Repeat(nextPart, (maxText-len(mixed))/len(nextPart)), levels(maxDeep+3, "\r\nhi"), strings.Repeat(inMessage, maxDeep+3),
	} {
		checkParted(t, message)
	}
	d := &dice{state: 91}
	taken := 0
	for range 6000 {
		message := d.anyMessage()
		if d.below(2) == 0 {
			message = d.text(d.below(20), bodyPieces)
		}
		if impl.ReadHead(message).Code == impl.OK {
			taken++
			checkParted(t, message)
		}
	}
	for range 300 {
		checkParted(t, impl.WriteHead(d.fields(d.below(6)))+"\r\n"+d.text(d.below(20), bodyPieces))
	}
	if taken < 2000 {
		t.Errorf("%d messages", taken)
	}
}

// TestSectionsOfAnyTree holds what is shown of parts against their places.
func TestSectionsOfAnyTree(t *testing.T) {
	d := &dice{state: 92}
	none := impl.Bytes{}
	inner := 0
	for range 2500 {
		message := d.anyMessage()
		list := impl.ReadParts(message)
		for _, path := range [][]int64{{1}, {2}, {1, 1}, {1, 2}, {2, 1}, {1, 1, 1}} {
			at := impl.FindPart(message, path)
			if at < 0 {
				for what := range int64(6) {
					checkSection(t, message, path, what, none)
				}
				continue
			}
			p := list.Parts[at]
			checkSection(t, message, path, impl.ShowAll, good(message[p.Body:p.End]))
			checkSection(t, message, path, impl.ShowMime, good(message[p.Head:p.Body]))
			if p.Content.Type != "message" || p.Children == 0 {
				for _, what := range []int64{impl.ShowHead, impl.ShowText, impl.ShowFields, impl.ShowNotFields} {
					checkSection(t, message, path, what, none)
				}
				continue
			}
			inner++
			text := message[p.Body:p.End]
			head := impl.ReadHead(text)
			checkSection(t, message, path, impl.ShowHead, good(text[:head.Body]))
			checkSection(t, message, path, impl.ShowText, good(text[head.Body:]))
			checkSection(t, message, path, impl.ShowNotFields, good(impl.WriteHead(head.Fields)+"\r\n"))
			var named, others []impl.Field
			for _, field := range head.Fields {
				if strings.EqualFold(field.Name, "x") || strings.EqualFold(field.Name, "content-type") {
					named = append(named, field)
				} else {
					others = append(others, field)
				}
			}
			checkSection(t, message, path, impl.ShowFields, good(impl.WriteHead(named)+"\r\n"), "CONTENT-type", "x")
			checkSection(t, message, path, impl.ShowNotFields, good(impl.WriteHead(others)+"\r\n"), "x", "X", "CONTENT-type")
		}
	}
	if inner < 300 {
		t.Errorf("%d messages within parts", inner)
	}
}

func TestPieces(t *testing.T) {
	for _, c := range []struct {
		data        string
		from, count int64
		want        string
	}{
		{"abc", 0, 3, "abc"}, {"abc", 0, 2, "ab"}, {"abc", 1, 1, "b"}, {"abc", 1, 2, "bc"}, {"abc", 1, 5, "bc"}, {"abc", 2, 1, "c"}, {"abc", 2, 2, "c"},
		{"abc", 0, 0, ""}, {"abc", 1, 0, ""}, {"abc", 3, 0, ""}, {"abc", 3, 1, ""}, {"abc", 4, 0, ""}, {"abc", 4, 1, ""}, {"abc", 100, 100, ""},
		{"abc", -1, 0, ""}, {"abc", -1, 1, ""}, {"abc", -1, 2, ""}, {"abc", -1, 5, ""}, {"abc", 0, -1, ""}, {"abc", 1, -1, ""}, {"abc", 2, -2, ""}, {"abc", -1, -1, ""}, {"abc", 4, -1, ""}, {"abc", 3, -1, ""},
		{"", 0, 0, ""}, {"", 0, 1, ""}, {"", 1, 1, ""}, {"", -1, 1, ""}, {"", 0, math.MaxInt64, ""},
		{"abc", 0, math.MaxInt64, "abc"}, {"abc", 1, math.MaxInt64, "bc"}, {"abc", 2, math.MaxInt64 - 1, "c"}, {"abc", 3, math.MaxInt64, ""}, {"abc", math.MaxInt64, math.MaxInt64, ""}, {"abc", math.MaxInt64, 0, ""}, {"abc", math.MaxInt64, 1, ""}, {"abc", math.MinInt64, 1, ""}, {"abc", math.MinInt64, math.MaxInt64, ""}, {"abc", math.MinInt64, math.MinInt64, ""}, {"abc", 0, math.MinInt64, ""}, {"abc", 1, math.MinInt64, ""}, {"abc", math.MaxInt64, math.MinInt64, ""}, {"abc", 1 << 32, 1, ""}, {"abc", 0, 1 << 32, "abc"}, {"abc", 1, 1<<32 + 1, "bc"},
		{"é\x00\r\n", 1, 3, "\xa9\x00\r"},
		{xs(maxText), 0, maxText, xs(maxText)}, {xs(maxText), maxText - 1, 2, "x"}, {xs(maxText), maxText, 1, ""}, {xs(maxText), 1, maxText, xs(maxText - 1)},
		{xs(maxText + 1), 0, 1, ""}, {xs(maxText + 1), 0, maxText + 1, ""}, {xs(maxText + 1), maxText, 1, ""},
	} {
		if got := impl.Piece(c.data, c.from, c.count); got != c.want {
			t.Errorf("Piece of %s, %d, %d: %s, want %s", short(c.data), c.from, c.count, short(got), short(c.want))
		}
	}
	for from := range int64(12) {
		for count := range int64(12) {
			end := min(10, from+count)
			wantText(t, "Piece", fmt.Sprint(from, count), impl.Piece("0123456789", from, count), "0123456789"[min(from, end):end])
		}
	}
}

// TestPromise9Pieces has pieces that follow one another, of one size and of many, beyond the text's end too.
func TestPromise9Pieces(t *testing.T) {
	d := &dice{state: 93}
	texts := []string{"", "x", "\r\n", xs(10), xs(maxText), "A: b\r\n\r\n" + xs(maxText-8)}
	for range 200 {
		texts = append(texts, d.text(d.below(30), linePieces))
	}
	for _, text := range texts {
		for _, size := range []int{1, 2, 3, 7, 100, 99999, 100000, 100001} {
			if len(text)/size > 40000 {
				continue
			}
			var out strings.Builder
			for from := 0; from < len(text)+2*size; from += size {
				out.WriteString(impl.Piece(text, int64(from), int64(size)))
			}
			wantText(t, "pieces", text, out.String(), text)
		}
		var out strings.Builder
		for from := 0; from < len(text); {
			size := d.below(2 + len(text)/3)
			out.WriteString(impl.Piece(text, int64(from), int64(size)))
			from += size
		}
		wantText(t, "pieces", text, out.String(), text)
	}
}

func TestShownStrings(t *testing.T) {
	for _, c := range [][2]string{
		{"", `""`}, {"a", `"a"`}, {"a b", `"a b"`}, {`"`, `"\""`}, {`\`, `"\\"`}, {`\"`, `"\\\""`}, {`""`, `"\"\""`}, {`a"b\c`, `"a\"b\\c"`}, {"NIL", `"NIL"`}, {"{1}", `"{1}"`}, {"()", `"()"`}, {"a\tb", "\"a\tb\""}, {"\x01\x1f\x7f", "\"\x01\x1f\x7f\""}, {" a ", `" a "`},
		{"\r\n", "{2}\r\n\r\n"}, {"a\n", "{2}\r\na\n"}, {"\ra", "{2}\r\n\ra"}, {"a\x00b", "{3}\r\na\x00b"}, {"é", "{2}\r\né"}, {"\x80", "{1}\r\n\x80"}, {"\"\\\xff", "{3}\r\n\"\\\xff"},
		{xs(maxQuoted), `"` + xs(maxQuoted) + `"`}, {xs(maxQuoted + 1), "{1001}\r\n" + xs(maxQuoted+1)}, {strings.Repeat(`"`, maxQuoted), `"` + strings.Repeat(`\"`, maxQuoted) + `"`}, {strings.Repeat(`\`, maxQuoted+1), "{1001}\r\n" + strings.Repeat(`\`, maxQuoted+1)}, {xs(maxQuoted-1) + "\n", "{1000}\r\n" + xs(maxQuoted-1) + "\n"}, {xs(maxQuoted-1) + "\x00", "{1000}\r\n" + xs(maxQuoted-1) + "\x00"}, {xs(maxQuoted-1) + "\x7f", `"` + xs(maxQuoted-1) + "\x7f\""},
		{xs(maxText), "{100000}\r\n" + xs(maxText)}, {xs(maxText + 1), ""}, {strings.Repeat("\n", maxText+1), ""},
	} {
		wantText(t, "ShowString", c[0], impl.ShowString(c[0]), c[1])
	}
	for b := range 256 {
		text := string([]byte{'a', byte(b), 'z'})
		wantText(t, "ShowString", text, impl.ShowString(text), slowString(text))
		text = string([]byte{byte(b)})
		wantText(t, "ShowString", text, impl.ShowString(text), slowString(text))
	}
}

var plainText = regexp.MustCompile(`\A[\x01-\x09\x0b\x0c\x0e-\x7f]{0,1000}\z`)

// slowString writes a text as ShowString does.
func slowString(text string) string {
	if !plainText.MatchString(text) {
		return fmt.Sprintf("{%d}\r\n%s", len(text), text)
	}
	return `"` + strings.NewReplacer(`"`, `\"`, `\`, `\\`).Replace(text) + `"`
}

// envelope is one of which all but some things are NIL.
func envelope(things map[int]string) string {
	out := slices.Repeat([]string{"NIL"}, 10)
	for at, thing := range things {
		out[at] = thing
	}
	return "(" + strings.Join(out, " ") + ")"
}

var envelopeNames = []string{"Date", "Subject", "From", "Sender", "Reply-To", "To", "Cc", "Bcc", "In-Reply-To", "Message-ID"}

func isTextThing(at int) bool { return at < 2 || at > 7 }

func TestEnvelopeOfAll(t *testing.T) {
	message, want := "", []string{}
	for at, name := range envelopeNames {
		if isTextThing(at) {
			message += fmt.Sprintf("%s: v%d\r\n", name, at)
			want = append(want, fmt.Sprintf(`"v%d"`, at))
		} else {
			message += fmt.Sprintf("%s: N%d <l%d@d%d>\r\n", name, at, at, at)
			want = append(want, fmt.Sprintf(`(("N%d" NIL "l%d" "d%d"))`, at, at, at))
		}
	}
	wantText(t, "Envelope", message, impl.Envelope(message+"\r\nDate: body"), "("+strings.Join(want, " ")+")")
	// Their order in the head is nothing.
	lines := strings.SplitAfter(strings.TrimSuffix(message, "\r\n"), "\r\n")
	lines[len(lines)-1] += "\r\n"
	slices.Reverse(lines)
	wantText(t, "Envelope", message, impl.Envelope(strings.Join(lines, "")), "("+strings.Join(want, " ")+")")
	for at := range lines {
		// One of them lacks.
		missing := len(lines) - 1 - at
		less := slices.Clone(want)
		less[missing] = "NIL"
		switch missing {
		case 3, 4:
			less[missing] = want[2]
		}
		without := strings.Join(slices.Delete(slices.Clone(lines), at, at+1), "")
		wantText(t, "Envelope", without, impl.Envelope(without), "("+strings.Join(less, " ")+")")
	}
	wantText(t, "Envelope", "nothing", impl.Envelope(""), envelope(nil))
	wantText(t, "Envelope", "no field", impl.Envelope("\r\nDate: x\r\n"), envelope(nil))
	wantText(t, "Envelope", "others", impl.Envelope("Dates: x\r\nDat: x\r\nX-From: a@b\r\nTo-: a@b\r\n\r\n"), envelope(nil))
}

func TestEnvelopeValues(t *testing.T) {
	for at, name := range envelopeNames {
		if !isTextThing(at) {
			continue
		}
		for _, c := range [][2]string{
			{"x", `"x"`}, {" x", `"x"`}, {"\t  x \t ", `"x"`}, {"", `""`}, {" ", `""`}, {" \t", `""`}, {" a  b\tc ", "\"a  b\tc\""}, {"\r\n x", `"x"`}, {" a\r\n b\r\n\tc", "\"a b\tc\""}, {" a\r\n \r\n b ", `"a  b"`}, {" x\r\n ", `"x"`}, {"\r\n\t\r\n ", `""`},
			{" \"q\" \\", `"\"q\" \\"`}, {" =?utf-8?Q?=C3=A9?=", `"=?utf-8?Q?=C3=A9?="`}, {" é", "{2}\r\né"}, {" \x00", "{1}\r\n\x00"}, {" \x0b", "\"\x0b\""}, {" " + xs(maxQuoted) + " ", `"` + xs(maxQuoted) + `"`}, {" " + xs(maxQuoted+1), "{1001}\r\n" + xs(maxQuoted+1)}, {" NIL", `"NIL"`}, {" <1@b> <2@b>", `"<1@b> <2@b>"`},
		} {
			want := envelope(map[int]string{at: c[1]})
			for _, message := range []string{name + ":" + c[0], name + ":" + c[0] + "\r\n", strings.ToUpper(name) + " \t:" + c[0] + "\r\n\r\nDate: z", strings.ToLower(name) + ":" + c[0] + "\r\n" + name + ": second\r\n", "X: y\r\n" + name + ":" + c[0] + "\r\n" + strings.ToUpper(name) + ":\r\n\r\n"} {
				wantText(t, "Envelope", message, impl.Envelope(message), want)
			}
		}
	}
}

func TestEnvelopeBoxes(t *testing.T) {
	tooMany := strings.Repeat(",a@b", 501)
	for _, c := range [][2]string{
		{" a@b", `((NIL NIL "a" "b"))`}, {"a@b", `((NIL NIL "a" "b"))`}, {" Ann <a@b>", `(("Ann" NIL "a" "b"))`}, {" Ann Lee <a@b.C>", `(("Ann Lee" NIL "a" "b.C"))`}, {" a@b (Ann)", `(("Ann" NIL "a" "b"))`}, {" <a@b>", `((NIL NIL "a" "b"))`}, {" \"\" <a@b>", `((NIL NIL "a" "b"))`}, {" \"A \\\"q\\\" \\\\\" <a@b>", `(("A \"q\" \\" NIL "a" "b"))`}, {" \"a\\\"\"@[1.2]", `((NIL NIL "a\"" "[1.2]"))`}, {" é <é@é>", "(({2}\r\né NIL {2}\r\né {2}\r\né))"}, {" =?utf-8?Q?=C3=A9?= <a@b>", `(("=?utf-8?Q?=C3=A9?=" NIL "a" "b"))`},
		// Several: one behind the other.
		{" a@b, c@d", `((NIL NIL "a" "b")(NIL NIL "c" "d"))`}, {" Ann <a@b>,, c@d (Cy),", `(("Ann" NIL "a" "b")("Cy" NIL "c" "d"))`}, {" a@b, a@b, a@b", `((NIL NIL "a" "b")(NIL NIL "a" "b")(NIL NIL "a" "b"))`},
		// Groups.
		{" team: a@b, Cy <c@d>;", `((NIL NIL "a" "b")("Cy" NIL "c" "d"))`}, {" x@y, team: a@b;, z@w", `((NIL NIL "x" "y")(NIL NIL "a" "b")(NIL NIL "z" "w"))`}, {" team:;", "NIL"}, {" team:;, other:,;", "NIL"}, {" team:;, a@b", `((NIL NIL "a" "b"))`},
		// No box.
		{"", "NIL"}, {" ", "NIL"}, {",", "NIL"}, {" , ,", "NIL"}, {" (Ann)", "NIL"},
		// A code.
		{" a", "NIL"}, {" a@", "NIL"}, {" a@b c@d", "NIL"}, {" a@b, c", "NIL"}, {" a@b, <c@d", "NIL"}, {" a@b, \"x", "NIL"}, {" team: a@b", "NIL"}, {" a@b, \x00", "NIL"}, {" " + xs(65) + "@b", "NIL"}, {tooMany, "NIL"}, {tooMany[4:], "(" + strings.Repeat(`(NIL NIL "a" "b")`, 500) + ")"},
		// Folds.
		{"\r\n Ann\r\n\t<a@b>,\r\n c@d\r\n ", `(("Ann" NIL "a" "b")(NIL NIL "c" "d"))`}, {" \"A\r\n B\" <a@b>", `(("A B" NIL "a" "b"))`}, {" a@b (A\r\n B)", `((NIL NIL "a" "b"))`},
	} {
		for at, name := range envelopeNames {
			if isTextThing(at) {
				continue
			}
			want := map[int]string{at: c[1]}
			if name == "From" {
				want[3], want[4] = c[1], c[1]
			}
			for _, message := range []string{name + ":" + c[0], strings.ToUpper(name) + " :" + c[0] + "\r\n\r\nx", strings.ToLower(name) + ":" + c[0] + "\r\n" + name + ": second@x\r\n"} {
				wantText(t, "Envelope", message, impl.Envelope(message), envelope(want))
			}
		}
	}
}

func TestEnvelopeSenders(t *testing.T) {
	ann, bob, cy := `((NIL NIL "ann" "x"))`, `((NIL NIL "bob" "x"))`, `((NIL NIL "cy" "x"))`
	for _, c := range []struct {
		head string
		want map[int]string
	}{
		{"From: ann@x", map[int]string{2: ann, 3: ann, 4: ann}},
		{"From: ann@x\r\nSender: bob@x", map[int]string{2: ann, 3: bob, 4: ann}},
		{"From: ann@x\r\nReply-To: cy@x", map[int]string{2: ann, 3: ann, 4: cy}},
		{"Reply-To: cy@x\r\nSender: bob@x\r\nFrom: ann@x\r\nFrom: dee@x\r\nSender: dee@x\r\nReply-To: dee@x", map[int]string{2: ann, 3: bob, 4: cy}},
		{"Sender: bob@x", map[int]string{3: bob}},
		{"Reply-To: cy@x", map[int]string{4: cy}},
		{"Sender: bob@x\r\nReply-To: cy@x", map[int]string{3: bob, 4: cy}},
		// A field that is there stands for itself, be there no box in it.
		{"From: ann@x\r\nSender:\r\nReply-To: x", map[int]string{2: ann}},
		{"From: ann@x\r\nSender: team:;", map[int]string{2: ann, 4: ann}},
		{"From: ann@x\r\nReply-To: ,\r\nReply-To: cy@x", map[int]string{2: ann, 3: ann}},
		{"From: x", nil},
		{"From: x\r\nSender: bob@x", map[int]string{3: bob}},
		{"From:\r\nFrom: ann@x", nil},
		{"To: ann@x", map[int]string{5: ann}},
	} {
		wantText(t, "Envelope", c.head, impl.Envelope(c.head+"\r\n\r\nFrom: zed@x"), envelope(c.want))
	}
}

func TestEnvelopeRefuses(t *testing.T) {
	many := strings.Repeat("A: b\r\n", maxFields)
	for _, message := range []string{"x", " Date: x", "Date: x\r\ny", "Date: x\r\n\ry", "Date: x\n\r\n", many + "Date: x", xs(maxText + 1), "Date: x\r\n\r\n" + xs(maxText-10)} {
		wantText(t, "Envelope", message, impl.Envelope(message), "")
		wantText(t, "Structure", message, impl.Structure(message), "")
		wantText(t, "SubjectOf", message, impl.SubjectOf(message), "")
	}
	wantText(t, "Envelope", "full", impl.Envelope("Date: x\r\n\r\n"+xs(maxText-11)), envelope(map[int]string{0: `"x"`}))
	wantText(t, "Envelope", "full", impl.Envelope("Date:"+xs(maxText-5)), envelope(map[int]string{0: "{99995}\r\n" + xs(maxText-5)}))
	wantText(t, "Envelope", "full", impl.Envelope(many[6:]+"Date: x"), envelope(map[int]string{0: `"x"`}))
	// The parts do not matter to it.
	wantText(t, "Envelope", "too many parts", impl.Envelope("Date: x\r\n"+tooManyParts()), envelope(map[int]string{0: `"x"`}))
	wantText(t, "Structure", "too many parts", impl.Structure(tooManyParts()), "")
}

func TestStructureOfOne(t *testing.T) {
	for _, c := range [][2]string{
		{"", `("text" "plain" NIL NIL NIL "7BIT" 0 0)`}, {"A: b", `("text" "plain" NIL NIL NIL "7BIT" 0 0)`}, {"\r\nhi", `("text" "plain" NIL NIL NIL "7BIT" 2 0)`}, {"\r\nhi\r\n", `("text" "plain" NIL NIL NIL "7BIT" 4 1)`}, {"A: b\r\n\r\n\r\n\r\nx\r\n", `("text" "plain" NIL NIL NIL "7BIT" 7 3)`},
		// Line ends alone are counted.
		{"\r\n\n\r\r\n\n\r", `("text" "plain" NIL NIL NIL "7BIT" 6 1)`}, {"\r\na\nb\rc", `("text" "plain" NIL NIL NIL "7BIT" 5 0)`}, {"\r\n\r\r\n\n", `("text" "plain" NIL NIL NIL "7BIT" 4 1)`},
		// Each coding.
		{"Content-Transfer-Encoding: 7bit\r\n\r\nx", `("text" "plain" NIL NIL NIL "7BIT" 1 0)`}, {"Content-Transfer-Encoding: 8BIT\r\n\r\nx", `("text" "plain" NIL NIL NIL "7BIT" 1 0)`}, {"Content-Transfer-Encoding: binary\r\n\r\nx", `("text" "plain" NIL NIL NIL "7BIT" 1 0)`}, {inBase64 + "\r\nYQ==\r\n", `("text" "plain" NIL NIL NIL "BASE64" 6 1)`}, {"Content-Transfer-Encoding: Quoted-Printable\r\n\r\na=\r\nb", `("text" "plain" NIL NIL NIL "QUOTED-PRINTABLE" 5 1)`}, {"Content-Transfer-Encoding: x\r\n\r\n", `("text" "plain" NIL NIL NIL "OTHER" 0 0)`}, {inBase64 + "\r\n!", `("text" "plain" NIL NIL NIL "BASE64" 1 0)`},
		// Parameters.
		{"Content-Type: TEXT/Html; Charset=UTF-8\r\n\r\n", `("text" "html" ("charset" "UTF-8") NIL NIL "7BIT" 0 0)`}, {"Content-Type: text/x; a=b; c=\"d \\\"\\\\\"; e=\"\"\r\n\r\n", `("text" "x" ("a" "b" "c" "d \"\\" "e" "") NIL NIL "7BIT" 0 0)`}, {"Content-Type: text/x; a*=utf-8''%C3%A9\r\n\r\n", "(\"text\" \"x\" (\"a\" {2}\r\né) NIL NIL \"7BIT\" 0 0)"}, {"Content-Type: text/x; a=" + xs(maxValue) + "\r\n\r\n", `("text" "x" ("a" "` + xs(maxValue) + `") NIL NIL "7BIT" 0 0)`}, {"Content-Type: text/x; a*=utf-8''%00\r\n\r\n", "(\"text\" \"x\" (\"a\" {1}\r\n\x00) NIL NIL \"7BIT\" 0 0)"},
		// No text: no line ends are told.
		{"Content-Type: image/png\r\n\r\na\r\nb\r\n", `("image" "png" NIL NIL NIL "7BIT" 6)`}, {inBase64 + "Content-Type: image/png; name=x\r\n\r\nYQ==", `("image" "png" ("name" "x") NIL NIL "BASE64" 4)`}, {"Content-Type: texts/plain\r\n\r\n\r\n", `("texts" "plain" NIL NIL NIL "7BIT" 2)`},
		// A Content-Type that is none.
		{"Content-Type: image\r\n\r\nx", `("text" "plain" NIL NIL NIL "7BIT" 1 0)`}, {"Content-Type: ;\r\n\r\nx", `("text" "plain" NIL NIL NIL "7BIT" 1 0)`}, {"Content-Type: image/a\r\nContent-Type: text/b\r\n\r\nx", `("image" "a" NIL NIL NIL "7BIT" 1)`},
		// Multiparts without children.
		{mixed, `("multipart" "mixed" ("boundary" "b") NIL NIL "7BIT" 0)`}, {mixed + "a\r\nb", `("multipart" "mixed" ("boundary" "b") NIL NIL "7BIT" 4)`}, {mixed + "--b--\r\n", `("multipart" "mixed" ("boundary" "b") NIL NIL "7BIT" 7)`}, {notCut + nextPart + "\r\nhi", `("multipart" "mixed" NIL NIL NIL "7BIT" 9)`}, {inBase64 + mixed + nextPart + "\r\nhi", `("multipart" "mixed" ("boundary" "b") NIL NIL "BASE64" 9)`},
		// Messages without a child.
		{inMessage + "x\r\n", `("message" "rfc822" NIL NIL NIL "7BIT" 3)`}, {inBase64 + inMessage + "A: b\r\n", `("message" "rfc822" NIL NIL NIL "BASE64" 6)`}, {otherMessage + "A: b\r\n\r\nhi", `("message" "partial" NIL NIL NIL "7BIT" 10)`}, {"Content-Transfer-Encoding: x\r\nContent-Type: message/rfc822; a=b\r\n\r\n", `("message" "rfc822" ("a" "b") NIL NIL "OTHER" 0)`},
		// Lengths.
		{"\r\n" + xs(maxText-2), `("text" "plain" NIL NIL NIL "7BIT" 99998 0)`}, {strings.Repeat("\r\n", maxText/2), `("text" "plain" NIL NIL NIL "7BIT" 99998 49999)`},
	} {
		wantText(t, "Structure", c[0], impl.Structure(c[0]), c[1])
	}
}

func TestStructureOfTrees(t *testing.T) {
	none := envelope(nil)
	leaf := func(size, lines int) string {
		return fmt.Sprintf(`("text" "plain" NIL NIL NIL "7BIT" %d %d)`, size, lines)
	}
	forwarded := func(size int, envelope, structure string, lines int) string {
		return fmt.Sprintf(`("message" "rfc822" NIL NIL NIL "7BIT" %d %s %s %d)`, size, envelope, structure, lines)
	}
	for _, c := range [][2]string{
		// Multiparts: their parameters are not told.
		{mixed + nextPart + "\r\none" + lastPart, "(" + leaf(3, 0) + ` "mixed")`}, {mixed + nextPart + "\r\none\r\n" + nextPart + "\r\ntwo\r\n\r\n" + nextPart + "x" + lastPart + "\r\nepi", "(" + leaf(3, 0) + leaf(5, 1) + leaf(1, 0) + ` "mixed")`}, {mixed + nextPart, "(" + leaf(0, 0) + ` "mixed")`},
		{mixed + nextPart + inC + "--c\r\n\r\none\r\n--c\r\nContent-Type: a/b\r\n\r\ntwo\r\n--c--\r\n" + nextPart + "\r\nthree", "((" + leaf(3, 0) + `("a" "b" NIL NIL NIL "7BIT" 3) "x")` + leaf(5, 0) + ` "mixed")`},
		{mixed + nextPart + inC + lastPart, `(("multipart" "x" ("boundary" "c") NIL NIL "7BIT" 0) "mixed")`},
		{"Content-Type: multipart/a.b+c; boundary=b\r\n\r\n" + nextPart, "(" + leaf(0, 0) + ` "a.b+c")`},
		// Messages.
		{inMessage, forwarded(0, none, leaf(0, 0), 0)}, {inMessage + "\r\nhi", forwarded(4, none, leaf(2, 0), 1)}, {inMessage + "Subject: s\r\nTo: a@b\r\n\r\nhi\r\nho\r\n", forwarded(31, envelope(map[int]string{1: `"s"`, 5: `((NIL NIL "a" "b"))`}), leaf(8, 2), 5)},
		{"Subject: outer\r\n" + inMessage + "\r\nhi", forwarded(4, none, leaf(2, 0), 1)},
		{inMessage + inMessage + "Date: d\r\n\r\nhi", forwarded(45, none, forwarded(13, envelope(map[int]string{0: `"d"`}), leaf(2, 0), 2), 4)},
		{inMessage + mixed + nextPart + "\r\none" + lastPart, forwarded(62, none, "("+leaf(3, 0)+` "mixed")`, 5)},
		{mixed + nextPart + "Content-Type: Message/RFC822; x=y\r\n\r\nSubject: s\r\n\r\nhi\r\n" + nextPart + "\r\ntwo" + lastPart, `(("message" "rfc822" ("x" "y") NIL NIL "7BIT" 16 ` + envelope(map[int]string{1: `"s"`}) + " " + leaf(2, 0) + " 2)" + leaf(3, 0) + ` "mixed")`},
		{mixed + nextPart + inMessage + "x" + lastPart, `(("message" "rfc822" NIL NIL NIL "7BIT" 1) "mixed")`},
		{inMessage + inBase64 + inMessage + "A: b\r\n", forwarded(73, none, `("message" "rfc822" NIL NIL NIL "BASE64" 6)`, 4)},
		{inMessage + mixed + "hi", forwarded(47, none, `("multipart" "mixed" ("boundary" "b") NIL NIL "7BIT" 2)`, 2)},
	} {
		wantText(t, "Structure", c[0], impl.Structure(c[0]), c[1])
	}
}

// slowStructure tells of a part and all below it by what slowParts has read.
func slowStructure(message string, list []impl.Part, at int) string {
	p := list[at]
	body := message[p.Body:p.End]
	inner := ""
	for child, c := range list {
		if c.Parent == int64(at) {
			inner += slowStructure(message, list, child)
		}
	}
	if p.Content.Type == "multipart" && inner != "" {
		return fmt.Sprintf("(%s %s)", inner, slowString(p.Content.Sub))
	}
	params := "NIL"
	for number, param := range p.Content.Params {
		if number == 0 {
			params = "("
		}
		params = strings.TrimSuffix(params, ")") + slowString(param.Name) + " " + slowString(param.Value) + " )"
	}
	params = strings.Replace(params, " )", ")", 1)
	coding := []string{"7BIT", "BASE64", "QUOTED-PRINTABLE", "OTHER"}[p.Coded]
	text := fmt.Sprintf(`(%s %s %s NIL NIL "%s" %d`, slowString(p.Content.Type), slowString(p.Content.Sub), params, coding, len(body))
	lines := len(strings.Split(body, "\r\n")) - 1
	if p.Content.Type == "text" {
		text += fmt.Sprint(" ", lines)
	}
	if p.Content.Type == "message" && inner != "" {
		text += fmt.Sprint(" ", impl.Envelope(body), " ", inner, " ", lines)
	}
	return text + ")"
}

func TestStructureOfAnyTree(t *testing.T) {
	d := &dice{state: 94}
	taken, parts := 0, 0
	for range 3000 {
		message := d.anyMessage()
		if impl.ReadHead(message).Code != impl.OK {
			wantText(t, "Structure", message, impl.Structure(message), "")
			continue
		}
		list := slowParts(message, 0, len(message), -1, nil)
		taken, parts = taken+1, parts+len(list)
		wantText(t, "Structure", message, impl.Structure(message), slowStructure(message, list, 0))
	}
	if taken < 1500 || parts < 3*taken {
		t.Errorf("%d messages, %d parts", taken, parts)
	}
	// As deep as it goes, where what is too deep is told as it would be without children.
	for _, message := range []string{levels(maxDeep, "\r\nhi"), levels(maxDeep+1, "\r\nhi"), strings.Repeat(inMessage, maxDeep) + "\r\nhi", strings.Repeat(inMessage, maxDeep+1) + "\r\nhi", strings.Repeat(inMessage, maxDeep) + mixed + nextPart, mixed + strings.Repeat(nextPart, maxParts-1), mixed + strings.Repeat(nextPart+inMessage+"\r\nhi\r\n", 99) + "--b"} {
		list := slowParts(message, 0, len(message), -1, nil)
		wantText(t, "Structure", message, impl.Structure(message), slowStructure(message, list, 0))
	}
}

func TestSubjects(t *testing.T) {
	for _, c := range [][2]string{
		{" x", "x"}, {"x", "x"}, {"", ""}, {" ", ""}, {" \t ", ""}, {" Hello World", "hello world"}, {"  a \t b\t\tc  ", "a b c"}, {"\ta", "a"}, {" A\r\n B\r\n\tC", "a b c"}, {"\r\n x\r\n ", "x"}, {" AZ[]@`az", "az[]@`az"},
		// Coded words.
		{" =?utf-8?Q?=C3=A9?=", "é"}, {" =?utf-8?B?w4k=?= X", "É x"}, {" =?latin1?Q?A_=E9?=\r\n =?utf-8?Q?B?=", "a éb"}, {" =?utf-8?Q?_a__b=09=20c_?= ", "a b c"}, {" =?utf-8?Q?Re:_x?=", "x"}, {" =?utf-8?Q?re?=: x", "=?utf-8?q?re?=: x"}, {" x =?utf-8?Q?(fwd)?=", "x"}, {" =?none?Q?X?=", "=?none?q?x?="}, {" =?utf-8?Q?a=0D=0Ab?=", "a\r\nb"}, {" =?utf-8?Q?=0Ax?=", "\nx"}, {" =?utf-8?Q?=C2=A0x?=", "\u00a0x"}, {" \xe9\x00", "\ufffd\x00"}, {" é", "\ufffd\ufffd"}, {" =?utf-16be?B?2D3eAA==?=", "😀"},
		// Signs at the beginning.
		{" Re: x", "x"}, {" re:x", "x"}, {" RE:  x", "x"}, {" FW: x", "x"}, {" fWd:x", "x"}, {" re: fw: fwd: x", "x"}, {" Fwd:Re:FW:re:x", "x"}, {" re: \t re:\r\n re: x", "x"}, {" re: x re: y", "x re: y"},
		// One without its sign, and others.
		{" re x", "re x"}, {" re", "re"}, {" fw", "fw"}, {" fwd", "fwd"}, {" re : x", "re : x"}, {" fwd :x", "fwd :x"}, {" fwdx: y", "fwdx: y"}, {" re; x", "re; x"}, {" xre: y", "xre: y"}, {" re[2]: x", "re[2]: x"}, {" fw :", "fw :"}, {" f: x", "f: x"}, {" :x", ":x"}, {" aw: x", "aw: x"}, {" fwre: x", "fwre: x"}, {" [x] re: y", "[x] re: y"}, {" re:: x", ": x"}, {" re: re x", "re x"},
		// Signs at the end.
		{" x (fwd)", "x"}, {" x(FWD)", "x"}, {" x (Fwd) \t(fwd)", "x"}, {" x (fwd)(fwd) ", "x"}, {" x (fwd) y", "x (fwd) y"}, {" (fwd) x", "(fwd) x"}, {" x (fwd", "x (fwd"}, {" x fwd)", "x fwd)"}, {" x ( fwd)", "x ( fwd)"}, {" x (fw)", "x (fw)"}, {" x (re)", "x (re)"}, {" x (fwd).", "x (fwd)."}, {" x ((fwd))", "x ((fwd))"},
		// Both, and nothing left.
		{" fwd: RE:re: a (FWD) (fwd)", "a"}, {" re: (fwd) x (fwd)", "(fwd) x"}, {" Re:", ""}, {" fw:", ""}, {" fwd:", ""}, {" (fwd)", ""}, {" re: fw: fwd:", ""}, {" (fwd) (fwd)", ""}, {" re: (fwd)", ""}, {" re:(fwd)", ""}, {" (fwd) re: (fwd)", "(fwd) re:"}, {" re (fwd)", "re"}, {" re: re (fwd)", "re"}, {" re:fwd:(fwd)(fwd)", ""}, {" x re:", "x re:"}, {" fwd: (fwd", "(fwd"},
	} {
		for _, message := range []string{"Subject:" + c[0], "SUBJECT :" + c[0] + "\r\n\r\nSubject: body", "X-Subject: y\r\nsubject:" + c[0] + "\r\nSubject: second\r\n\r\n"} {
			wantText(t, "SubjectOf", message, impl.SubjectOf(message), c[1])
		}
	}
	for _, message := range []string{"", "\r\n", "\r\nSubject: x", "A: b\r\n\r\nSubject: x", "Subjects: x", inMessage + "Subject: x\r\n\r\n"} {
		wantText(t, "SubjectOf", message, impl.SubjectOf(message), "")
	}
	wantText(t, "SubjectOf", "too many parts", impl.SubjectOf("Subject: X\r\n"+tooManyParts()), "x")
}

func TestSubjectLengths(t *testing.T) {
	full := "Subject:" + xs(maxText-8)
	wantText(t, "SubjectOf", full, impl.SubjectOf(full), xs(maxText-8))
	wantText(t, "SubjectOf", "more", impl.SubjectOf(full+"x"), "")
	wantText(t, "SubjectOf", "more", impl.SubjectOf("Subject: x\r\n\r\n"+xs(maxText-13)), "")
	wantText(t, "SubjectOf", "all", impl.SubjectOf("Subject: x\r\n\r\n"+xs(maxText-14)), "x")
	// Many signs, and characters that have more bytes than they had.
	many := strings.Repeat("re:", 16000) + "x" + strings.Repeat("(fwd)", 10000)
	wantText(t, "SubjectOf", "many signs", impl.SubjectOf("Subject:"+many), "x")
	wantText(t, "SubjectOf", "many blanks", impl.SubjectOf("Subject:"+strings.Repeat(" \t", 20000)+"a"+strings.Repeat("\t ", 20000)+"b"), "a b")
	wantText(t, "SubjectOf", "wide", impl.SubjectOf("Subject:"+strings.Repeat("\xff", maxText-8)), strings.Repeat("\ufffd", maxText-8))
}

var (
	blankRun   = regexp.MustCompile(`[ \t]+`)
	capitals   = regexp.MustCompile(`[A-Z]`)
	markAhead  = regexp.MustCompile(`\A(re|fwd?):[ \t]*`)
	markBehind = regexp.MustCompile(`[ \t]*\(fwd\)\z`)
)

// slowSubject makes the base subject of a text by patterns.
func slowSubject(text string) string {
	text = strings.Trim(blankRun.ReplaceAllString(text, " "), " ")
	text = capitals.ReplaceAllStringFunc(text, strings.ToLower)
	for markAhead.MatchString(text) || markBehind.MatchString(text) {
		text = markBehind.ReplaceAllString(markAhead.ReplaceAllString(text, ""), "")
	}
	return text
}

func TestSubjectsOfAnyKind(t *testing.T) {
	d := &dice{state: 95}
	pieces := []string{"re:", "Re:", "fw:", "FWD:", "fwd", "re", ":", "(fwd)", "(Fwd)", "(", ")", " ", " ", "\t", "  ", "x", "Y", "é", "=?", "?=", ".", "\x0b"}
	bare := 0
	for range 20000 {
		text := d.text(d.below(12), pieces)
		want := slowSubject(text)
		if want == "" {
			bare++
		}
		words := impl.WriteWords(runes(text))
		wantText(t, "SubjectOf", text, impl.SubjectOf("Subject: "+impl.Fold(words, 9)+"\r\n\r\n"), want)
	}
	if bare < 500 || bare > 10000 {
		t.Errorf("%d have nothing left", bare)
	}
}

func TestShowTakesWhateverComes(t *testing.T) {
	d := &dice{state: 96}
	pieces := append(slices.Clone(bodyPieces), partPieces...)
	pieces = append(pieces, "Subject: ", "From: ", "To: a@b\r\n", "Cc: x:", ";\r\n", "=?utf-8?Q?", "?=", "Date:")
	for range 3000 {
		message := d.text(d.below(25), pieces)
		takes := impl.ReadHead(message).Code == impl.OK
		if (impl.Envelope(message) != "") != takes || (impl.Structure(message) != "") != (impl.ReadParts(message).Code == impl.OK) {
			t.Errorf("Envelope and Structure of %s: %s, %s", short(message), short(impl.Envelope(message)), short(impl.Structure(message)))
		}
		subject := impl.SubjectOf(message)
		wantText(t, "SubjectOf", message, subject, slowSubject(subject))
		path := make([]int64, d.below(4))
		for at := range path {
			path[at] = int64(d.below(5) - 1)
		}
		at := impl.FindPart(message, path)
		for what := int64(-1); what < 7; what++ {
			got := impl.Section(message, path, what, []string{"to", "SUBJECT"})
			if got.Good && (what < 0 || what > 5 || at < 0) || !got.Good && got.Data != "" {
				t.Errorf("Section of %s, %v, %d: %v", short(message), path, what, got)
			}
		}
		impl.Piece(message, int64(d.below(20)-3), int64(d.below(20)-3))
		wantText(t, "ShowString", message, impl.ShowString(message), slowString(message))
	}
}

func TestShowIsNewMemory(t *testing.T) {
	message := strings.Clone("Subject: hello\r\nFrom: ann <a@b>\r\n" + mixed + nextPart + "\r\none\r\n" + nextPart + inMessage + "To: c@d\r\n\r\nhi" + lastPart)
	names := []string{"Subject", "From", "To"}
	numbers := []int64{2, 1, 7}
	for what := range int64(6) {
		for _, path := range [][]int64{nil, {1}, numbers[:1], numbers[:2]} {
			wantOwnMemory(t, "Section", message, impl.Section(message, path, what, names[:2]).Data)
		}
	}
	for _, plain := range []string{"A: b", "\r\nx"} {
		plain = strings.Clone(plain)
		for what := range int64(6) {
			wantOwnMemory(t, "Section", plain, impl.Section(plain, nil, what, nil).Data)
		}
	}
	impl.FindPart(message, numbers[:2])
	wantOwnMemory(t, "Piece", message, impl.Piece(message, 0, maxText), impl.Piece(message, 3, 4))
	wantOwnMemory(t, "ShowString", message, impl.ShowString(message))
	wantOwnMemory(t, "Envelope", message, impl.Envelope(message), impl.Structure(message), impl.SubjectOf(message))
	if !slices.Equal(names, []string{"Subject", "From", "To"}) || !slices.Equal(numbers, path(2, 1, 7)) {
		t.Errorf("an argument was changed: %v, %v", names, numbers)
	}
}
