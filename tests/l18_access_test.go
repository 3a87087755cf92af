package tests

import (
	"fmt"
	"math"
	"regexp"
	"runtime"
	"slices"
	"strconv"
	"strings"
	"testing"
	"time"

	"loop.example/g00013/impl"
)

const (
	maxSessions  = 8
	maxUsers     = 20
	maxTold      = 1000000
	maxUserText  = 40
	maxTag       = 20
	maxItem      = 100
	maxItemCount = 20
)

func TestAccessConstants(t *testing.T) {
	wantNumbers(t, "limits", "", []int64{impl.MaxSessions, impl.MaxUsers, impl.MaxTold}, []int64{maxSessions, maxUsers, maxTold})
}

var userForm = regexp.MustCompile(`\A[!#-'*-\[\]-z|}~]{1,40}\z`)

func slowAccessFault(users []impl.AccessUser) int64 {
	right := len(users) <= maxUsers
	for _, user := range users {
		right = right && userForm.MatchString(user.Name) && userForm.MatchString(user.Password)
	}
	return keyCode(right)
}

func checkAccessFault(t *testing.T, what string, right bool, users ...impl.AccessUser) {
	t.Helper()
	if got := impl.AccessFault(users); got != keyCode(right) {
		t.Errorf("AccessFault, %s: %d, want %d", what, got, keyCode(right))
	}
	if slow := slowAccessFault(users); slow != keyCode(right) {
		t.Errorf("the test's own fault, %s: %d, want %d", what, slow, keyCode(right))
	}
	run := impl.RunAccess(impl.StoreStart(), users, 0, nil)
	if run.Code != keyCode(right) {
		t.Errorf("RunAccess, %s: %d, want %d", what, run.Code, keyCode(right))
	}
}

func TestAccessFault(t *testing.T) {
	user := impl.AccessUser{Name: "ann", Password: "p"}
	checkAccessFault(t, "no user", true)
	checkAccessFault(t, "the zero user", false, impl.AccessUser{})
	for count, right := range map[int]bool{1: true, 2: true, maxUsers - 1: true, maxUsers: true, maxUsers + 1: false, 3 * maxUsers: false} {
		checkAccessFault(t, fmt.Sprint(count, " users"), right, slices.Repeat([]impl.AccessUser{user}, count)...)
	}
	checkText := func(text string, right bool) {
		t.Helper()
		for _, readOnly := range []bool{false, true} {
			checkAccessFault(t, "the name "+short(text), right, impl.AccessUser{Name: text, Password: "p", ReadOnly: readOnly})
			checkAccessFault(t, "the password "+short(text), right, impl.AccessUser{Name: "ann", Password: text, ReadOnly: readOnly})
			checkAccessFault(t, "last the name "+short(text), right, user, impl.AccessUser{Name: text, Password: "p", ReadOnly: readOnly})
			checkAccessFault(t, "last the password "+short(text), right, user, impl.AccessUser{Name: "ann", Password: text, ReadOnly: readOnly})
		}
	}
	for size, right := range map[int]bool{0: false, 1: true, 2: true, maxUserText - 1: true, maxUserText: true, maxUserText + 1: false, 300: false, maxText: false, maxText + 1: false} {
		checkText(xs(size), right)
	}
	for _, b := range []byte(allBytes) {
		right := b >= 33 && b <= 126 && strings.IndexByte("\"(){\\", b) < 0
		for _, text := range some(string([]byte{b}), string([]byte{'a', b, 'z'}), string([]byte{'a', b}), string([]byte{b, 'z'})) {
			checkText(text, right)
		}
	}
	checkText("é", false)
	checkText("a}[]b", true)
}

func TestShowFlags(t *testing.T) {
	for _, c := range []struct {
		flags []string
		want  string
	}{
		{nil, "()"},
		{some(), "()"},
		{some("a"), "(a)"},
		{some(`\Seen`), `(\Seen)`},
		{some("b", "a"), "(b a)"},
		{some(`\Seen`, "$x", "y-_"), `(\Seen $x y-_)`},
		{some(""), "()"},
		{some("", ""), "( )"},
		{some("a b", ")", `"`), `(a b ) ")`},
		{some("\xff\x00", "\r\n"), "(\xff\x00 \r\n)"},
		{some("a", "a"), "(a a)"},
		{manyFlags(0, 30), "(" + strings.Join(manyFlags(0, 30), " ") + ")"},
		{some(xs(maxText), xs(maxText)), "(" + xs(maxText) + " " + xs(maxText) + ")"},
		{some(xs(maxText + 1)), ""},
		{some("a", xs(maxText+1)), ""},
	} {
		wantText(t, "ShowFlags", strings.Join(c.flags, ","), impl.ShowFlags(c.flags), c.want)
	}
}

func slowShowFlags(flags []string) string { return "(" + strings.Join(flags, " ") + ")" }

var (
	bodyItemForm = regexp.MustCompile(`\ABODY\[((?:[0-9]{1,4}(?:\.[0-9]{1,4})*)?)(\.?)((?:HEAD|TEXT|MIME)?)\](<([0-9]{1,6})\.([0-9]{1,6})>)?\z`)
	sectionWords = map[string]int64{"": impl.ShowAll, "HEAD": impl.ShowHead, "TEXT": impl.ShowText, "MIME": impl.ShowMime}
)

// slowBodyItem is what an item of a body asks for, and nil if it is none.
func slowBodyItem(item string) []string {
	found := bodyItemForm.FindStringSubmatch(item)
	if found == nil || len(item) > maxItem || (found[2] != "") != (found[1] != "" && found[3] != "") {
		return nil
	}
	return found
}

func isFetchable(item string) bool {
	return slices.Contains(some("FLAGS", "SIZE", "DATE", "MOD", "ENVELOPE", "STRUCTURE"), item) || slowBodyItem(item) != nil
}

func slowFetched(m impl.Mail, item string) string {
	orNil := func(text string) string {
		if text == "" {
			return "NIL"
		}
		return text
	}
	switch item {
	case "FLAGS":
		return "FLAGS " + slowShowFlags(m.Flags)
	case "SIZE":
		return fmt.Sprint("SIZE ", len(m.Message))
	case "MOD":
		return fmt.Sprint("MOD ", m.Mod)
	case "ENVELOPE":
		return "ENVELOPE " + orNil(impl.Envelope(m.Message))
	case "STRUCTURE":
		return "STRUCTURE " + orNil(impl.Structure(m.Message))
	case "DATE":
		if m.Time < 0 || m.Time > maxTime {
			return `DATE ""`
		}
		return time.Unix(m.Time, 0).UTC().Format(`DATE "02-Jan-2006 15:04:05 +0000"`)
	}
	asked := slowBodyItem(item)
	if asked == nil {
		return ""
	}
	var path []int64
	for _, number := range strings.FieldsFunc(asked[1], func(r rune) bool { return r == '.' }) {
		step, _ := strconv.ParseInt(number, 10, 64)
		path = append(path, step)
	}
	section := impl.Section(m.Message, path, sectionWords[asked[3]], nil)
	if !section.Good {
		return item + " NIL"
	}
	text := section.Data
	if asked[4] != "" {
		from, _ := strconv.Atoi(asked[5])
		count, _ := strconv.Atoi(asked[6])
		text = text[min(from, len(text)):]
		text = text[:min(count, len(text))]
	}
	return item + " " + slowString(text)
}

func checkItem(t *testing.T, m impl.Mail, item, want string) {
	t.Helper()
	if got := impl.FetchItem(m, item); got != want {
		t.Errorf("FetchItem of %s, %s: %s, want %s", short(m.Message), short(item), short(got), short(want))
	}
	if slow := slowFetched(m, item); slow != want {
		t.Errorf("the test's own item of %s, %s: %s, want %s", short(m.Message), short(item), short(slow), short(want))
	}
}

func holding(message string) impl.Mail { return impl.Mail{Uid: 5, Mod: 9, Message: message} }

// shownMail has a part that is a message itself, with two parts, and one that is none.
const shownMail = "Subject: s\r\nFrom: Ann <ann@a>\r\nContent-Type: multipart/mixed; boundary=b\r\n\r\n" +
	"pre\r\n--b\r\nContent-Type: text/html\r\n\r\n<one>\r\n--b\r\nContent-Type: message/rfc822\r\nX: y\r\n\r\n" +
	"Subject: inner\r\nContent-Type: multipart/mixed; boundary=c\r\n\r\n--c\r\nA: b\r\n\r\nfirst\r\n--c\r\n\r\nse\"cond\r\n--c--\r\n--b--\r\nepi"

func TestFetchItem(t *testing.T) {
	m := impl.Mail{Uid: 3, Mod: 17, Time: 951782400, Flags: some(`\Seen`, "x"), Message: shownMail}
	innerText := "--c\r\nA: b\r\n\r\nfirst\r\n--c\r\n\r\nse\"cond\r\n--c--"
	innerHead := "Subject: inner\r\nContent-Type: multipart/mixed; boundary=c\r\n\r\n"
	literal := func(text string) string { return fmt.Sprintf("{%d}\r\n%s", len(text), text) }
	_, outerText, _ := strings.Cut(shownMail, "\r\n\r\n")
	for _, c := range [][2]string{
		{"FLAGS", `FLAGS (\Seen x)`},
		{"SIZE", fmt.Sprint("SIZE ", len(shownMail))},
		{"DATE", `DATE "29-Feb-2000 00:00:00 +0000"`},
		{"MOD", "MOD 17"},
		{"ENVELOPE", `ENVELOPE (NIL "s" (("Ann" NIL "ann" "a")) (("Ann" NIL "ann" "a")) (("Ann" NIL "ann" "a")) NIL NIL NIL NIL NIL)`},
		{"BODY[]", "BODY[] " + literal(shownMail)},
		{"BODY[TEXT]", "BODY[TEXT] " + literal(outerText)},
		{"BODY[HEAD]", "BODY[HEAD] " + literal(shownMail[:len(shownMail)-len(outerText)])},
		{"BODY[MIME]", "BODY[MIME] NIL"},
		{"BODY[1]", `BODY[1] "<one>"`},
		{"BODY[1.MIME]", "BODY[1.MIME] " + literal("Content-Type: text/html\r\n\r\n")},
		{"BODY[1.HEAD]", "BODY[1.HEAD] NIL"},
		{"BODY[1.TEXT]", "BODY[1.TEXT] NIL"},
		{"BODY[2]", "BODY[2] " + literal(innerHead+innerText)},
		{"BODY[2.MIME]", "BODY[2.MIME] " + literal("Content-Type: message/rfc822\r\nX: y\r\n\r\n")},
		{"BODY[2.HEAD]", "BODY[2.HEAD] " + literal(innerHead)},
		{"BODY[2.TEXT]", "BODY[2.TEXT] " + literal(innerText)},
		{"BODY[2.1]", `BODY[2.1] "first"`},
		{"BODY[2.1.MIME]", "BODY[2.1.MIME] " + literal("A: b\r\n\r\n")},
		{"BODY[2.2]", `BODY[2.2] "se\"cond"`},
		{"BODY[0002.0002]", `BODY[0002.0002] "se\"cond"`},
		{"BODY[2.3]", "BODY[2.3] NIL"},
		{"BODY[3]", "BODY[3] NIL"},
		{"BODY[0]", "BODY[0] NIL"},
		{"BODY[9999]", "BODY[9999] NIL"},
		{"BODY[2.1.1]", "BODY[2.1.1] NIL"},
		{"BODY[2.2]<0.2>", `BODY[2.2]<0.2> "se"`},
		{"BODY[2.2]<2.3>", `BODY[2.2]<2.3> "\"co"`},
		{"BODY[2.2]<6.99>", `BODY[2.2]<6.99> "d"`},
		{"BODY[2.2]<7.1>", `BODY[2.2]<7.1> ""`},
		{"BODY[2.2]<999999.999999>", `BODY[2.2]<999999.999999> ""`},
		{"BODY[2.2]<000000.000007>", `BODY[2.2]<000000.000007> "se\"cond"`},
		{"BODY[2.2]<3.0>", `BODY[2.2]<3.0> ""`},
		{"BODY[2.3]<0.1>", "BODY[2.3]<0.1> NIL"},
		{"BODY[]<1.6>", `BODY[]<1.6> "ubject"`},
		{"BODY[HEAD]<0.7>", `BODY[HEAD]<0.7> "Subject"`},
		{"BODY[TEXT]<0.5>", "BODY[TEXT]<0.5> " + literal("pre\r\n")},
		{"BODY[2.1.MIME]<3.1>", `BODY[2.1.MIME]<3.1> "b"`},
	} {
		checkItem(t, m, c[0], c[1])
	}
	checkItem(t, m, "STRUCTURE", "STRUCTURE "+impl.Structure(shownMail))
	if !strings.HasPrefix(impl.FetchItem(m, "STRUCTURE"), `STRUCTURE (("text" "html" NIL NIL NIL "7BIT" 5 0)("message" "rfc822" `) {
		t.Errorf("FetchItem of STRUCTURE: %s", impl.FetchItem(m, "STRUCTURE"))
	}
}

func TestFetchItemNone(t *testing.T) {
	for _, m := range []impl.Mail{holding("A: b\r\n\r\nhi"), holding(shownMail), holding(""), holding("x"), {}} {
		for _, item := range some(
			"", " ", "flags", "Flags", "FLAGS ", " FLAGS", "FLAG", "FLAGSX", "FLAGS()", "UID", "size", "SIZES", "date", "mod", "envelope", "Envelope", "structure", "BODYSTRUCTURE", "\x00", "é",
			"BODY", "BODY[", "BODY]", "BODY[]]", "BODY[[]", "BODY[]x", "BODY[] ", " BODY[]", "body[]", "Body[]", "BODY[text]", "BODY[Head]", "BODY[mime]", "BODY[1.head]", "BODY[ALL]", "BODY[FIELDS]", "BODY[HEADER]", "BODY[HEAD ]", "BODY[ HEAD]",
			"BODY[10000]", "BODY[00001]", "BODY[1.10000]", "BODY[.]", "BODY[.1]", "BODY[1.]", "BODY[1..2]", "BODY[.HEAD]", "BODY[HEAD.]", "BODY[1..HEAD]", "BODY[1HEAD]", "BODY[HEAD1]", "BODY[HEAD.1]", "BODY[HEAD.TEXT]", "BODY[1.HEAD.TEXT]", "BODY[1.HEAD.1]", "BODY[1.HEAD.]", "BODY[-1]", "BODY[+1]", "BODY[1,2]", "BODY[1 2]", "BODY[x]", "BODY[１]", "BODY[*]",
			"BODY[]<", "BODY[]<>", "BODY[]>", "BODY[]<1>", "BODY[]<1.>", "BODY[]<.1>", "BODY[]<.>", "BODY[]<1.1", "BODY[]1.1>", "BODY[]<1..1>", "BODY[]<1.1.1>", "BODY[]<1,1>", "BODY[]<-1.1>", "BODY[]<1.-1>", "BODY[]<+1.1>", "BODY[]< 1.1>", "BODY[]<1.1 >", "BODY[]<1.1>x", "BODY[]<1.1>>", "BODY[]<<1.1>", "BODY[]<1000000.1>", "BODY[]<1.1000000>", "BODY[]<0000001.1>", "BODY[]<1.0000001>", "BODY[]<1.1><1.1>", "BODY[]<x.1>", "BODY[]<1.x>", "BODY[<1.1>]", "BODY<1.1>[]", "BODY[]<1.１>", "FLAGS<1.1>", "SIZE[]",
			xs(maxItem), xs(maxItem+1), xs(maxText+1), "BODY["+xs(maxText)+"]", "FLAGS"+strings.Repeat(" ", maxItem),
		) {
			checkItem(t, m, item, "")
		}
	}
}

func TestFetchItemSizes(t *testing.T) {
	m := holding(strings.Repeat(inMessage, 3) + "\r\nhi")
	path := func(size int) string { return strings.Repeat("1.", size) + "1" }
	// 5 bytes, 93 and 1, and 1: a hundred.
	item := "BODY[" + path(46) + "1]"
	if len(item) != maxItem {
		t.Fatalf("%s has %d bytes", item, len(item))
	}
	checkItem(t, m, item, item+" NIL")
	checkItem(t, m, "BODY["+path(46)+"11]", "")
	checkItem(t, m, "BODY["+path(47)+"]", "")
	full := "BODY[" + path(36) + "]<000000.0000001>"
	checkItem(t, m, full, "")
	full = "BODY[" + path(38) + "11]<000000.1>"
	if len(full) >= maxItem {
		t.Fatalf("%s has %d bytes", full, len(full))
	}
	checkItem(t, m, full, full+" NIL")
	deep := holding(strings.Repeat(inMessage, maxDeep) + "\r\nhi")
	for _, count := range []int{maxDeep - 1, maxDeep, maxDeep + 1} {
		checkItem(t, deep, "BODY["+path(count-1)+"]", slowFetched(deep, "BODY["+path(count-1)+"]"))
	}
	if shownDeep := impl.FetchItem(deep, "BODY["+path(maxDeep-1)+"]"); strings.HasSuffix(shownDeep, " NIL") {
		t.Errorf("MaxDeep numbers: %s", shownDeep)
	}
	// As long as a message may be, and one byte more.
	great := holding("\r\n" + xs(maxText-2))
	checkItem(t, great, "BODY[TEXT]", fmt.Sprintf("BODY[TEXT] {%d}\r\n%s", maxText-2, xs(maxText-2)))
	checkItem(t, great, "BODY[]", fmt.Sprintf("BODY[] {%d}\r\n%s", maxText, great.Message))
	checkItem(t, great, "BODY[TEXT]<99997.2>", `BODY[TEXT]<99997.2> "x"`)
	checkItem(t, great, "SIZE", "SIZE 100000")
	for _, item := range some("FLAGS", "SIZE", "DATE", "MOD", "ENVELOPE", "STRUCTURE", "BODY[]", "BODY[1]", "BODY[HEAD]<0.1>") {
		wantText(t, "FetchItem", "too long a message", impl.FetchItem(holding(xs(maxText+1)), item), "")
		wantText(t, "FetchItem", "too long a message", impl.FetchItem(holding("\r\n"+xs(maxText-1)), item), "")
		wantText(t, "FetchItem", "too long a flag", impl.FetchItem(impl.Mail{Flags: some("a", xs(maxText+1))}, item), "")
	}
	wantText(t, "FetchItem", "a long flag", impl.FetchItem(impl.Mail{Flags: some(xs(maxText))}, "FLAGS"), "FLAGS ("+xs(maxText)+")")
	// A text of 1000 bytes stands in quotes, one of 1001 does not.
	for _, size := range []int{maxQuoted, maxQuoted + 1} {
		one := holding("\r\n" + xs(size))
		checkItem(t, one, "BODY[1]", "BODY[1] "+slowString(xs(size)))
		checkItem(t, one, "BODY[1]<0.1000>", `BODY[1]<0.1000> "`+xs(1000)+`"`)
	}
}

// A mail is taken as it is: also a time that is none, and a message whose head cannot be read.
func TestFetchItemWrongMails(t *testing.T) {
	for _, at := range []int64{-1, maxTime + 1, math.MinInt64, math.MaxInt64} {
		checkItem(t, impl.Mail{Time: at}, "DATE", `DATE ""`)
	}
	checkItem(t, impl.Mail{Time: maxTime}, "DATE", `DATE "31-Dec-9999 23:59:59 +0000"`)
	checkItem(t, impl.Mail{}, "DATE", `DATE "01-Jan-1970 00:00:00 +0000"`)
	for _, mod := range []int64{0, -1, math.MinInt64, math.MaxInt64} {
		checkItem(t, impl.Mail{Mod: mod}, "MOD", fmt.Sprint("MOD ", mod))
	}
	checkItem(t, impl.Mail{Flags: some("b", "a b", "")}, "FLAGS", "FLAGS (b a b )")
	for _, message := range some("x", " A: b", "A: b\r\nx\r\n\r\nhi", strings.Repeat("A: b\r\n", maxFields+1)) {
		m := holding(message)
		checkItem(t, m, "ENVELOPE", "ENVELOPE NIL")
		checkItem(t, m, "STRUCTURE", "STRUCTURE NIL")
		for _, item := range some("BODY[]", "BODY[HEAD]", "BODY[TEXT]", "BODY[MIME]", "BODY[1]", "BODY[]<0.1>") {
			checkItem(t, m, item, item+" NIL")
		}
		checkItem(t, m, "SIZE", fmt.Sprint("SIZE ", len(message)))
	}
	many := holding(tooManyParts())
	checkItem(t, many, "STRUCTURE", "STRUCTURE NIL")
	checkItem(t, many, "BODY[1]", "BODY[1] NIL")
	checkItem(t, many, "ENVELOPE", "ENVELOPE (NIL NIL NIL NIL NIL NIL NIL NIL NIL NIL)")
	empty := impl.Mail{}
	checkItem(t, empty, "FLAGS", "FLAGS ()")
	checkItem(t, empty, "SIZE", "SIZE 0")
	checkItem(t, empty, "BODY[]", `BODY[] ""`)
	checkItem(t, empty, "BODY[HEAD]", `BODY[HEAD] ""`)
	checkItem(t, empty, "ENVELOPE", "ENVELOPE (NIL NIL NIL NIL NIL NIL NIL NIL NIL NIL)")
	checkItem(t, empty, "STRUCTURE", `STRUCTURE ("text" "plain" NIL NIL NIL "7BIT" 0 0)`)
}

func TestFetchItemOfAllSigns(t *testing.T) {
	m := holding(shownMail)
	right := 0
	check := func(item string) {
		want := slowFetched(m, item)
		checkItem(t, m, item, want)
		if want != "" {
			right++
		}
	}
	eachSequence(some("1", "20", ".", "HEAD", "TEXT", "MIME"), 6, func(section string) { check("BODY[" + section + "]") })
	eachSequence(some("0", "123456", ".", "<", ">"), 6, func(piece string) { check("BODY[2.2]" + piece) })
	eachSequence(some("BODY", "[", "]", "1", ".", "TEXT", "<0.3>"), 6, check)
	if right < 250 {
		t.Errorf("only %d texts were items", right)
	}
}

// itemText is the text that an item tells, read as a client does.
func itemText(t *testing.T, m impl.Mail, item string) (text string, there bool) {
	t.Helper()
	written, begins := strings.CutPrefix(impl.FetchItem(m, item), item+" ")
	switch {
	case !begins:
		t.Fatalf("FetchItem of %s, %s: %s", short(m.Message), item, short(impl.FetchItem(m, item)))
	case written == "NIL":
		return "", false
	case written[0] == '"':
		return slowSaid(written), true
	}
	size, text, _ := strings.Cut(written[1:], "}\r\n")
	if size != strconv.Itoa(len(text)) {
		t.Fatalf("FetchItem of %s, %s: %s", short(m.Message), item, short(written))
	}
	return text, true
}

// TestPromise9ByItems has what a client reads of a message as head and as text, and in pieces.
func TestPromise9ByItems(t *testing.T) {
	d := &dice{state: 1809}
	messages := some("", "\r\n", "A: b", "A: b\r\n\r\nhi", shownMail, tooManyParts(), "A: b\r\n\r\n"+xs(maxText-8), "A: \x00\xff\"\\\r\n\r\n\"\\")
	for range 300 {
		messages = append(messages, d.anyMessage())
	}
	taken := 0
	for _, message := range messages {
		m := holding(message)
		head, hasHead := itemText(t, m, "BODY[HEAD]")
		text, hasText := itemText(t, m, "BODY[TEXT]")
		if impl.ReadHead(message).Code != impl.OK {
			if hasHead || hasText {
				t.Errorf("%s shows %s, %s", short(message), short(head), short(text))
			}
			continue
		}
		taken++
		if !hasHead || !hasText || head+text != message {
			t.Errorf("%s shows %s, %s", short(message), short(head), short(text))
		}
		size := 1 + len(message)/(1+d.below(6))
		pieces := ""
		for from := 0; from < len(message); from += size {
			piece, _ := itemText(t, m, fmt.Sprintf("BODY[]<%d.%d>", from, size))
			pieces += piece
		}
		wantText(t, "pieces", message, pieces, message)
	}
	if taken < 150 {
		t.Errorf("only %d messages", taken)
	}
}

// slowSession is one of slowAccess.
type slowSession struct {
	waits string
	told  strings.Builder
	over  bool
	user  *impl.AccessUser
	// What it has of a box: nothing, if the validity is 0.
	box      string
	validity int64
	knows    []int64
	heard    int64
	// The tag of the command by which it idles, or empty.
	idle string
}

// slowAccess keeps the store as a value, and looks at all of it behind each command.
type slowAccess struct {
	store    impl.Store
	users    []impl.AccessUser
	now      int64
	sessions [maxSessions]slowSession
	// What does an operation and keeps the store, if there is a world around.
	change func(op impl.StoreOp) impl.StoreOut
}

func slowRunAccess(s impl.Store, users []impl.AccessUser, now int64, events []impl.AccessEvent) impl.AccessRun {
	if slowStoreFault(s) != impl.OK || slowAccessFault(users) != impl.OK || now < 0 || now > maxTime {
		return impl.AccessRun{Code: impl.ErrForm}
	}
	if len(events) > maxOps {
		return impl.AccessRun{Code: impl.ErrCount}
	}
	for _, event := range events {
		if len(event.Data) > maxText {
			return impl.AccessRun{Code: impl.ErrSize}
		}
	}
	a := slowAccess{store: s, users: users, now: now}
	for _, event := range events {
		a.event(event)
	}
	run := impl.AccessRun{Store: a.store}
	for at := range a.sessions {
		run.Told = append(run.Told, a.sessions[at].told.String())
	}
	return run
}

func (a *slowAccess) event(event impl.AccessEvent) {
	for at := range a.sessions {
		if int64(at) == event.Session {
			a.hand(&a.sessions[at], event.Data)
		}
	}
	for at := range a.sessions {
		if one := &a.sessions[at]; one.idle != "" && !one.over {
			a.changes(one)
		}
	}
}

func (s *slowSession) say(things ...any) {
	s.told.WriteString(fmt.Sprint(things...) + "\r\n")
}

var (
	literalEnd   = regexp.MustCompile(`\{([0-9]{1,6})\+\}\z`)
	slowWordForm = regexp.MustCompile(`(?s)\A(?:"((?:\\.|[^"\\])*)"|\{([0-9]{1,6})\+\}\r\n|[()]|[!#-'*-~]+)`)
)

// slowWhole is where the first command ends, behind its line end, or -1.
func slowWhole(text string, lineAlone bool) int {
	begin := 0
	for begin <= len(text) {
		size := strings.Index(text[begin:], "\r\n")
		if size < 0 {
			return -1
		}
		found := literalEnd.FindStringSubmatch(text[begin : begin+size])
		begin += size + 2
		if lineAlone || found == nil {
			return begin
		}
		more, _ := strconv.Atoi(found[1])
		begin += more
	}
	return -1
}

func (a *slowAccess) hand(s *slowSession, data string) {
	s.waits += data
	for !s.over {
		end := slowWhole(s.waits[:min(len(s.waits), maxText)], s.idle != "")
		if end < 0 {
			if len(s.waits) >= maxText {
				s.say("* BYE")
				s.over = true
			}
			return
		}
		text := s.waits[:end-2]
		s.waits = s.waits[end:]
		a.command(s, text)
		if s.told.Len() > maxTold {
			s.over = true
		}
	}
}

// slowAsked is a command: the kinds of its words behind the name, one letter each, and what they say.
type slowAsked struct {
	tag, name string
	shape     string
	texts     []string
	// Of a search, what stands behind its name.
	rest string
}

func slowCommand(text string) (asked slowAsked, right bool) {
	shape, texts := "", some()
	for at := 0; at < len(text); {
		if shape != "" && shape[len(shape)-1] != '(' && text[at] != ')' {
			if text[at] != ' ' || at+1 == len(text) || text[at+1] == ')' {
				return slowAsked{}, false
			}
			at++
		}
		found := slowWordForm.FindStringSubmatchIndex(text[at:])
		if found == nil {
			return slowAsked{}, false
		}
		said, kind := text[at:at+found[1]], "w"
		switch {
		case found[2] >= 0:
			said, kind = slowSaid(said), "t"
		case found[4] >= 0:
			size, _ := strconv.Atoi(said[found[4]:found[5]])
			if at+found[1]+size > len(text) {
				return slowAsked{}, false
			}
			said, kind = text[at+found[1]:at+found[1]+size], "t"
			at += size
		case said == "(" || said == ")":
			kind = said
		}
		at += found[1]
		shape, texts = shape+kind, append(texts, said)
		if len(shape) == 2 && slowLow(said) == "search" {
			asked.rest = text[at:]
			break
		}
	}
	if len(shape) < 2 || shape[0] != 'w' || len(texts[0]) > maxTag {
		return slowAsked{}, false
	}
	asked.tag, asked.name, asked.shape, asked.texts = texts[0], slowLow(texts[1]), shape[2:], texts[2:]
	return asked, true
}

// slowKind is how a command's words look, and what it asks for: a user (u), none (n), a box (b), one who may change (c).
type slowKind struct {
	shape *regexp.Regexp
	needs string
}

func commandKind(shape, needs string) slowKind {
	return slowKind{regexp.MustCompile(`\A(?:` + shape + `)\z`), needs}
}

var slowKinds = map[string]slowKind{
	"noop": commandKind(``, ""), "logout": commandKind(``, ""), "login": commandKind(`[wt][wt]`, "n"),
	"list": commandKind(``, "u"), "status": commandKind(`w`, "u"), "create": commandKind(`w`, "uc"), "delete": commandKind(`w`, "uc"),
	"rename": commandKind(`ww`, "uc"), "append": commandKind(`w\(w*\)t`, "uc"), "select": commandKind(`w|www`, "u"), "close": commandKind(``, "u"),
	"fetch": commandKind(`w\(w{1,20}\)`, "ub"), "store": commandKind(`ww\(w*\)w?`, "ubc"), "search": commandKind(``, "ub"), "sort": commandKind(`\(w*\)`, "ub"),
	"thread": commandKind(``, "ub"), "expunge": commandKind(`w?`, "ubc"), "copy": commandKind(`ww`, "ubc"), "idle": commandKind(``, "ub"),
}

var (
	numberForm   = regexp.MustCompile(`\A[0-9]{1,10}\z`)
	flagWordForm = regexp.MustCompile(`\A[-+]?FLAGS\z`)
	sortListForm = regexp.MustCompile(`\A(?:(?: REVERSE)? (?:ARRIVAL|DATE|FROM|TO|SIZE|SUBJECT)){0,10}\z`)
)

// hasSlowWords tells whether the words of a command of the right shape are what is asked for.
func (asked slowAsked) hasSlowWords() bool {
	texts := asked.texts
	switch asked.name {
	case "select":
		return len(texts) == 1 || numberForm.MatchString(texts[1]) && numberForm.MatchString(texts[2])
	case "fetch":
		return slowRanges(texts[0]) != nil && !slices.ContainsFunc(texts[2:len(texts)-1], func(item string) bool { return !isFetchable(item) })
	case "store":
		last := texts[len(texts)-1]
		return slowRanges(texts[0]) != nil && flagWordForm.MatchString(texts[1]) && (strings.HasSuffix(asked.shape, ")") || numberForm.MatchString(last))
	case "search":
		query := strings.TrimPrefix(asked.rest, " ")
		return query != asked.rest && !strings.Contains(query, "\r\n") && slowReadQuery(query).Code == impl.OK
	case "sort":
		return sortListForm.MatchString(strings.Join(append(some(""), texts[1:len(texts)-1]...), " "))
	case "expunge", "copy":
		return len(texts) == 0 || slowRanges(texts[0]) != nil
	}
	return true
}

func (a *slowAccess) command(s *slowSession, text string) {
	if tag := s.idle; tag != "" {
		s.idle = ""
		if slowLow(text) != "done" {
			s.say(tag, " BAD")
			return
		}
		a.changes(s)
		s.say(tag, " OK")
		return
	}
	asked, right := slowCommand(text)
	if !right {
		s.say("* BAD")
		return
	}
	answer := a.answer(s, asked)
	switch {
	case s.idle != "":
		return
	case answer == "BAD" || asked.name == "select" || asked.name == "close" || asked.name == "logout":
	default:
		a.changes(s)
	}
	s.say(asked.tag, " ", answer)
}

// own is the session's box, or nil.
func (a *slowAccess) own(s *slowSession) *impl.Mailbox {
	b := boxOfValidity(a.store, s.validity)
	if b == nil || b.Name != s.box {
		return nil
	}
	return b
}

func (a *slowAccess) answer(s *slowSession, asked slowAsked) string {
	kind, known := slowKinds[asked.name]
	needs := func(what string) bool { return strings.Contains(kind.needs, what) }
	switch {
	case !known:
		return "BAD"
	case needs("c") && s.user != nil && s.user.ReadOnly:
		return "NO 10"
	case !kind.shape.MatchString(asked.shape) || !asked.hasSlowWords():
		return "BAD"
	case needs("n") && s.user != nil, needs("u") && s.user == nil, needs("b") && a.own(s) == nil:
		return "NO 7"
	}
	code := a.do(s, asked)
	if code != impl.OK {
		return fmt.Sprint("NO ", code)
	}
	return "OK"
}

// run does one operation on the store.
func (a *slowAccess) run(op impl.StoreOp) impl.StoreOut {
	if a.change != nil {
		return a.change(op)
	}
	store, out := slowOp(a.store, op)
	a.store = store
	return out
}

func (a *slowAccess) do(s *slowSession, asked slowAsked) int64 {
	texts := asked.texts
	switch asked.name {
	case "logout":
		s.say("* BYE")
		s.over = true
	case "login":
		at := slices.IndexFunc(a.users, func(u impl.AccessUser) bool { return u.Name == texts[0] && u.Password == texts[1] })
		if at < 0 {
			return impl.ErrRight
		}
		s.user = &a.users[at]
	case "list":
		for _, b := range a.store.Boxes {
			s.say("* LIST ", b.Name)
		}
	case "status":
		return a.status(s, texts[0])
	case "create":
		return a.run(impl.StoreOp{Kind: impl.StCreate, Box: texts[0]}).Code
	case "delete":
		return a.run(impl.StoreOp{Kind: impl.StDelete, Box: texts[0]}).Code
	case "rename":
		return a.run(impl.StoreOp{Kind: impl.StRename, Box: texts[0], To: texts[1]}).Code
	case "append":
		return a.run(impl.StoreOp{Kind: impl.StAppend, Box: texts[0], Flags: texts[2 : len(texts)-2], Time: a.now, Message: texts[len(texts)-1]}).Code
	case "select":
		return a.visit(s, texts)
	case "close":
		s.validity = 0
	case "idle":
		s.say("+ idling")
		s.idle = asked.tag
	case "noop":
	default:
		return a.inBox(s, a.own(s), asked)
	}
	return impl.OK
}

func (a *slowAccess) status(s *slowSession, name string) int64 {
	b := slowBox(&a.store, name)
	if b == nil {
		return impl.ErrNone
	}
	seen := 0
	for _, mail := range b.Mails {
		if slices.Contains(mail.Flags, `\Seen`) {
			seen++
		}
	}
	s.say(fmt.Sprintf("* STATUS %s (%d %d %d %d %d)", name, len(b.Mails), b.NextUid, b.Validity, len(b.Mails)-seen, b.TopMod))
	return impl.OK
}

func (a *slowAccess) visit(s *slowSession, texts []string) int64 {
	b := slowBox(&a.store, texts[0])
	if b == nil {
		return impl.ErrNone
	}
	s.box, s.validity, s.knows, s.heard = b.Name, b.Validity, uidsIn(*b), b.TopMod
	s.say(fmt.Sprintf("* BOX %s %d %d %d", b.Name, b.Validity, b.NextUid, b.TopMod))
	since, line := int64(-1), "* NEW"
	if len(texts) == 3 {
		if validity, _ := strconv.ParseInt(texts[1], 10, 64); validity == b.Validity {
			since, _ = strconv.ParseInt(texts[2], 10, 64)
			line = "* CHANGED"
			for _, gone := range b.Gones {
				if gone.Mod > since {
					s.say("* GONE ", gone.Uid)
				}
			}
		}
	}
	for _, mail := range b.Mails {
		if mail.Mod > since {
			s.say(line, " ", mail.Uid, " ", slowShowFlags(mail.Flags))
		}
	}
	return impl.OK
}

func slowWithin(b impl.Mailbox, ranges string) []impl.Mail {
	var mails []impl.Mail
	for _, mail := range b.Mails {
		if slices.ContainsFunc(slowRanges(ranges), func(r impl.Range) bool { return r.From <= mail.Uid && mail.Uid <= r.To }) {
			mails = append(mails, mail)
		}
	}
	return mails
}

func spacedUids(line string, uids []int64) string {
	for _, uid := range uids {
		line += fmt.Sprint(" ", uid)
	}
	return line
}

func (a *slowAccess) inBox(s *slowSession, b *impl.Mailbox, asked slowAsked) int64 {
	texts := asked.texts
	op := impl.StoreOp{Box: b.Name}
	var mails []impl.Mail
	if len(texts) > 0 && asked.name != "sort" {
		mails = slowWithin(*b, texts[0])
		op.Uids = uidsIn(impl.Mailbox{Mails: mails})
	}
	switch asked.name {
	case "fetch":
		for _, mail := range mails {
			var things []string
			for _, item := range texts[2 : len(texts)-1] {
				things = append(things, slowFetched(mail, item))
			}
			s.say("* FETCH ", mail.Uid, " (", strings.Join(things, " "), ")")
		}
	case "store":
		op.Kind = map[string]int64{"FLAGS": impl.StSet, "+FLAGS": impl.StAdd, "-FLAGS": impl.StDrop}[texts[1]]
		end := strings.LastIndex(asked.shape, ")")
		op.Flags = texts[3:end]
		if end+1 < len(texts) {
			op.Mod, _ = strconv.ParseInt(texts[end+1], 10, 64)
		}
		out := a.run(op)
		for _, uid := range out.Failed {
			s.say("* STALE ", uid)
		}
		return out.Code
	case "search":
		s.say(spacedUids("* SEARCH", slowSearch(*b, slowReadQuery(asked.rest[1:]).Nodes)))
	case "sort":
		keys := strings.Join(texts[1:len(texts)-1], ",")
		var list []string
		if keys != "" {
			list = strings.Split(strings.ReplaceAll(keys, "REVERSE,", "REVERSE "), ",")
		}
		s.say(spacedUids("* SORT", slowSort(*b, list)))
	case "thread":
		s.say("* THREAD ", slowShow(*b, slowThreads(*b), -1, ""))
	case "expunge":
		if op.Kind = impl.StExpunge; len(texts) == 0 || len(mails) > 0 {
			return a.run(op).Code
		}
	case "copy":
		op.Kind, op.To = impl.StCopy, texts[1]
		return a.run(op).Code
	}
	return impl.OK
}

// changes tells a session what it does not know yet.
func (a *slowAccess) changes(s *slowSession) {
	if s.validity == 0 {
		return
	}
	b := a.own(s)
	if b == nil {
		s.validity = 0
		s.say("* CLOSED")
		return
	}
	now := uidsIn(*b)
	slices.Sort(s.knows)
	for _, uid := range s.knows {
		if !slices.Contains(now, uid) {
			s.say("* GONE ", uid)
		}
	}
	for _, mail := range b.Mails {
		if !slices.Contains(s.knows, mail.Uid) {
			s.say("* NEW ", mail.Uid, " ", slowShowFlags(mail.Flags))
		} else if mail.Mod > s.heard {
			s.say("* CHANGED ", mail.Uid, " ", slowShowFlags(mail.Flags))
		}
	}
	s.knows, s.heard = now, b.TopMod
}

func sameAccess(a, b impl.AccessRun) bool {
	return a.Code == b.Code && sameStores(a.Store, b.Store) && slices.Equal(a.Told, b.Told)
}

func accessUsers() []impl.AccessUser {
	return []impl.AccessUser{{Name: "ann", Password: "p"}, {Name: "ro", Password: "p", ReadOnly: true}, {Name: "bob", Password: "q+}[]"}}
}

const accessNow = 951782400

// accessStore has mails in two boxes, some of them gone, and none in a third.
func accessStore() impl.Store {
	return impl.Store{NextValidity: 6, Boxes: []impl.Mailbox{
		{
			Name: "INBOX", Validity: 1, NextUid: 9, TopMod: 14,
			Mails: []impl.Mail{
				{Uid: 1, Mod: 2, Time: 90000, Flags: some(`\Seen`), Message: "From: bob@b\r\nSubject: Lunch\r\nMessage-ID: <1>\r\n\r\nToday?"},
				{Uid: 3, Mod: 5, Time: 95000, Message: "From: ann@a\r\nSubject: Re: lunch\r\nMessage-ID: <3>\r\nReferences: <1>\r\n\r\nYes"},
				{Uid: 4, Mod: 14, Time: 200000, Flags: some(`\Deleted`, "x"), Message: "Subject: a\r\n\r\n\"q\" (b) c"},
				{Uid: 7, Mod: 9, Time: 0, Flags: some(`\Deleted`, `\Seen`)},
			},
			Gones: []impl.Gone{{Uid: 5, Mod: 4}, {Uid: 6, Mod: 6}, {Uid: 2, Mod: 6}, {Uid: 8, Mod: 12}},
		},
		{Name: "a", Validity: 3, NextUid: 2, TopMod: 1, Mails: []impl.Mail{{Uid: 1, Mod: 1, Message: "\r\nalone"}}},
		{Name: "z/y", Validity: 2, NextUid: 1},
	}}
}

func changedAccess(change func(s *impl.Store)) impl.Store {
	s := accessStore()
	change(&s)
	return s
}

func coming(session int64, data string) impl.AccessEvent {
	return impl.AccessEvent{Session: session, Data: data}
}

// lines are what a client says in one event.
func lines(session int64, said ...string) impl.AccessEvent { return coming(session, sent(said...)) }

// checkAccess holds a run against the slow one.
func checkAccess(t *testing.T, what string, s impl.Store, events ...impl.AccessEvent) impl.AccessRun {
	t.Helper()
	got, want := impl.RunAccess(s, accessUsers(), accessNow, events), slowRunAccess(s, accessUsers(), accessNow, events)
	if got.Code != want.Code || len(got.Told) != len(want.Told) {
		t.Fatalf("RunAccess, %s: code %d, %d told, want %d, %d", what, got.Code, len(got.Told), want.Code, len(want.Told))
	}
	for at := range got.Told {
		if got.Told[at] != want.Told[at] {
			t.Fatalf("RunAccess, %s: session %d told %s, want %s", what, at, differing(got.Told[at], want.Told[at]), differing(want.Told[at], got.Told[at]))
		}
	}
	if !sameStores(got.Store, want.Store) {
		t.Fatalf("RunAccess, %s: the store is %s, want %s", what, shownWhole(got.Store), shownWhole(want.Store))
	}
	return got
}

// byteEvents are events of one byte each.
func byteEvents(session int64, text string) []impl.AccessEvent {
	var events []impl.AccessEvent
	for _, piece := range inBytes(text) {
		events = append(events, coming(session, piece))
	}
	return events
}

func wantTold(t *testing.T, what string, run impl.AccessRun, session int, want ...string) {
	t.Helper()
	if told := sent(want...); run.Told[session] != told {
		t.Errorf("RunAccess, %s: session %d told %s, want %s", what, session, differing(run.Told[session], told), differing(told, run.Told[session]))
	}
}

// checkLines has what one client says, in one event and in events of a byte, and what it is told.
func checkLines(t *testing.T, s impl.Store, said []string, want ...string) impl.AccessRun {
	t.Helper()
	text := sent(said...)
	run := checkAccess(t, short(text), s, coming(0, text))
	wantTold(t, short(text), run, 0, want...)
	if small := impl.RunAccess(s, accessUsers(), accessNow, byteEvents(0, text)); !sameAccess(small, run) {
		t.Errorf("RunAccess of the bytes of %s: told %s, want %s", short(text), differing(small.Told[0], run.Told[0]), differing(run.Told[0], small.Told[0]))
	}
	return run
}

const (
	login  = "a LOGIN ann p"
	roIn   = "a LOGIN ro p"
	choose = "b SELECT INBOX"
)

// chosen is what SELECT of the INBOX of accessStore tells, with the answer to LOGIN ahead of it.
var chosen = some("a OK", "* BOX INBOX 1 9 14", `* NEW 1 (\Seen)`, "* NEW 3 ()", `* NEW 4 (\Deleted x)`, `* NEW 7 (\Deleted \Seen)`, "b OK")

func behind(ahead []string, more ...string) []string { return append(slices.Clone(ahead), more...) }

// checkChosen has what a user says who has the INBOX of accessStore.
func checkChosen(t *testing.T, said []string, want ...string) impl.AccessRun {
	t.Helper()
	return checkLines(t, accessStore(), behind(some(login, choose), said...), behind(chosen, want...)...)
}

func checkUsing(t *testing.T, said []string, want ...string) impl.AccessRun {
	t.Helper()
	return checkLines(t, accessStore(), behind(some(login), said...), behind(some("a OK"), want...)...)
}

func checkAccessCode(t *testing.T, what string, s impl.Store, users []impl.AccessUser, now int64, events []impl.AccessEvent, want int64) {
	t.Helper()
	run := impl.RunAccess(s, users, now, events)
	if run.Code != want || want != impl.OK && !sameAccess(run, impl.AccessRun{Code: want}) || want == impl.OK && len(run.Told) != maxSessions {
		t.Errorf("RunAccess, %s: %s, want the code %d", what, shown(run), want)
	}
	if slow := slowRunAccess(s, users, now, events); slow.Code != want {
		t.Errorf("the test's own run, %s: %d, want %d", what, slow.Code, want)
	}
}

func TestRunAccessCodes(t *testing.T) {
	s, users := accessStore(), accessUsers()
	checkAccessCode(t, "nothing", s, nil, 0, nil, impl.OK)
	checkAccessCode(t, "no event", s, users, 0, []impl.AccessEvent{}, impl.OK)
	checkAccessCode(t, "the last time", s, users, maxTime, nil, impl.OK)
	for _, now := range []int64{-1, maxTime + 1, math.MinInt64, math.MaxInt64} {
		checkAccessCode(t, "no time", s, users, now, nil, impl.ErrForm)
	}
	illUsers := []impl.AccessUser{{Name: "a b", Password: "p"}}
	illStores := []impl.Store{{}, {NextValidity: 2}, changedAccess(func(s *impl.Store) { s.Boxes[0].TopMod = 13 }), changedAccess(func(s *impl.Store) { s.Boxes[0].Name = "inbox" }), changedAccess(func(s *impl.Store) { s.Boxes[1].Mails[0].Message = xs(maxText + 1) }), changedAccess(func(s *impl.Store) { s.Boxes[2].Name = xs(maxText + 1) }), storeOfBytes(maxStoreBytes + 1)}
	many, long := make([]impl.AccessEvent, maxOps+1), []impl.AccessEvent{coming(0, xs(maxText+1))}
	both := slices.Repeat(long, maxOps+1)
	for _, events := range [][]impl.AccessEvent{nil, many, long, both} {
		for _, ill := range illStores {
			checkAccessCode(t, "a store with a fault", ill, users, 0, events, impl.ErrForm)
		}
		checkAccessCode(t, "users with a fault", s, illUsers, 0, events, impl.ErrForm)
		checkAccessCode(t, "too many users", s, slices.Repeat(users, 7), 0, events, impl.ErrForm)
		checkAccessCode(t, "no time", s, users, -1, events, impl.ErrForm)
	}
	checkAccessCode(t, "MaxOps events", s, users, 0, many[:maxOps], impl.OK)
	checkAccessCode(t, "one more", s, users, 0, many, impl.ErrCount)
	checkAccessCode(t, "one more, and too long", s, users, 0, both, impl.ErrCount)
	checkAccessCode(t, "MaxText bytes", s, users, 0, []impl.AccessEvent{coming(0, xs(maxText))}, impl.OK)
	checkAccessCode(t, "one byte more", s, users, 0, long, impl.ErrSize)
	// Also where nobody looks at them.
	for _, session := range []int64{-1, maxSessions, 3} {
		checkAccessCode(t, "one byte more", s, users, 0, []impl.AccessEvent{lines(3, "a LOGOUT"), coming(session, xs(maxText+1))}, impl.ErrSize)
	}
	full := storeOfBytes(maxStoreBytes)
	checkAccessCode(t, "a full store", full, users, 0, nil, impl.OK)
}

func TestRunAccessNothing(t *testing.T) {
	s := accessStore()
	for _, events := range [][]impl.AccessEvent{nil, {{}}, {coming(0, "")}, slices.Repeat([]impl.AccessEvent{coming(3, "")}, maxOps), {coming(0, "\r")}, {coming(0, "a NOOP")}, {coming(0, "a NOOP\r"), coming(1, "\n")}, {coming(0, "a NOOP\n\r")}} {
		run := checkAccess(t, "nothing whole", s, events...)
		if !slices.Equal(run.Told, make([]string, maxSessions)) || !sameStores(run.Store, s) {
			t.Errorf("RunAccess of %s: %s", shown(events), shown(run.Told))
		}
	}
}

func TestRunAccessSessions(t *testing.T) {
	s := accessStore()
	for session := range int64(maxSessions) {
		run := checkAccess(t, "one session", s, lines(session, "a NOOP"))
		for at, told := range run.Told {
			if told != map[bool]string{true: "a OK\r\n"}[int64(at) == session] {
				t.Errorf("session %d: session %d told %q", session, at, told)
			}
		}
	}
	for _, session := range []int64{-1, maxSessions, maxSessions + 1, math.MinInt64, math.MaxInt64, 1 << 32, -maxSessions} {
		run := checkAccess(t, "no session", s, lines(session, "a NOOP", login, "c CREATE q"))
		if !slices.Equal(run.Told, make([]string, maxSessions)) || !sameStores(run.Store, s) {
			t.Errorf("session %d: %s", session, shown(run.Told))
		}
	}
	// Each has its own user, box and what waits.
	run := checkAccess(t, "several", s, lines(0, login), lines(1, "b LIST"), coming(2, "c NO"), coming(7, "d NOOP"), coming(2, "OP\r\n"), coming(7, "\r\n"), lines(1, login, "e SELECT z/y"), lines(0, "f THREAD", "f SELECT a"), lines(2, "g CLOSE"))
	wantTold(t, "several", run, 0, "a OK", "f NO 7", "* BOX a 3 2 1", "* NEW 1 ()", "f OK")
	wantTold(t, "several", run, 1, "b NO 7", "a OK", "* BOX z/y 2 1 0", "e OK")
	wantTold(t, "several", run, 2, "c OK", "g NO 7")
	wantTold(t, "several", run, 7, "d OK")
	wantTold(t, "several", run, 3)
}

// longVisit has each thing that events may part, but no idling.
var longVisit = sent(
	"a NOOP", "", "*", `a LOGIN "an\n" {1+}`, "q", "b LOGIN {3+}", `ann "p"`, "c LIST", "d SELECT INBOX", "e CREATE q", "f APPEND q (x \\Seen) {20+}", "A: b\r\n\r\nline\r\n{3+}\r\n",
	"g APPEND INBOX () {0+}", "", `h APPEND INBOX ($y) "a \"b\" \\ c"`, "i FETCH 1:* (FLAGS BODY[TEXT]<0.3>)", `j SEARCH OR SUBJECT "lunch" BODY "\"q"`, "k SORT (REVERSE SIZE DATE)", "l THREAD", "m STORE 1,9 +FLAGS (\\Deleted)",
	"n EXPUNGE", "o COPY 3:* q", "p STATUS {1+}", "q", "q STATUS q", "r APPEND q () {2+}", "ab {3+}", "xyz", "s  NOOP", "t RENAME q r", "u SELECT r 6 1", "v DELETE r", "w LOGOUT", "x NOOP",
)

func TestRunAccessPartedAnywhere(t *testing.T) {
	s := accessStore()
	whole := checkAccess(t, "in one event", s, coming(0, longVisit))
	if !strings.HasSuffix(whole.Told[0], "* BYE\r\nw OK\r\n") || strings.Count(whole.Told[0], " OK\r\n") != 20 {
		t.Fatalf("told %s", whole.Told[0])
	}
	for at := range len(longVisit) + 1 {
		next := min(at+1, len(longVisit))
		for _, texts := range [][]string{{longVisit[:at], longVisit[at:]}, {longVisit[:at], "", longVisit[at:]}, {longVisit[:at], longVisit[at:next], longVisit[next:]}} {
			var events []impl.AccessEvent
			for _, text := range texts {
				// What others send stands between, too.
				events = append(events, coming(0, text), coming(5, "x"))
			}
			run := impl.RunAccess(s, accessUsers(), accessNow, events)
			if run.Told[0] != whole.Told[0] || !sameStores(run.Store, whole.Store) {
				t.Fatalf("RunAccess of %q: %s, want %s", texts, differing(run.Told[0], whole.Told[0]), differing(whole.Told[0], run.Told[0]))
			}
		}
	}
	for size := 1; size < 40; size++ {
		var events []impl.AccessEvent
		for piece := range slices.Chunk([]byte(longVisit), size) {
			events = append(events, coming(0, string(piece)))
		}
		if run := impl.RunAccess(s, accessUsers(), accessNow, events); !sameAccess(run, whole) {
			t.Fatalf("RunAccess in pieces of %d bytes: %s", size, differing(run.Told[0], whole.Told[0]))
		}
	}
}

// checkWaiting has bytes behind a beginning, in one or several events.
func checkWaiting(t *testing.T, what, begin, told, waits, behind string) {
	t.Helper()
	half := len(waits) / 2
	for _, texts := range [][]string{
		{begin, waits, behind},
		{begin, waits[:1], waits[1:], behind},
		{begin + waits[:half], waits[half:] + behind},
		{begin + waits[:half], waits[half:], behind},
		{begin, waits[:half], waits[half:], "", behind},
		{begin, waits[:len(waits)-1], waits[len(waits)-1:] + behind},
		{begin, waits[:len(waits)-2], waits[len(waits)-2:], behind},
	} {
		var events []impl.AccessEvent
		for _, text := range texts {
			events = append(events, coming(2, text))
		}
		wantText(t, "RunAccess", what, checkAccess(t, what, accessStore(), events...).Told[2], told)
	}
}

func TestRunAccessTooLong(t *testing.T) {
	for begin, told := range map[string]string{"": "", "a NOOP\r\n": "a OK\r\n", "\r\na NOOP\r\n": "* BAD\r\na OK\r\n", sent(login, "b SELECT z/y", "c IDLE"): "a OK\r\n* BOX z/y 2 1 0\r\nb OK\r\n+ idling\r\n"} {
		bye := told + "* BYE\r\n"
		ill := told + "* BAD\r\n"
		after := ill + "z OK\r\n"
		if strings.HasSuffix(told, "idling\r\n") {
			ill, after = told+"c BAD\r\n", told+"c BAD\r\nz OK\r\n"
		}
		checkWaiting(t, "MaxText bytes", begin, bye, xs(maxText), "\r\nz NOOP\r\n")
		checkWaiting(t, "a line end behind MaxText", begin, bye, xs(maxText), "\r\n")
		checkWaiting(t, "half a line end in MaxText", begin, bye, xs(maxText-1)+"\r", "\nz NOOP\r\n")
		checkWaiting(t, "no line end in MaxText", begin, bye, strings.Repeat("\n\rx", maxText/3)+"x", "\r\n")
		checkWaiting(t, "a line end that ends MaxText", begin, after, xs(maxText-2)+"\r\n", "z NOOP\r\n")
		checkWaiting(t, "one byte fewer", begin, told, xs(maxText-1), "")
		checkWaiting(t, "one byte fewer, then a line end", begin, bye, xs(maxText-1), "\r\n")
		checkWaiting(t, "two bytes fewer, then a line end", begin, ill, xs(maxText-2), "\r\n")
	}
	// With literals it is the command that has to be whole.
	inBox, toldBox := sent(login, "b CREATE q"), "a OK\r\nb OK\r\n"
	command := func(size int) string { return fmt.Sprintf("c APPEND q () {%d+}\r\n", size) }
	head := len(command(maxText - 100))
	checkWaiting(t, "a literal that is whole", inBox, toldBox+"c OK\r\nz OK\r\n", command(maxText-head-2)+xs(maxText-head-2)+"\r\n", "z NOOP\r\n")
	checkWaiting(t, "a literal without its line end", inBox, toldBox+"* BYE\r\n", command(maxText-head)+xs(maxText-head), "\r\nz NOOP\r\n")
	checkWaiting(t, "half its line end", inBox, toldBox+"* BYE\r\n", command(maxText-head-1)+xs(maxText-head-1)+"\r", "\nz NOOP\r\n")
	checkWaiting(t, "a literal with bytes that look like a line end", inBox, toldBox+"* BYE\r\n", (command(maxText) + strings.Repeat("\r\n", maxText))[:maxText], "\r\nz NOOP\r\n")
	checkWaiting(t, "a literal of which one byte lacks", inBox, toldBox, command(maxText-head-2)+xs(maxText-head-2), "")
	checkWaiting(t, "the greatest number", inBox, toldBox, command(999999), "z NOOP\r\n")
	checkWaiting(t, "the greatest number, and MaxText bytes", inBox, toldBox+"* BYE\r\n", (command(999999) + strings.Repeat("x\r\n", maxText))[:maxText], "z NOOP\r\n")
	checkWaiting(t, "many literals", inBox, toldBox+"* BYE\r\n", strings.Repeat("{0+}\r\n", maxText/6)+"xxxx", "\r\nz NOOP\r\n")
	// Behind a whole command the count begins anew.
	s := accessStore()
	run := checkAccess(t, "a command in each event", s, coming(0, xs(60000)), coming(0, "\r\n"+xs(60000)), coming(0, "\r\n"+xs(60000)), coming(0, "\r\nz NOOP\r\n"))
	wantTold(t, "a command in each event", run, 0, "* BAD", "* BAD", "* BAD", "z OK")
	run = checkAccess(t, "nothing is looked at behind the end", s, lines(0, login), coming(0, xs(maxText)), lines(0, "a NOOP", "b CREATE q"), lines(0, "c NOOP"))
	wantTold(t, "nothing is looked at behind the end", run, 0, "a OK", "* BYE")
	if !sameStores(run.Store, s) {
		t.Error("a session that is over has changed the store")
	}
}

func TestRunAccessLiterals(t *testing.T) {
	for _, digits := range some("3", "03", "003", "000003") {
		checkUsing(t, some("b APPEND z/y () {"+digits+"+}", "m\r\n", "c STATUS z/y"), "b OK", "* STATUS z/y (1 2 2 1 1)", "c OK")
	}
	// Of seven digits, or otherwise ill: a word like any other, and the line is all.
	for _, ill := range some("{0000003+}", "{+}", "{3}", "{3+", "3+}", "{3+}x", "{x+}", "{-3+}", "{3++}", "{3 +}", "{3+}{3+", "{3+} x", "{{3}", "{}", "{3+}+}", "{13.+}") {
		command, right := slowCommand("b STATUS " + ill)
		want := "b NO 6"
		if !right || len(command.shape) > 1 {
			want = "b BAD"
		}
		checkUsing(t, some("b STATUS "+ill, "c NOOP"), want, "c OK")
	}
	checkUsing(t, some("b STATUS x 3+}", "c STATUS {0000003+}", "d STATUS {3+"), "b BAD", "c NO 6", "d NO 6")
	// None of its bytes counts for anything.
	for _, message := range some("", "\r\n", "x\r\ny", "\r\n\r\n\r\n", "{3+}", "{3+}\r\n", "a\r\nb NOOP\r\n", "\"", "(", ")", "\\", " ", "\x00\xff\r", "\n", "{0+}\r\n{0+}\r\n") {
		for _, session := range []int64{0, 7} {
			run := checkAccess(t, short(message), accessStore(), lines(session, login, fmt.Sprintf("b APPEND z/y (a b) {%d+}", len(message)), message, "c NOOP"))
			wantTold(t, short(message), run, int(session), "a OK", "b OK", "c OK")
			if mails := run.Store.Boxes[2].Mails; len(mails) != 1 || mails[0].Message != message || mails[0].Time != accessNow || !slices.Equal(mails[0].Flags, some("a", "b")) {
				t.Errorf("%s: %s", short(message), shown(mails))
			}
		}
	}
	// Several in one command, of which the last has the line's end behind it.
	s := accessStore()
	checkLines(t, s, some("a LOGIN {3+}", "ann {1+}", "p"), "a OK")
	checkLines(t, s, some("a LOGIN {3+}", "ann {0+}", ""), "a NO 10")
	checkLines(t, s, some("a LOGIN {3+}", "ann p"), "a OK")
	checkLines(t, s, some("a LOGIN ann {1+}", "p"), "a OK")
	checkLines(t, s, some("a LOGIN {3+}", "ann{1+}", "p"), "* BAD")
	checkLines(t, s, some("a LOGIN {3+}", "annp"), "* BAD")
	checkLines(t, s, some("a LOGIN {3+}", "ann  p"), "* BAD")
	checkLines(t, s, some("a LOGIN {3+}", "ann p "), "* BAD")
	checkLines(t, s, some("a LOGIN x{3+}", "ann p"), "* BAD")
	checkLines(t, s, some(`a LOGIN "x"{3+}`, "ann p"), "* BAD")
	checkLines(t, s, some("a LOGIN {3+}", "ann {1+}", "p {2+}", "xy"), "a BAD")
	checkLines(t, s, some("a LOGIN {5+}", "ann {", "p"), "a BAD", "* BAD")
	checkLines(t, s, some("a LOGIN {5+}", "ann {1+}", "p"), "* BAD", "* BAD")
	// One that looks like the beginning of another, which begins too soon for that.
	checkLines(t, s, some("a LOGIN {1+}", "{1+}", "b NOOP"), "* BAD", "b OK")
	// In brackets, of which none counts behind or ahead of it for a space.
	checkUsing(t, some("b APPEND a ({1+}", "x) {1+}", "("), "b BAD")
	checkUsing(t, some("b SORT ({1+}", "()"), "b BAD")
	checkUsing(t, some("b SORT ({1+}", "( )"), "* BAD")
	checkUsing(t, some("b APPEND a () {1+}", "(x"), "* BAD")
	// A literal as tag, and as name.
	checkLines(t, s, some("{1+}", "a NOOP"), "* BAD")
	checkLines(t, s, some("{1+}", "", "a NOOP"), "* BAD")
	// Quotes go on in it, and behind it.
	checkLines(t, s, some(`a LOGIN "ann {3+}`, `x"p`, "b NOOP"), "* BAD", "b OK")
	checkLines(t, s, some(`a LOGIN "ann {3+}`, `" p`, "b NOOP"), "a NO 10", "b OK")
	checkLines(t, s, some(`a LOGIN "ann {3+}`, `xyz`, "b NOOP"), "* BAD", "b OK")
	checkLines(t, s, some(`a LOGIN "ann {9+}`, `" {2+}`, "p", "b NOOP"), "* BAD", "b OK")
}

func TestRunAccessWords(t *testing.T) {
	s := accessStore()
	for _, ill := range some(
		"", " ", "a", "a ", " a NOOP", "a  NOOP", "a NOOP ", "a NOOP  ", "\ta NOOP", "a\tNOOP", "a NOOP\t", "a\x00 NOOP", "a NOOP \x7f", "a NOOP é", "é NOOP", "\xff NOOP", "a NOOP \x1f", "a NOOP \r", "\na NOOP", "a NOOP x\x80",
		xs(maxTag+1)+" NOOP", xs(maxTag+1), xs(500)+" FOO", `"a" NOOP`, `"" NOOP`, `"a NOOP`, `"a NOOP"`, "(a NOOP", "(a) NOOP", ") NOOP", "() NOOP", "( NOOP", "(", ")", `"a`, `"`,
		`a NOOP "`, `a NOOP "x`, `a NOOP "\`, `a NOOP "x\"`, `a NOOP "\\\"`, `a NOOP "x"y`, `a NOOP "x""y"`, `a NOOP x"y"`, `a NOOP "x"(`, `a NOOP x(`, "a NOOP x(y)", "a NOOP (x)y", "a NOOP (x)(y)", "a NOOP ()()", "a NOOP ( )", "a NOOP ( x)", "a NOOP (x )", "a NOOP (x  y)", "a NOOP x )", "a NOOP ) )", "a NOOP ( (", `a NOOP ( "x")`, `a NOOP ("x" )`, "a NOOP  ()", "a NOOP ()  x", "a NOOP () ",
		"a FOO  x", "a FOO ", "a FOO (", "a FOO x )",
	) {
		want := "* BAD"
		if ill == "a FOO (" {
			want = "a BAD"
		}
		checkLines(t, s, some(ill, "z NOOP"), want, "z OK")
	}
	// Words that can be read, and are too many.
	for _, right := range some("x", `"x"`, `""`, `"\""`, `"\\"`, `"x y  z"`, "\"\x00\xff\t\r\"", "\"\n\"", "()", "(x)", "(x y)", "((x))", "(()", "())", "x)", "x))", "(", "(x", "((", "() ()", "(x) (y)", `("x" "y")`, "() x", "(x) y", "x (y) z", "{", "}", "{}", "x{y", `\`, "'", "~", "!", "[1]<2>", `"a" "b"`, `x "(" ")"`, `"(")`) {
		checkLines(t, s, some("a NOOP "+right, "z NOOP"), "a BAD", "z OK")
		checkLines(t, s, some("a FOO "+right, "z NOOP"), "a BAD", "z OK")
	}
	for _, tag := range some("a", "A", "*", "+", "-", "0", "a.b", `\`, "{", "}", "{3}", "'", "~", "!", xs(maxTag-1), xs(maxTag)) {
		checkLines(t, s, some(tag+" NOOP", tag+" FOO"), tag+" OK", tag+" BAD")
	}
	for _, name := range some("NOOP", "noop", "Noop", "nOOP", "NooP") {
		checkLines(t, s, some("a "+name), "a OK")
	}
	for _, name := range some("NOO", "NOOPS", "NO", "N", "UID", "HELO", "DONE", "done", "OK", "*", "+", "LOGIN,", "{", "n\\oop", "NO-OP", "SEARCHING", "SELECTED", xs(1000)) {
		checkLines(t, s, some("a "+name, "a "+name+" x y"), "a BAD", "a BAD")
	}
	checkLines(t, s, some("a (", "a )", "a)", "a()", "a ()", "a (NOOP)", "a NOOP)", "a NOOP ))"), "a BAD", "* BAD", "a BAD", "* BAD", "a BAD", "a BAD", "a BAD", "* BAD")
	// Letters that count as others elsewhere.
	checkLines(t, s, some("a C\u0130OSE", "a LI\u017fT"), "* BAD", "* BAD")
	// Of the name it is not said that it is no text.
	checkLines(t, s, some(`a "noop"`, `a "NO\OP"`, "a {4+}", "Noop", `a "NOOP" x`, `a "NOOP "`, `a ""`), "a OK", "a OK", "a OK", "a BAD", "a BAD", "a BAD")
	for _, text := range some(`"ann"`, `"\a\n\n"`, "ann", "{3+}\r\nann") {
		for _, password := range some(`"p"`, `"\p"`, "p", "{1+}\r\np") {
			checkLines(t, s, some("a LOGIN "+text+" "+password, "b LIST x"), "a OK", "b BAD")
		}
	}
}

// accessStates are beginnings of a visit, by the place that they lead to.
var accessStates = []struct {
	name        string
	said, heard []string
}{
	{"ahead of a user", nil, nil},
	{"with a user", some(login), some("a OK")},
	{"with a box", some(login, choose), chosen},
	{"with a user that is ReadOnly", some(roIn), some("a OK")},
	{"with a box and a user that is ReadOnly", some(roIn, choose), chosen},
	{"behind CLOSE", some(login, choose, "b CLOSE"), behind(chosen, "b OK")},
}

// accessAnswers has what a command is answered in each of accessStates, in their order; one answer stands for all.
var accessAnswers = []struct{ command, answers string }{
	{"NOOP", "OK"}, {"NOOP x", "BAD"}, {"NOOP ()", "BAD"},
	{"LOGOUT", "OK"}, {"LOGOUT x", "BAD"}, {`LOGOUT ""`, "BAD"},
	{"LOGIN ann p", "OK 7 7 7 7 7"}, {"LOGIN ro p", "OK 7 7 7 7 7"}, {"LOGIN ann q", "10 7 7 7 7 7"}, {"LOGIN", "BAD"}, {"LOGIN ann", "BAD"}, {"LOGIN ann p x", "BAD"}, {"LOGIN (ann) p", "BAD"}, {"LOGIN ann (p)", "BAD"}, {"LOGIN (ann p)", "BAD"}, {"LOGIN ann (", "BAD"},
	{"LIST", "7 OK OK OK OK OK"}, {"LIST x", "BAD"}, {"LIST *", "BAD"}, {"LIST ()", "BAD"},
	{"STATUS INBOX", "7 OK OK OK OK OK"}, {"STATUS none", "7 6 6 6 6 6"}, {"STATUS inbox", "7 6 6 6 6 6"}, {"STATUS a//b", "7 6 6 6 6 6"}, {"STATUS", "BAD"}, {"STATUS INBOX a", "BAD"}, {`STATUS "INBOX"`, "BAD"}, {"STATUS (INBOX)", "BAD"}, {"STATUS {5+}\r\nINBOX", "BAD"}, {"STATUS)", "BAD"}, {"STATUS )", "* BAD"},
	{"CREATE q", "7 OK OK 10 10 OK"}, {"CREATE a", "7 7 7 10 10 7"}, {"CREATE a//b", "7 1 1 10 10 1"}, {"CREATE", "BAD BAD BAD 10 10 BAD"}, {"CREATE q r", "BAD BAD BAD 10 10 BAD"}, {`CREATE "q"`, "BAD BAD BAD 10 10 BAD"}, {"CREATE (q)", "BAD BAD BAD 10 10 BAD"}, {"CREATE  q", "* BAD"},
	{"DELETE a", "7 OK OK 10 10 OK"}, {"DELETE q", "7 6 6 10 10 6"}, {"DELETE INBOX", "7 10 10 10 10 10"}, {"DELETE", "BAD BAD BAD 10 10 BAD"}, {"DELETE a q", "BAD BAD BAD 10 10 BAD"}, {`DELETE "a"`, "BAD BAD BAD 10 10 BAD"},
	{"RENAME a q", "7 OK OK 10 10 OK"}, {"RENAME q r", "7 6 6 10 10 6"}, {"RENAME INBOX q", "7 10 10 10 10 10"}, {"RENAME a z/", "7 1 1 10 10 1"}, {"RENAME a z/y", "7 7 7 10 10 7"}, {"RENAME a a", "7 7 7 10 10 7"}, {"RENAME a", "BAD BAD BAD 10 10 BAD"}, {"RENAME", "BAD BAD BAD 10 10 BAD"}, {"RENAME a q r", "BAD BAD BAD 10 10 BAD"}, {`RENAME a "q"`, "BAD BAD BAD 10 10 BAD"}, {`RENAME "a" q`, "BAD BAD BAD 10 10 BAD"},
	{`APPEND INBOX () "m"`, "7 OK OK 10 10 OK"}, {"APPEND a (x) {1+}\r\nm", "7 OK OK 10 10 OK"}, {`APPEND none () ""`, "7 6 6 10 10 6"}, {`APPEND a (\x) ""`, "7 1 1 10 10 1"}, {"APPEND a () m", "BAD BAD BAD 10 10 BAD"}, {"APPEND a ()", "BAD BAD BAD 10 10 BAD"}, {`APPEND a "m"`, "BAD BAD BAD 10 10 BAD"}, {`APPEND a x "m"`, "BAD BAD BAD 10 10 BAD"}, {`APPEND () "m"`, "BAD BAD BAD 10 10 BAD"}, {`APPEND a () "m" x`, "BAD BAD BAD 10 10 BAD"}, {`APPEND a () "m" "n"`, "BAD BAD BAD 10 10 BAD"}, {`APPEND a ("x") "m"`, "BAD BAD BAD 10 10 BAD"}, {`APPEND a (()) "m"`, "BAD BAD BAD 10 10 BAD"}, {`APPEND a (x "m"`, "BAD BAD BAD 10 10 BAD"}, {`APPEND a (x) (y) "m"`, "BAD BAD BAD 10 10 BAD"}, {`APPEND "a" () "m"`, "BAD BAD BAD 10 10 BAD"}, {`APPEND a) "m"`, "BAD BAD BAD 10 10 BAD"}, {`APPEND a x) "m"`, "BAD BAD BAD 10 10 BAD"}, {`APPEND a (x ("m"`, "BAD BAD BAD 10 10 BAD"}, {"APPEND", "BAD BAD BAD 10 10 BAD"}, {"APPEND a () ()", "BAD BAD BAD 10 10 BAD"},
	{"SELECT INBOX", "7 OK OK OK OK OK"}, {"SELECT none", "7 6 6 6 6 6"}, {"SELECT INBOX 1 1", "7 OK OK OK OK OK"}, {"SELECT none 1 1", "7 6 6 6 6 6"}, {"SELECT", "BAD"}, {"SELECT INBOX 1", "BAD"}, {"SELECT INBOX 1 1 1", "BAD"}, {"SELECT INBOX x 1", "BAD"}, {"SELECT INBOX 1 x", "BAD"}, {"SELECT INBOX -1 1", "BAD"}, {"SELECT INBOX 1 -1", "BAD"}, {"SELECT INBOX 12345678901 1", "BAD"}, {"SELECT INBOX 1 12345678901", "BAD"}, {`SELECT "INBOX"`, "BAD"}, {"SELECT (INBOX)", "BAD"}, {`SELECT INBOX "1" 1`, "BAD"}, {`SELECT INBOX 1 "1"`, "BAD"}, {"SELECT INBOX (1 1)", "BAD"},
	{"CLOSE", "7 OK OK OK OK OK"}, {"CLOSE INBOX", "BAD"}, {"CLOSE ()", "BAD"},
	{"FETCH 1 (FLAGS)", "7 7 OK 7 OK 7"}, {"FETCH 2 (FLAGS)", "7 7 OK 7 OK 7"}, {"FETCH 1 ()", "BAD"}, {"FETCH 1", "BAD"}, {"FETCH", "BAD"}, {"FETCH (FLAGS)", "BAD"}, {"FETCH 1 FLAGS", "BAD"}, {"FETCH 1 (FLAGS) x", "BAD"}, {"FETCH 1 (FLAGS", "BAD"}, {"FETCH 1 (flags)", "BAD"}, {"FETCH 2 (X)", "BAD"}, {"FETCH 0 (FLAGS)", "BAD"}, {"FETCH x (FLAGS)", "BAD"}, {`FETCH "1" (FLAGS)`, "BAD"}, {`FETCH 1 ("FLAGS")`, "BAD"}, {"FETCH 1 ((FLAGS))", "BAD"}, {"FETCH 1 (FLAGS) (SIZE)", "BAD"}, {"FETCH 1)", "BAD"}, {"FETCH 1 x MOD)", "BAD"}, {"FETCH 1 (MOD (", "BAD"},
	{"STORE 1 FLAGS (y)", "7 7 OK 10 10 7"}, {"STORE 1 +FLAGS ()", "7 7 OK 10 10 7"}, {"STORE 1 -FLAGS (y) 3", "7 7 OK 10 10 7"}, {`STORE 1 FLAGS (\y)`, "7 7 1 10 10 7"}, {"STORE 1 FLAGS", "BAD BAD BAD 10 10 BAD"}, {"STORE 1 (y)", "BAD BAD BAD 10 10 BAD"}, {"STORE FLAGS (y)", "BAD BAD BAD 10 10 BAD"}, {"STORE 1 flags (y)", "BAD BAD BAD 10 10 BAD"}, {"STORE 1 *FLAGS (y)", "BAD BAD BAD 10 10 BAD"}, {"STORE 1 ++FLAGS (y)", "BAD BAD BAD 10 10 BAD"}, {"STORE 1 FLAGS y", "BAD BAD BAD 10 10 BAD"}, {"STORE 1 FLAGS (y) x", "BAD BAD BAD 10 10 BAD"}, {"STORE 1 FLAGS (y) -1", "BAD BAD BAD 10 10 BAD"}, {"STORE 1 FLAGS (y) 12345678901", "BAD BAD BAD 10 10 BAD"}, {"STORE 1 FLAGS (y) 1 1", "BAD BAD BAD 10 10 BAD"}, {`STORE 1 FLAGS (y) "1"`, "BAD BAD BAD 10 10 BAD"}, {`STORE 1 FLAGS ("y")`, "BAD BAD BAD 10 10 BAD"}, {`STORE 1 "FLAGS" (y)`, "BAD BAD BAD 10 10 BAD"}, {"STORE 1:x FLAGS (y)", "BAD BAD BAD 10 10 BAD"}, {"STORE", "BAD BAD BAD 10 10 BAD"},
	{"SEARCH ALL", "7 7 OK 7 OK 7"}, {"search all", "7 7 OK 7 OK 7"}, {`SEARCH FROM "bob"`, "7 7 OK 7 OK 7"}, {"SEARCH", "BAD"}, {"SEARCH ", "BAD"}, {"SEARCH  ALL", "BAD"}, {"SEARCH ALL ", "BAD"}, {"SEARCH FOO", "BAD"}, {"SEARCH (ALL", "BAD"}, {"SEARCH ALL  ALL", "BAD"}, {"SEARCH FROM {3+}\r\nbob", "BAD"}, {`SEARCH FROM "{4+}` + "\r\nbob\"", "BAD"}, {"SEARCH ALL {0+}\r\n", "BAD"}, {`SEARCH "ALL"`, "BAD"}, {`SEARCH FROM "bob`, "BAD"}, {"SEARCH é", "BAD"}, {"SEARCH\tALL", "BAD"}, {"SEARCH(ALL)", "BAD"}, {`SEARCH"x"`, "BAD"}, {"SEARCH)", "BAD"},
	{"SORT ()", "7 7 OK 7 OK 7"}, {"SORT (DATE)", "7 7 OK 7 OK 7"}, {"SORT (REVERSE DATE)", "7 7 OK 7 OK 7"}, {"SORT", "BAD"}, {"SORT DATE", "BAD"}, {"SORT (X)", "BAD"}, {"SORT (date)", "BAD"}, {"SORT (REVERSE)", "BAD"}, {"SORT (DATE REVERSE)", "BAD"}, {"SORT (REVERSE REVERSE DATE)", "BAD"}, {"SORT (REVERSE X)", "BAD"}, {"SORT (DATE) x", "BAD"}, {"SORT (DATE", "BAD"}, {`SORT ("DATE")`, "BAD"}, {`SORT ("REVERSE DATE")`, "BAD"}, {"SORT ((DATE))", "BAD"}, {"SORT)", "BAD"}, {"SORT))", "BAD"}, {"SORT DATE)", "BAD"}, {`SORT "DATE")`, "BAD"}, {"SORT ((", "BAD"}, {"SORT (DATE (", "BAD"},
	{"THREAD", "7 7 OK 7 OK 7"}, {"THREAD x", "BAD"}, {"THREAD ()", "BAD"},
	{"EXPUNGE", "7 7 OK 10 10 7"}, {"EXPUNGE 1:*", "7 7 OK 10 10 7"}, {"EXPUNGE 2", "7 7 OK 10 10 7"}, {"EXPUNGE x", "BAD BAD BAD 10 10 BAD"}, {"EXPUNGE 1 2", "BAD BAD BAD 10 10 BAD"}, {"EXPUNGE (1)", "BAD BAD BAD 10 10 BAD"}, {`EXPUNGE "1"`, "BAD BAD BAD 10 10 BAD"},
	{"COPY 1 a", "7 7 OK 10 10 7"}, {"COPY 1:* INBOX", "7 7 OK 10 10 7"}, {"COPY 2 a", "7 7 OK 10 10 7"}, {"COPY 1 none", "7 7 6 10 10 7"}, {"COPY 2 none", "7 7 6 10 10 7"}, {"COPY 1", "BAD BAD BAD 10 10 BAD"}, {"COPY a", "BAD BAD BAD 10 10 BAD"}, {"COPY", "BAD BAD BAD 10 10 BAD"}, {"COPY x a", "BAD BAD BAD 10 10 BAD"}, {"COPY 1 a a", "BAD BAD BAD 10 10 BAD"}, {`COPY 1 "a"`, "BAD BAD BAD 10 10 BAD"}, {"COPY (1) a", "BAD BAD BAD 10 10 BAD"},
	{"IDLE", "7 7 + 7 + 7"}, {"IDLE x", "BAD"}, {"IDLE ()", "BAD"},
	{"DONE", "BAD"}, {"FOO", "BAD"}, {"FOO x", "BAD"}, {"FOO (x) {1+}\r\ny", "BAD"},
}

// lastLine is the last line that was told.
func lastTold(told string) string {
	all := strings.Split(strings.TrimSuffix(told, "\r\n"), "\r\n")
	return all[len(all)-1]
}

func wantedAnswer(answer string) string {
	switch answer {
	case "OK", "BAD":
		return "n " + answer
	case "+":
		return "+ idling"
	}
	return "n NO " + answer
}

func TestRunAccessCommands(t *testing.T) {
	s := accessStore()
	for at, state := range accessStates {
		for _, command := range accessAnswers {
			answers := strings.Fields(command.answers)
			want := wantedAnswer(answers[min(at, len(answers)-1)])
			if command.answers == "* BAD" {
				want = "* BAD"
			}
			for _, line := range some(command.command, wordIn(command.command, slowLow), wordIn(command.command, mixedLetters)) {
				said := sent(append(slices.Clone(state.said), "n "+line)...)
				run := checkAccess(t, state.name+": "+line, s, coming(0, said))
				told, begins := strings.CutPrefix(run.Told[0], sent(state.heard...))
				if !begins || lastTold(told) != want {
					t.Errorf("%s, %s: told %s, want %s", state.name, short(line), short(told), want)
				}
				// What is not done changes nothing.
				if strings.Contains(want, "BAD") || strings.Contains(want, "NO") {
					if told != want+"\r\n" || !sameStores(run.Store, s) {
						t.Errorf("%s, %s: told %s, and the store is %s", state.name, short(line), short(told), shown(run.Store))
					}
				}
				again := impl.RunAccess(s, accessUsers(), accessNow, byteEvents(0, said))
				if !sameAccess(run, again) {
					t.Errorf("%s, %s: told %s of its bytes", state.name, short(line), short(again.Told[0]))
				}
			}
		}
	}
}

// TestRunAccessBehindCommands has each two commands in each place, and others behind them.
func TestRunAccessBehindCommands(t *testing.T) {
	s := accessStore()
	rest := some("m DONE", "m NOOP", "m LIST", "m FETCH 1:* (FLAGS MOD)", "m STORE 1 +FLAGS (w)", "m LOGIN ann p", "m SELECT a", "m NOOP", "m STATUS INBOX")
	for _, state := range accessStates {
		for at, first := range accessAnswers {
			second := accessAnswers[(at*7+3)%len(accessAnswers)]
			third := accessAnswers[(at*13+5)%len(accessAnswers)]
			said := behind(state.said, "n "+first.command, "n "+second.command, "n "+third.command)
			checkAccess(t, fmt.Sprintf("%q", said), s, coming(0, sent(append(said, rest...)...)))
		}
	}
}

func TestRunAccessLogin(t *testing.T) {
	s := accessStore()
	checkLines(t, s, some("a LOGIN ann p", "b LOGIN ann p", "c LOGIN ro p", "d LOGIN x y", "e LIST x"), "a OK", "b NO 7", "c NO 7", "d NO 7", "e BAD")
	for _, wrong := range some("ann q", "ann P", "Ann p", "ann bob", "bob p", "p ann", "ann pp", "an p", `"" ""`, `ann ""`, `"ann " p`, `ann " p"`, "ann ann", "none p") {
		checkLines(t, s, some("a LOGIN "+wrong, "b LIST", "c LOGIN ann p", "d CLOSE"), "a NO 10", "b NO 7", "c OK", "d OK")
	}
	checkLines(t, s, some("a LOGIN bob q+}[]", "b CREATE q"), "a OK", "b OK")
	checkLines(t, s, some(`a LOGIN bob "q+}[]"`, "b CLOSE"), "a OK", "b OK")
	// Of users of one name each has its own password, and the first one with both counts.
	users := []impl.AccessUser{{Name: "x", Password: "1", ReadOnly: true}, {Name: "x", Password: "2"}, {Name: "y", Password: "1"}, {Name: "x", Password: "1"}, {Name: xs(maxUserText), Password: xs(maxUserText)}}
	for said, want := range map[string]string{"x 1": "a OK\r\nb NO 10\r\n", "x 2": "a OK\r\nb OK\r\n", "y 1": "a OK\r\nb OK\r\n", "y 2": "a NO 10\r\nb NO 7\r\n", xs(maxUserText) + " " + xs(maxUserText): "a OK\r\nb OK\r\n"} {
		events := []impl.AccessEvent{lines(0, "a LOGIN "+said, "b CREATE q")}
		run := impl.RunAccess(s, users, 0, events)
		wantText(t, "RunAccess", said, run.Told[0], want)
		if !sameAccess(run, slowRunAccess(s, users, 0, events)) {
			t.Errorf("LOGIN %s: %s", said, shown(run))
		}
	}
	wantText(t, "RunAccess", "no users", impl.RunAccess(s, nil, 0, []impl.AccessEvent{lines(0, "a LOGIN ann p", `b LOGIN "" ""`)}).Told[0], "a NO 10\r\nb NO 10\r\n")
}

func TestRunAccessBoxes(t *testing.T) {
	checkUsing(t, some("b LIST", "c CREATE Z", "d CREATE a/b", "e DELETE z/y", "f RENAME a 0", "g LIST"),
		"* LIST INBOX", "* LIST a", "* LIST z/y", "b OK", "c OK", "d OK", "e OK", "f OK", "* LIST 0", "* LIST INBOX", "* LIST Z", "* LIST a/b", "g OK")
	checkLines(t, impl.StoreStart(), some(login, "b LIST", "c STATUS INBOX"), "a OK", "* LIST INBOX", "b OK", "* STATUS INBOX (0 1 1 0 0)", "c OK")
	checkUsing(t, some("b STATUS INBOX", "c STATUS a", "d STATUS z/y", "e STATUS Inbox", "f STATUS z"),
		"* STATUS INBOX (4 9 1 2 14)", "b OK", "* STATUS a (1 2 3 1 1)", "c OK", "* STATUS z/y (0 1 2 0 0)", "d OK", "e NO 6", "f NO 6")
	run := checkUsing(t, some("b CREATE new/box", "c CREATE new/box", "d CREATE /x", "e CREATE x/", "f CREATE é", "g CREATE "+xs(60), "h CREATE "+xs(61), "i CREATE \\", "j CREATE INBOX"),
		"b OK", "c NO 7", "d NO 1", "e NO 1", "* BAD", "g OK", "h NO 1", "i NO 1", "j NO 7")
	if b := slowBox(&run.Store, "new/box"); b == nil || b.Validity != 6 || b.NextUid != 1 || run.Store.NextValidity != 8 {
		t.Errorf("CREATE: %s", shown(run.Store))
	}
	run = checkUsing(t, some("b DELETE a", "c DELETE a", "d DELETE INBOX", "e DELETE a//b", "f CREATE a", "g STATUS a"), "b OK", "c NO 6", "d NO 10", "e NO 6", "f OK", "* STATUS a (0 1 6 0 0)", "g OK")
	if len(run.Store.Boxes) != 3 {
		t.Errorf("DELETE: %s", shown(run.Store))
	}
	checkUsing(t, some("b RENAME a q", "c RENAME a q", "d RENAME none /", "e RENAME INBOX /", "f RENAME q INBOX", "g RENAME q /", "h RENAME q q", "i STATUS q"),
		"b OK", "c NO 6", "d NO 6", "e NO 10", "f NO 7", "g NO 1", "h NO 7", "* STATUS q (1 2 3 1 1)", "i OK")
	// No room for more boxes, or for the Validity of one more.
	full := storeOfBoxes(maxBoxes)
	checkLines(t, full, some(login, "b CREATE zz", "c CREATE INBOX", "d DELETE INBOX"), "a OK", "b NO 8", "c NO 7", "d NO 10")
	last := changedAccess(func(s *impl.Store) { s.NextValidity = maxNumber })
	checkLines(t, last, some(login, "b CREATE q", "c CREATE /"), "a OK", "b NO 8", "c NO 1")
}

func TestRunAccessAppend(t *testing.T) {
	run := checkUsing(t, some(`b APPEND z/y () ""`, `c APPEND z/y (x \Seen x a) "m \"1\""`, "d APPEND z/y ($) {2+}", "\r\n", `e APPEND none () "m"`, `f APPEND z/y (\seen) "m"`, `g APPEND z/y (a `+xs(31)+`) "m"`, "h STATUS z/y"),
		"b OK", "c OK", "d OK", "e NO 6", "f NO 1", "g NO 1", "* STATUS z/y (3 4 2 2 3)", "h OK")
	want := []impl.Mail{{Uid: 1, Mod: 1, Time: accessNow}, {Uid: 2, Mod: 2, Time: accessNow, Flags: some(`\Seen`, "a", "x"), Message: `m "1"`}, {Uid: 3, Mod: 3, Time: accessNow, Flags: some("$"), Message: "\r\n"}}
	if !slices.EqualFunc(run.Store.Boxes[2].Mails, want, sameMail) {
		t.Errorf("APPEND: %s", shown(run.Store.Boxes[2].Mails))
	}
	for _, now := range []int64{0, 1, maxTime} {
		run := impl.RunAccess(accessStore(), accessUsers(), now, []impl.AccessEvent{lines(0, login, `b APPEND a () "m"`)})
		if mails := run.Store.Boxes[1].Mails; len(mails) != 2 || mails[1].Time != now {
			t.Errorf("APPEND at %d: %s", now, shown(mails))
		}
	}
	flags := func(count int) string { return "(" + strings.Join(manyFlags(0, count), " ") + ")" }
	checkUsing(t, some("b APPEND a "+flags(maxFlags)+` "m"`, "c APPEND a "+flags(maxFlags+1)+` "m"`), "b OK", "c NO 1")
	// What there is no room for.
	near := storeOfBytes(maxStoreBytes - 4)
	checkLines(t, near, some(login, `b APPEND INBOX () "12345"`, `c APPEND INBOX () "1234"`, `d APPEND INBOX () "x"`, `e APPEND INBOX () ""`), "a OK", "b NO 8", "c OK", "d NO 8", "e OK")
	crowded := changedAccess(func(s *impl.Store) {
		s.Boxes[1].Mails, s.Boxes[1].NextUid, s.Boxes[1].TopMod = manyMails(maxMails-1, "m"), 1000, 1000
		s.Boxes[2].TopMod = maxNumber
		s.Boxes[0].NextUid = maxNumber
	})
	checkLines(t, crowded, some(login, `b APPEND a () "m"`, `c APPEND a () "m"`, `d APPEND z/y () "m"`, `e APPEND INBOX () "m"`, `f APPEND INBOX (\x) "m"`), "a OK", "b OK", "c NO 8", "d NO 8", "e NO 8", "f NO 1")
}

func TestRunAccessSelect(t *testing.T) {
	all := some("* BOX INBOX 1 9 14", `* NEW 1 (\Seen)`, "* NEW 3 ()", `* NEW 4 (\Deleted x)`, `* NEW 7 (\Deleted \Seen)`, "b OK")
	checkUsing(t, some("b SELECT INBOX"), all...)
	// With another validity than the box's it is as without.
	for _, numbers := range some("0 0", "2 0", "2 14", "0 1", "9999999999 1", "10 1", "4294967297 1") {
		checkUsing(t, some("b SELECT INBOX "+numbers), all...)
	}
	for mod, told := range map[string][]string{
		"0":          some("* GONE 5", "* GONE 6", "* GONE 2", "* GONE 8", `* CHANGED 1 (\Seen)`, "* CHANGED 3 ()", `* CHANGED 4 (\Deleted x)`, `* CHANGED 7 (\Deleted \Seen)`),
		"1":          some("* GONE 5", "* GONE 6", "* GONE 2", "* GONE 8", `* CHANGED 1 (\Seen)`, "* CHANGED 3 ()", `* CHANGED 4 (\Deleted x)`, `* CHANGED 7 (\Deleted \Seen)`),
		"2":          some("* GONE 5", "* GONE 6", "* GONE 2", "* GONE 8", "* CHANGED 3 ()", `* CHANGED 4 (\Deleted x)`, `* CHANGED 7 (\Deleted \Seen)`),
		"4":          some("* GONE 6", "* GONE 2", "* GONE 8", "* CHANGED 3 ()", `* CHANGED 4 (\Deleted x)`, `* CHANGED 7 (\Deleted \Seen)`),
		"5":          some("* GONE 6", "* GONE 2", "* GONE 8", `* CHANGED 4 (\Deleted x)`, `* CHANGED 7 (\Deleted \Seen)`),
		"6":          some("* GONE 8", `* CHANGED 4 (\Deleted x)`, `* CHANGED 7 (\Deleted \Seen)`),
		"0000000009": some("* GONE 8", `* CHANGED 4 (\Deleted x)`),
		"12":         some(`* CHANGED 4 (\Deleted x)`),
		"14":         nil,
		"15":         nil,
		"9999999999": nil,
	} {
		checkUsing(t, some("b SELECT INBOX 1 "+mod), append(append(some("* BOX INBOX 1 9 14"), told...), "b OK")...)
		checkUsing(t, some("b SELECT INBOX 0000000001 "+mod), append(append(some("* BOX INBOX 1 9 14"), told...), "b OK")...)
	}
	checkUsing(t, some("b SELECT z/y", "c SELECT z/y 2 0", "d SELECT z/y 1 0"), "* BOX z/y 2 1 0", "b OK", "* BOX z/y 2 1 0", "c OK", "* BOX z/y 2 1 0", "d OK")
	// Where there is none the session has the box that it had, or none.
	checkUsing(t, some("b SELECT none", "c THREAD", "d SELECT a", "e SELECT none", "f THREAD", "g SELECT none 3 1", "h THREAD", "i SELECT", "j THREAD"),
		"b NO 6", "c NO 7", "* BOX a 3 2 1", "* NEW 1 ()", "d OK", "e NO 6", "* THREAD (1)", "f OK", "g NO 6", "* THREAD (1)", "h OK", "i BAD", "* THREAD (1)", "j OK")
	checkUsing(t, some("b SELECT a", "c SELECT INBOX 1 14", "d SEARCH ALL", "e SELECT z/y", "f SEARCH ALL"),
		"* BOX a 3 2 1", "* NEW 1 ()", "b OK", "* BOX INBOX 1 9 14", "c OK", "* SEARCH 1 3 4 7", "d OK", "* BOX z/y 2 1 0", "e OK", "* SEARCH", "f OK")
	// A box that no longer remembers all that have gone.
	many := changedAccess(func(s *impl.Store) {
		s.Boxes[2].NextUid, s.Boxes[2].TopMod, s.Boxes[2].Gones = 1000, 1000, manyGones(200, 199+maxMails, 500)
	})
	var gone []string
	for uid := 200; uid < 200+maxMails; uid++ {
		gone = append(gone, fmt.Sprint("* GONE ", uid))
	}
	for _, mod := range some("0", "3", "499") {
		checkLines(t, many, some(login, "b SELECT z/y 2 "+mod), append(append(some("a OK", "* BOX z/y 2 1000 1000"), gone...), "b OK")...)
	}
	checkLines(t, many, some(login, "b SELECT z/y 2 500"), "a OK", "* BOX z/y 2 1000 1000", "b OK")
}

// TestRunAccessAway has a session that comes back: what it was not told again it knows all the same.
func TestRunAccessAway(t *testing.T) {
	run := checkAccess(t, "away", accessStore(), lines(0, login, "b SELECT INBOX 1 14", "c NOOP"), lines(1, login, choose, "c STORE 3 FLAGS (y)"), lines(0, "d NOOP"), lines(1, "d STORE 1 FLAGS (\\Deleted)", "d EXPUNGE 1", `d APPEND INBOX () ""`), lines(0, "e NOOP", "f NOOP"))
	wantTold(t, "away", run, 0, "a OK", "* BOX INBOX 1 9 14", "b OK", "c OK", "* CHANGED 3 (y)", "d OK", "* GONE 1", "* NEW 9 ()", "e OK", "f OK")
	run = checkAccess(t, "away and back", accessStore(), lines(0, login, choose, "c CLOSE"), lines(1, login, choose, "c STORE 3 FLAGS (y)", "c EXPUNGE", `c APPEND INBOX (n) ""`), lines(0, "d SELECT INBOX 1 14", "e NOOP"))
	wantTold(t, "away and back", run, 0, behind(chosen, "c OK", "* BOX INBOX 1 10 17", "* GONE 4", "* GONE 7", "* CHANGED 3 (y)", "* CHANGED 9 (n)", "d OK", "e OK")...)
}

func TestRunAccessClose(t *testing.T) {
	checkChosen(t, some("c CLOSE", "d THREAD", "e CLOSE", "f NOOP", "g SELECT a", "h CLOSE"), "c OK", "d NO 7", "e OK", "f OK", "* BOX a 3 2 1", "* NEW 1 ()", "g OK", "h OK")
	// Without a box nothing is told of it.
	run := checkAccess(t, "closed", accessStore(), lines(0, login, choose, "c CLOSE"), lines(1, login, choose, "c EXPUNGE"), lines(0, "d NOOP"))
	wantTold(t, "closed", run, 0, behind(chosen, "c OK", "d OK")...)
	run = checkAccess(t, "closed behind changes", accessStore(), lines(0, login, choose), lines(1, login, choose, "c EXPUNGE"), lines(0, "c CLOSE", "d NOOP"))
	wantTold(t, "closed behind changes", run, 0, behind(chosen, "c OK", "d OK")...)
}

func TestRunAccessFetch(t *testing.T) {
	checkChosen(t, some("c FETCH 1:* (SIZE FLAGS MOD)"), "* FETCH 1 (SIZE 54 FLAGS (\\Seen) MOD 2)", "* FETCH 3 (SIZE 72 FLAGS () MOD 5)", "* FETCH 4 (SIZE 23 FLAGS (\\Deleted x) MOD 14)", "* FETCH 7 (SIZE 0 FLAGS (\\Deleted \\Seen) MOD 9)", "c OK")
	// The order of the ranges counts for nothing, and each mail is told once.
	for _, ranges := range some("3,1", "1,3", "1:3", "3:1", "3,1,2,1:3", "1:2,3:3", "2:3,1") {
		checkChosen(t, some("c FETCH "+ranges+" (MOD)"), "* FETCH 1 (MOD 2)", "* FETCH 3 (MOD 5)", "c OK")
	}
	for _, ranges := range some("2", "5:6", "8:*", "*", "4294967295", "2,5:6,8") {
		checkChosen(t, some("c FETCH "+ranges+" (MOD)"), "c OK")
		checkChosen(t, some("c FETCH "+ranges+" (MOD X)"), "c BAD")
	}
	for _, ranges := range some("0", ",", "1,", "1:", ":1", "x", "01", "4294967296", "1;2", "-1", "1:2:3", "**", strings.Repeat("1,", maxRangeCount)+"1") {
		checkChosen(t, some("c FETCH "+ranges+" (MOD)"), "c BAD")
	}
	checkChosen(t, some("c FETCH "+strings.Repeat("1,", maxRangeCount-1)+"3 (MOD)"), "* FETCH 1 (MOD 2)", "* FETCH 3 (MOD 5)", "c OK")
	// One to twenty items, as often as they are asked for.
	for _, count := range []int{1, 2, maxItemCount - 1, maxItemCount} {
		items := strings.TrimSpace(strings.Repeat("MOD ", count))
		checkChosen(t, some("c FETCH 3 ("+items+")"), "* FETCH 3 ("+strings.TrimSpace(strings.Repeat("MOD 5 ", count))+")", "c OK")
	}
	for _, items := range some(strings.Repeat("MOD ", maxItemCount)+"MOD", strings.Repeat("MOD ", 500)+"MOD", "", "mod", "MOD mod", "X MOD", "MOD X MOD", "BODY", "BODY[x]", "BODY[]<1>", "BODY["+xs(200)+"]") {
		checkChosen(t, some("c FETCH 3 ("+items+")", "d FETCH 2 ("+items+")"), "c BAD", "d BAD")
	}
	checkChosen(t, some("c FETCH 4 (BODY[TEXT] BODY[TEXT]<1.3> DATE ENVELOPE BODY[2] BODY[1.MIME] STRUCTURE)"),
		`* FETCH 4 (BODY[TEXT] "\"q\" (b) c" BODY[TEXT]<1.3> "q\" " DATE "03-Jan-1970 07:33:20 +0000" ENVELOPE (NIL "a" NIL NIL NIL NIL NIL NIL NIL NIL) BODY[2] NIL BODY[1.MIME] {14}`, "Subject: a", "", ` STRUCTURE ("text" "plain" NIL NIL NIL "7BIT" 9 0))`, "c OK")
	// Nothing is changed by it, not even of a mail that was not seen.
	run := checkChosen(t, some("c FETCH 3 (BODY[])"), "* FETCH 3 (BODY[] {72}", "From: ann@a", "Subject: Re: lunch", "Message-ID: <3>", "References: <1>", "", "Yes)", "c OK")
	if !sameStores(run.Store, accessStore()) {
		t.Error("FETCH has changed the store")
	}
	// Items of a message whose head cannot be read.
	ill := changedAccess(func(s *impl.Store) { s.Boxes[1].Mails[0].Message = "x" })
	checkLines(t, ill, some(login, "b SELECT a 3 1", "c FETCH 1 (ENVELOPE STRUCTURE BODY[] SIZE)"), "a OK", "* BOX a 3 2 1", "b OK", "* FETCH 1 (ENVELOPE NIL STRUCTURE NIL BODY[] NIL SIZE 1)", "c OK")
}

func TestRunAccessStore(t *testing.T) {
	run := checkChosen(t, some("c STORE 1,3 FLAGS (y x)", "d STORE 3:4 +FLAGS (\\Seen)", "e STORE 1:* -FLAGS (x \\Deleted)", "f STORE 7 FLAGS ()"),
		"* CHANGED 1 (x y)", "* CHANGED 3 (x y)", "c OK", "* CHANGED 3 (\\Seen x y)", "* CHANGED 4 (\\Deleted \\Seen x)", "d OK", "* CHANGED 1 (y)", "* CHANGED 3 (\\Seen y)", "* CHANGED 4 (\\Seen)", "* CHANGED 7 (\\Seen)", "e OK", "* CHANGED 7 ()", "f OK")
	if b := run.Store.Boxes[0]; b.TopMod != 18 || b.Mails[0].Mod != 17 || b.Mails[3].Mod != 18 || b.Mails[0].Message != accessStore().Boxes[0].Mails[0].Message {
		t.Errorf("STORE: %s", shown(b))
	}
	// It is told also where nothing changes, but not where there is no mail.
	checkChosen(t, some("c STORE 1 +FLAGS ()", "d STORE 1 FLAGS (\\Seen)", "e STORE 2 FLAGS (x)", "f STORE 2,5:6 FLAGS (\\x)"), "* CHANGED 1 (\\Seen)", "c OK", "* CHANGED 1 (\\Seen)", "d OK", "e OK", "f NO 1")
	// With a Mod: those that have changed since are stale.
	for mod, told := range map[string][]string{
		"0":          some(`* CHANGED 1 (\Seen f)`, "* CHANGED 3 (f)", `* CHANGED 4 (\Deleted f x)`, `* CHANGED 7 (\Deleted \Seen f)`, "c OK"),
		"1":          some("* STALE 1", "* STALE 3", "* STALE 4", "* STALE 7", "c OK"),
		"2":          some("* STALE 3", "* STALE 4", "* STALE 7", `* CHANGED 1 (\Seen f)`, "c OK"),
		"8":          some("* STALE 4", "* STALE 7", `* CHANGED 1 (\Seen f)`, "* CHANGED 3 (f)", "c OK"),
		"0000000009": some("* STALE 4", `* CHANGED 1 (\Seen f)`, "* CHANGED 3 (f)", `* CHANGED 7 (\Deleted \Seen f)`, "c OK"),
		"14":         some(`* CHANGED 1 (\Seen f)`, "* CHANGED 3 (f)", `* CHANGED 4 (\Deleted f x)`, `* CHANGED 7 (\Deleted \Seen f)`, "c OK"),
		"9999999999": some(`* CHANGED 1 (\Seen f)`, "* CHANGED 3 (f)", `* CHANGED 4 (\Deleted f x)`, `* CHANGED 7 (\Deleted \Seen f)`, "c OK"),
	} {
		checkChosen(t, some("c STORE 1:* +FLAGS (f) "+mod), told...)
	}
	checkChosen(t, some("c STORE 4 FLAGS () 13", "d STORE 4 -FLAGS (x) 1", "e NOOP"), "* STALE 4", "c OK", "* STALE 4", "d OK", "e OK")
	flags := func(from, end int) string { return "(" + strings.Join(manyFlags(from, end), " ") + ")" }
	checkChosen(t, some("c STORE 1 FLAGS "+flags(0, maxFlags+1), "d STORE 1 +FLAGS "+flags(0, maxFlags), "e STORE 3 +FLAGS "+flags(0, maxFlags)), "c NO 1", "d NO 8", "* CHANGED 3 "+flags(0, maxFlags), "e OK")
	full := changedAccess(func(s *impl.Store) { s.Boxes[1].TopMod = maxNumber })
	checkLines(t, full, some(login, "b SELECT a 3 1", "c STORE 1 FLAGS (x)", "d STORE 2 FLAGS (x)", "e STORE 1 FLAGS (\\x)"), "a OK", "* BOX a 3 2 4294967295", "b OK", "c NO 8", "d NO 8", "e NO 1")
}

func TestRunAccessSearch(t *testing.T) {
	for query, want := range map[string]string{
		"ALL": " 1 3 4 7", "all": " 1 3 4 7", "UNSEEN": " 3 4", "SEEN": " 1 7", "DELETED UNSEEN": " 4", "UID 2": "", "UID 3:4,7": " 3 4 7", `FROM "ann"`: " 3", "SUBJECT lunch": " 1 3", `TEXT "\"q\" (b)"`: " 4", `OR FROM bob (DELETED SEEN)`: " 1 7", "NOT ALL": "", "MODSEQ 9": " 4 7",
		"LARGER 23 SMALLER 72": " 1", "SINCE 03-Jan-1970": " 4", `KEYWORD x`: " 4", `HEADER message-id "<3>"`: " 3", "BODY {3": "", "BODY {3}": "", "BODY {x+}": "",
	} {
		checkChosen(t, some("c SEARCH "+query, "d search "+query), "* SEARCH"+want, "c OK", "* SEARCH"+want, "d OK")
	}
	checkChosen(t, some(`c "Search" UNSEEN`, "d {6+}", "search DELETED"), "* SEARCH 3 4", "c OK", "* SEARCH 4 7", "d OK")
	for _, query := range some("FOO", "", " ALL", "ALL ", "ALL FOO", "(ALL", "ALL)", "UID 0", "UID", "NOT", "OR ALL", `FROM "x`, "FROM", "KEYWORD \\x", "LARGER x", "ON 31-Feb-2000", "ALL\tALL", "ALL  SEEN", "\x00", "é", "FROM \"é", strings.Repeat("NOT ", 10)+"ALL", "TEXT "+xs(201), strings.Repeat("ALL ", 100)+"ALL", strings.Repeat("UID 1,1,1,1,1,1,1,1,1,1 ", 100)+"ALL") {
		checkChosen(t, some("c SEARCH "+query, "d NOOP"), "c BAD", "d OK")
	}
	checkChosen(t, some("c SEARCH TEXT é", `d SEARCH TEXT "é"`), "c BAD", "* SEARCH", "d OK")
	// As long as a query may be, and one byte more.
	long := "TEXT " + strings.Repeat("x", 195)
	query := strings.Repeat(long+" ", 9) + "TEXT " + strings.Repeat("x", maxQuery-9*len(long+" ")-len("TEXT "))
	checkChosen(t, some("c SEARCH "+query, "d SEARCH "+query+"x"), "* SEARCH", "c OK", "d BAD")
	checkUsing(t, some("b SELECT z/y", "c SEARCH ALL"), "* BOX z/y 2 1 0", "b OK", "* SEARCH", "c OK")
}

func TestRunAccessSort(t *testing.T) {
	for keys, want := range map[string]string{
		"": " 1 3 4 7", "ARRIVAL": " 7 1 3 4", "REVERSE ARRIVAL": " 4 3 1 7", "SIZE": " 7 4 1 3", "SUBJECT": " 7 4 1 3", "SUBJECT REVERSE SIZE": " 7 4 3 1", "REVERSE SUBJECT ARRIVAL": " 1 3 4 7", "REVERSE SUBJECT REVERSE ARRIVAL": " 3 1 4 7", "FROM": " 4 7 3 1", "REVERSE FROM REVERSE SIZE": " 1 3 4 7", "TO": " 1 3 4 7", "DATE": " 7 1 3 4",
		"TO TO TO TO TO TO TO TO TO SIZE": " 7 4 1 3", strings.TrimSpace(strings.Repeat("REVERSE TO ", 9)) + " REVERSE SIZE": " 3 1 4 7",
	} {
		checkChosen(t, some("c SORT ("+keys+")"), "* SORT"+want, "c OK")
	}
	for _, keys := range some("X", "SIZE X", "X SIZE", "size", "REVERSE", "SIZE REVERSE", "REVERSE REVERSE SIZE", "REVERSE reverse", "reverse SIZE", "UID", "CC", strings.TrimSpace(strings.Repeat("TO ", 11)), strings.TrimSpace(strings.Repeat("REVERSE TO ", 11)), strings.TrimSpace(strings.Repeat("TO ", 400)), "REVERSE SIZE X") {
		checkChosen(t, some("c SORT ("+keys+")"), "c BAD")
		checkUsing(t, some("b SELECT z/y", "c SORT ("+keys+")"), "* BOX z/y 2 1 0", "b OK", "c BAD")
	}
	checkUsing(t, some("b SELECT z/y", "c SORT ()", "d SORT (REVERSE DATE)"), "* BOX z/y 2 1 0", "b OK", "* SORT", "c OK", "* SORT", "d OK")
}

func TestRunAccessThread(t *testing.T) {
	checkChosen(t, some("c THREAD"), "* THREAD (1 (3))(4)(7)", "c OK")
	checkUsing(t, some("b SELECT z/y", "c THREAD"), "* BOX z/y 2 1 0", "b OK", "* THREAD ", "c OK")
}

func TestRunAccessExpunge(t *testing.T) {
	run := checkChosen(t, some("c EXPUNGE", "d EXPUNGE", "e FETCH 1:* (MOD)"), "* GONE 4", "* GONE 7", "c OK", "d OK", "* FETCH 1 (MOD 2)", "* FETCH 3 (MOD 5)", "e OK")
	if b := run.Store.Boxes[0]; b.TopMod != 15 || len(b.Gones) != 6 || b.Gones[5] != (impl.Gone{Uid: 7, Mod: 15}) {
		t.Errorf("EXPUNGE: %s", shown(b))
	}
	for ranges, gone := range map[string][]string{"4": some("* GONE 4"), "7:*": some("* GONE 7"), "1:*": some("* GONE 4", "* GONE 7"), "7,4": some("* GONE 4", "* GONE 7"), "1:5": some("* GONE 4"), "1": nil, "3,1": nil} {
		checkChosen(t, some("c EXPUNGE "+ranges), append(gone, "c OK")...)
	}
	// Ranges in which there are none do nothing: not what no ranges do.
	for _, ranges := range some("2", "5:6", "8:*", "*") {
		run := checkChosen(t, some("c EXPUNGE "+ranges), "c OK")
		if !sameStores(run.Store, accessStore()) {
			t.Errorf("EXPUNGE %s: %s", ranges, shown(run.Store))
		}
	}
	full := changedAccess(func(s *impl.Store) { s.Boxes[1].TopMod = maxNumber })
	checkLines(t, full, some(login, "b SELECT a 3 1", "c EXPUNGE", "d EXPUNGE 1", "e EXPUNGE 2"), "a OK", "* BOX a 3 2 4294967295", "b OK", "c NO 8", "d NO 8", "e OK")
	checkUsing(t, some("b SELECT z/y", "c EXPUNGE", "d EXPUNGE 1:*"), "* BOX z/y 2 1 0", "b OK", "c OK", "d OK")
}

func TestRunAccessCopy(t *testing.T) {
	run := checkChosen(t, some("c COPY 3:4 a", "d COPY 1 INBOX", "e COPY 2 a", "f COPY 1:* none", "g COPY 2 none", "h COPY 1 a//b", "i STATUS a"),
		"c OK", "* NEW 9 (\\Seen)", "d OK", "e OK", "f NO 6", "g NO 6", "h NO 6", "* STATUS a (3 4 3 3 3)", "i OK")
	a := run.Store.Boxes[1].Mails
	if want := accessStore().Boxes[0].Mails; a[1].Message != want[1].Message || a[1].Time != 95000 || a[2].Uid != 3 || !slices.Equal(a[2].Flags, want[2].Flags) {
		t.Errorf("COPY: %s", shown(a))
	}
	checkChosen(t, some("c COPY 7,1 z/y", "d SELECT z/y"), "c OK", "* BOX z/y 2 3 2", "* NEW 1 (\\Seen)", "* NEW 2 (\\Deleted \\Seen)", "d OK")
	full := changedAccess(func(s *impl.Store) { s.Boxes[1].TopMod = maxNumber })
	checkLines(t, full, some(login, "b SELECT INBOX 1 14", "c COPY 1 a", "d COPY 2 a"), "a OK", "* BOX INBOX 1 9 14", "b OK", "c NO 8", "d OK")
	crowded := changedAccess(func(s *impl.Store) {
		s.Boxes[1].Mails, s.Boxes[1].NextUid, s.Boxes[1].TopMod = manyMails(maxMails-3, "m"), 1000, 1000
	})
	checkLines(t, crowded, some(login, "b SELECT INBOX 1 14", "c COPY 1:* a", "d COPY 1:4 a", "e COPY 1 a"), "a OK", "* BOX INBOX 1 9 14", "b OK", "c NO 8", "d OK", "e NO 8")
}

func TestRunAccessReadOnly(t *testing.T) {
	s := accessStore()
	changing := some("CREATE q", "DELETE a", "RENAME a q", `APPEND a () "m"`, "STORE 1 FLAGS ()", "EXPUNGE", "EXPUNGE 2", "COPY 1 a", "CREATE INBOX", "DELETE none", "STORE 2 FLAGS (\\x)", "COPY 2 none", "CREATE", "STORE", "APPEND x", "EXPUNGE x", "COPY")
	for _, command := range changing {
		for _, ahead := range [][]string{some(roIn), some(roIn, choose)} {
			run := checkAccess(t, command, s, coming(0, sent(behind(ahead, "n "+command)...)))
			if lastTold(run.Told[0]) != "n NO 10" || !sameStores(run.Store, s) {
				t.Errorf("%s by one who is ReadOnly: %s", command, run.Told[0])
			}
		}
	}
	// All else they may do.
	checkLines(t, s, some(roIn, "b SELECT INBOX 1 14", "c LIST", "d STATUS a", "e FETCH 1 (FLAGS)", "f SEARCH ALL", "g SORT ()", "h THREAD", "i CLOSE"),
		"a OK", "* BOX INBOX 1 9 14", "b OK", "* LIST INBOX", "* LIST a", "* LIST z/y", "c OK", "* STATUS a (1 2 3 1 1)", "d OK", "* FETCH 1 (FLAGS (\\Seen))", "e OK", "* SEARCH 1 3 4 7", "f OK", "* SORT 1 3 4 7", "g OK", "* THREAD (1 (3))(4)(7)", "h OK", "i OK")
	// And they hear of changes with that answer, too.
	run := checkAccess(t, "ReadOnly hears", s, lines(0, roIn, "b SELECT INBOX 1 14"), lines(1, login, choose, "c STORE 3 FLAGS (y)"), lines(0, "c EXPUNGE", "d IDLE"), lines(1, "d EXPUNGE"), lines(0, "DONE"))
	wantTold(t, "ReadOnly hears", run, 0, "a OK", "* BOX INBOX 1 9 14", "b OK", "* CHANGED 3 (y)", "c NO 10", "+ idling", "* GONE 4", "* GONE 7", "d OK")
}

func TestRunAccessIdle(t *testing.T) {
	s := accessStore()
	for _, done := range some("DONE", "done", "Done", "dONE") {
		checkChosen(t, some("c IDLE", done, "d NOOP"), "+ idling", "c OK", "d OK")
	}
	// Any other line ends it, and is not looked at otherwise.
	for _, other := range some("", " ", "DONE ", " DONE", "DON", "DONEE", "noop", "d NOOP", "d IDLE", "c DONE", `"DONE"`, "d LOGOUT", "d CREATE q", "{3+}", "x {0+}", "d APPEND a () {3+}", "D\u0150NE", "DONE\r", "\nDONE", "d SELECT a") {
		run := checkChosen(t, some("c IDLE", other, "e NOOP"), "+ idling", "c BAD", "e OK")
		if !sameStores(run.Store, s) {
			t.Errorf("%s while idling has changed the store", other)
		}
	}
	// Also where a line looks like one with a literal behind it: the next line is a command.
	checkChosen(t, some("c IDLE", "x {9+}", "d NOOP", "e IDLE", "DONE"), "+ idling", "c BAD", "d OK", "+ idling", "e OK")
	checkChosen(t, some("c IDLE", "DONE", "DONE", "d DONE"), "+ idling", "c OK", "* BAD", "d BAD")
	checkChosen(t, some("c IDLE x", "DONE", "d IDLE", "DONE"), "c BAD", "* BAD", "+ idling", "d OK")
	// What others do is heard behind each event: once for all that one has done.
	busy := []impl.AccessEvent{
		lines(0, login, choose, "c IDLE"), lines(1, login, choose, "c STORE 1 FLAGS (x)", "d STORE 1 FLAGS (y)", "e STORE 3 FLAGS (z)"), coming(5, ""), lines(1, "f EXPUNGE", `g APPEND INBOX (n) ""`), coming(1, "h STORE 9 FLAGS (m"), coming(1, ")\r\n"), lines(1, "i COPY 1 INBOX", "j NOOP"), lines(2, "k NOOP"), lines(0, "DONE", "l NOOP"),
	}
	run := checkAccess(t, "others are busy", s, busy...)
	heard := some("+ idling", "* CHANGED 1 (y)", "* CHANGED 3 (z)", "* GONE 4", "* GONE 7", "* NEW 9 (n)", "* CHANGED 9 (m)", "* NEW 10 (y)", "c OK", "l OK")
	wantTold(t, "others are busy", run, 0, behind(chosen, heard...)...)
	wantTold(t, "others are busy", run, 1, behind(chosen, "* CHANGED 1 (x)", "c OK", "* CHANGED 1 (y)", "d OK", "* CHANGED 3 (z)", "e OK", "* GONE 4", "* GONE 7", "f OK", "* NEW 9 (n)", "g OK", "* CHANGED 9 (m)", "h OK", "* NEW 10 (y)", "i OK", "j OK")...)
	// What comes and goes within one event is not heard of.
	run = checkAccess(t, "come and gone", s, lines(0, login, choose, "c IDLE"), lines(1, login, choose, "c EXPUNGE", `d APPEND INBOX (\Deleted) ""`, "e EXPUNGE"), lines(0, "DONE"))
	wantTold(t, "come and gone", run, 0, behind(chosen, "+ idling", "* GONE 4", "* GONE 7", "c OK")...)
	// Ahead of the answer all is heard, at the end with another line nothing.
	run = checkAccess(t, "own event", s, lines(0, login, choose), lines(1, login, choose, "c EXPUNGE"), lines(0, "c IDLE", "DONE", "d NOOP"))
	wantTold(t, "own event", run, 0, behind(chosen, "+ idling", "* GONE 4", "* GONE 7", "c OK", "d OK")...)
	run = checkAccess(t, "own event, ill", s, lines(0, login, choose), lines(1, login, choose, "c EXPUNGE"), lines(0, "c IDLE", "x", "d NOOP"))
	wantTold(t, "own event, ill", run, 0, behind(chosen, "+ idling", "c BAD", "* GONE 4", "* GONE 7", "d OK")...)
	run = checkAccess(t, "what was before", s, lines(0, login, choose), lines(1, login, choose, "c EXPUNGE"), lines(0, "c IDLE"), lines(0, "x", "d NOOP"))
	wantTold(t, "what was before", run, 0, behind(chosen, "+ idling", "* GONE 4", "* GONE 7", "c BAD", "d OK")...)
	// Several idle at one time, at one box and at others.
	all := []impl.AccessEvent{lines(0, login, "b SELECT a 3 1"), lines(7, login, "b SELECT z/y", "c IDLE")}
	for session := int64(1); session < 7; session++ {
		all = append(all, lines(session, login, "b SELECT a 3 1", "c IDLE"))
	}
	run = checkAccess(t, "all idle", s, append(all, lines(0, `c APPEND a (x) ""`), lines(0, `d APPEND z/y () ""`), lines(3, "DONE"))...)
	for session := 1; session < 7; session++ {
		want := some("a OK", "* BOX a 3 2 1", "b OK", "+ idling", "* NEW 2 (x)")
		if session == 3 {
			want = append(want, "c OK")
		}
		wantTold(t, "all idle", run, session, want...)
	}
	wantTold(t, "all idle", run, 7, "a OK", "* BOX z/y 2 1 0", "b OK", "+ idling", "* NEW 1 ()")
	// A box that goes while it is idled at.
	run = checkAccess(t, "a box goes", s, lines(0, login, "b SELECT a 3 1", "c IDLE"), lines(1, login, "b DELETE a", "c CREATE a"), lines(1, `d APPEND a () ""`), lines(0, "DONE", "d THREAD"))
	wantTold(t, "a box goes", run, 0, "a OK", "* BOX a 3 2 1", "b OK", "+ idling", "* CLOSED", "c OK", "d NO 7")
}

// changesTold are lines that another session says, and what the one at the INBOX hears of it.
var changesTold = []struct {
	said, heard []string
}{
	{some("x NOOP"), nil},
	{some("x SELECT a", "x STORE 1 FLAGS (x)", "x EXPUNGE", `x APPEND z/y () ""`, "x CREATE q", "x DELETE z/y", "x RENAME a z/y"), nil},
	{some(`x APPEND INBOX (n) "m"`), some("* NEW 9 (n)")},
	{some(`x APPEND INBOX (n) "m"`, `x APPEND INBOX () "m"`), some("* NEW 9 (n)", "* NEW 10 ()")},
	{some("x SELECT a", "x COPY 1 INBOX"), some("* NEW 9 ()")},
	{some(choose, "x STORE 3 FLAGS (n)"), some("* CHANGED 3 (n)")},
	{some(choose, "x STORE 7 FLAGS (n)", "x STORE 3 FLAGS (m)", "x STORE 1 FLAGS (\\Seen)"), some("* CHANGED 1 (\\Seen)", "* CHANGED 3 (m)", "* CHANGED 7 (n)")},
	{some(choose, "x STORE 1:* FLAGS () 2"), some("* CHANGED 1 ()")},
	{some(choose, "x STORE 2 FLAGS (n)", "x STORE 1 FLAGS () 1"), nil},
	{some(choose, "x EXPUNGE"), some("* GONE 4", "* GONE 7")},
	{some(choose, "x STORE 1 FLAGS (\\Deleted)", "x EXPUNGE 7", "x EXPUNGE 1"), some("* GONE 1", "* GONE 7")},
	{some(choose, "x EXPUNGE 7", "x STORE 3 FLAGS (n)", "x COPY 1 INBOX"), some("* GONE 7", "* CHANGED 3 (n)", "* NEW 9 (\\Seen)")},
	{some(choose, "x COPY 1 INBOX", "x STORE 9 FLAGS (n)", "x STORE 1 FLAGS ()", "x COPY 9 INBOX"), some("* CHANGED 1 ()", "* NEW 9 (n)", "* NEW 10 (n)")},
	{some(choose, "x COPY 4 INBOX", "x EXPUNGE"), some("* GONE 4", "* GONE 7")},
	{some(choose, "x STORE 1:* FLAGS (\\Deleted)", "x EXPUNGE", `x APPEND INBOX () ""`), some("* GONE 1", "* GONE 3", "* GONE 4", "* GONE 7", "* NEW 9 ()")},
}

// TestRunAccessChanges has what one session does, and with which answers another hears of it.
func TestRunAccessChanges(t *testing.T) {
	s := accessStore()
	asked := []struct {
		command string
		told    []string
		hears   bool
	}{
		{"NOOP", some("n OK"), true},
		{"LIST", some("* LIST .*", "n OK"), true},
		{"STATUS none", some("n NO 6"), true},
		{"CREATE /", some("n NO 1"), true},
		{"CREATE w", some("n OK"), true},
		{"DELETE none", some("n NO 6"), true},
		{"RENAME INBOX w", some("n NO 10"), true},
		{`APPEND none () ""`, some("n NO 6"), true},
		{"LOGIN ann p", some("n NO 7"), true},
		{"FETCH 2 (MOD)", some("n OK"), true},
		{"STORE 2 FLAGS ()", some("n OK"), true},
		{"SEARCH UID 2", some("* SEARCH", "n OK"), true},
		{"SORT ()", some("* SORT.*", "n OK"), true},
		{"THREAD", some("* THREAD .*", "n OK"), true},
		{"EXPUNGE 2", some("n OK"), true},
		{"COPY 2 none", some("n NO 6"), true},
		{"COPY 2 INBOX", some("n OK"), true},
		{"IDLE\r\nDONE", some("+ idling", "n OK"), true},
		{"IDLE\r\nx", some("+ idling", "n BAD"), false},
		{"SELECT none", some("n NO 6"), false},
		{"FOO", some("n BAD"), false},
		{"NOOP x", some("n BAD"), false},
		{"FETCH 1 ()", some("n BAD"), false},
		{"SEARCH FOO", some("n BAD"), false},
		{" NOOP", some("* BAD"), false},
		{"CLOSE x", some("n BAD"), false},
		{"LOGOUT x", some("n BAD"), false},
	}
	for _, change := range changesTold {
		for _, one := range asked {
			run := checkAccess(t, one.command, s, lines(0, login, choose), coming(3, sent(behind(some(login), change.said...)...)), coming(0, "n "+one.command+"\r\nz NOOP\r\n"))
			last := len(one.told) - 1
			want := slices.Clone(one.told[:last])
			if one.hears {
				want = append(append(append(want, change.heard...), one.told[last]), "z OK")
			} else {
				want = append(append(append(want, one.told[last]), change.heard...), "z OK")
			}
			told, begins := strings.CutPrefix(run.Told[0], sent(chosen...))
			if !begins || !fitsLines(told, want) {
				t.Errorf("%s behind %q: told %s, want %q", one.command, change.said, short(told), want)
			}
		}
		// At SELECT and CLOSE nothing is told of it, and LOGOUT is the end.
		for _, quiet := range []struct {
			command string
			told    []string
		}{{"CLOSE", some("n OK")}, {"SELECT a", some("* BOX a .*", "* NEW 1 .*", "n OK")}, {"LOGOUT", some("* BYE", "n OK")}} {
			if slices.Contains(change.said, "x RENAME a z/y") {
				continue
			}
			run := checkAccess(t, quiet.command, s, lines(0, login, choose), coming(3, sent(behind(some(login), change.said...)...)), lines(0, "n "+quiet.command, "z NOOP"))
			want := slices.Clone(quiet.told)
			if quiet.command != "LOGOUT" {
				want = append(want, "z OK")
			}
			told, _ := strings.CutPrefix(run.Told[0], sent(chosen...))
			if !fitsLines(told, want) {
				t.Errorf("%s behind %q: told %s, want %q", quiet.command, change.said, short(told), want)
			}
		}
		// One that idles hears it behind the event, and not again.
		run := checkAccess(t, "idling", s, lines(0, login, choose, "c IDLE"), coming(3, sent(behind(some(login), change.said...)...)), coming(1, "x"), lines(0, "DONE", "z NOOP"))
		wantTold(t, fmt.Sprint(change.said), run, 0, behind(chosen, append(append(some("+ idling"), change.heard...), "c OK", "z OK")...)...)
		// And one that asks for nothing is told nothing.
		run = checkAccess(t, "silent", s, lines(0, login, choose), coming(3, sent(behind(some(login), change.said...)...)), coming(0, "n NOOP"))
		wantTold(t, fmt.Sprint(change.said), run, 0, chosen...)
	}
}

// fitsLines holds lines against wanted ones, of which one that ends with .* fits one or more that begin so.
func fitsLines(told string, want []string) bool {
	form := ""
	for _, line := range want {
		begin, many := strings.CutSuffix(line, ".*")
		if many {
			form += "(?:" + regexp.QuoteMeta(begin) + "[^\r]*\r\n)+"
		} else {
			form += regexp.QuoteMeta(line) + "\r\n"
		}
	}
	return regexp.MustCompile(`\A` + form + `\z`).MatchString(told)
}

// TestRunAccessClosed has a box that is deleted, renamed, and made anew.
func TestRunAccessClosed(t *testing.T) {
	s := accessStore()
	inA := some("a OK", "* BOX a 3 2 1", "b OK")
	for _, gone := range [][]string{some("x DELETE a"), some("x DELETE a", "x CREATE a"), some("x RENAME a q"), some("x RENAME a q", "x CREATE a"), some("x DELETE a", "x RENAME z/y a"), some("x DELETE a", "x CREATE a", `x APPEND a () ""`)} {
		other := lines(3, behind(some(login), gone...)...)
		for command, answer := range map[string]string{
			"NOOP": "n OK", "STATUS none": "n NO 6", "THREAD": "n NO 7", "FETCH 1:* (FLAGS)": "n NO 7", "STORE 1 FLAGS ()": "n NO 7", "SEARCH ALL": "n NO 7", "SORT ()": "n NO 7", "EXPUNGE": "n NO 7", "EXPUNGE 2": "n NO 7", "COPY 1 INBOX": "n NO 7", "IDLE": "n NO 7", "LOGIN ann p": "n NO 7",
		} {
			run := checkAccess(t, command, s, lines(0, login, "b SELECT a 3 1"), other, lines(0, "n "+command, "m NOOP", "m THREAD"))
			wantTold(t, fmt.Sprint(gone, command), run, 0, behind(inA, "* CLOSED", answer, "m OK", "m NO 7")...)
		}
		for _, command := range some("CLOSE", "SELECT z", "FOO", "FETCH 1 ()") {
			answer, later := map[string]string{"CLOSE": "n OK", "SELECT z": "n NO 6"}[command], some("* CLOSED", "m OK", "m OK")
			if answer == "" {
				answer = "n BAD"
			}
			if command == "CLOSE" {
				later = later[1:]
			}
			run := checkAccess(t, command, s, lines(0, login, "b SELECT a 3 1"), other, lines(0, "n "+command, "m NOOP", "m NOOP"))
			wantTold(t, fmt.Sprint(gone, command), run, 0, behind(inA, append(some(answer), later...)...)...)
		}
		run := checkAccess(t, "LOGOUT", s, lines(0, login, "b SELECT a 3 1"), other, lines(0, "n LOGOUT"))
		wantTold(t, "LOGOUT", run, 0, behind(inA, "* BYE", "n OK")...)
		run = checkAccess(t, "another box", s, lines(0, login, "b SELECT a 3 1"), other, lines(0, "n SELECT INBOX 1 14", "m NOOP"))
		wantTold(t, "another box", run, 0, behind(inA, "* BOX INBOX 1 9 14", "n OK", "m OK")...)
		// The session's own doing.
		run = checkAccess(t, "own", s, lines(0, behind(some(login, "b SELECT a 3 1"), behind(gone, "n THREAD", "m NOOP")...)...))
		want := behind(inA, "* CLOSED", "x OK")
		for range gone[1:] {
			want = append(want, "x OK")
		}
		wantTold(t, "own", run, 0, append(want, "n NO 7", "m OK")...)
	}
	// A box that has its name again is the same, if nobody has asked meanwhile.
	run := checkAccess(t, "renamed there and back", s, lines(0, login, "b SELECT a 3 1"), lines(1, login, "b RENAME a q", "c RENAME q a"), lines(0, "n THREAD"), lines(1, "d RENAME a q"), lines(0, "n NOOP"), lines(1, "e RENAME q a"), lines(0, "n THREAD"))
	wantTold(t, "renamed there and back", run, 0, behind(inA, "* THREAD (1)", "n OK", "* CLOSED", "n OK", "n NO 7")...)
	// Another box of the name is none of the session's, whatever it does.
	run = checkAccess(t, "made anew", s, lines(0, login, "b SELECT a 3 1"), lines(1, login, "b DELETE a", "c CREATE a", `d APPEND a (\Deleted) "keep"`), lines(0, "n EXPUNGE", "n STORE 1 FLAGS ()", "n SELECT a 3 1", "n NOOP"))
	wantTold(t, "made anew", run, 0, behind(inA, "* CLOSED", "n NO 7", "n NO 7", "* BOX a 6 2 1", "* NEW 1 (\\Deleted)", "n OK", "n OK")...)
	if b := slowBox(&run.Store, "a"); len(b.Mails) != 1 || b.TopMod != 1 {
		t.Errorf("another box was changed: %s", shown(*b))
	}
}

// TestRunAccessLogout has a session that is over.
func TestRunAccessLogout(t *testing.T) {
	s := accessStore()
	for _, ahead := range [][]string{nil, some(login), some(login, choose)} {
		begin := sent(ahead...)
		told := checkAccess(t, "ahead", s, coming(0, begin)).Told[0]
		run := checkAccess(t, "LOGOUT", s, coming(0, begin+"x LOGOUT\r\ny NOOP\r\n"), lines(0, "z CREATE q", login, "z CREATE q"), lines(1, login, "b EXPUNGE", `c APPEND INBOX () ""`))
		wantText(t, "RunAccess", begin, run.Told[0], told+"* BYE\r\nx OK\r\n")
		if len(run.Store.Boxes) != 3 {
			t.Errorf("a session that is over: %s", shown(run.Store))
		}
	}
	run := checkAccess(t, "too long while idling", s, lines(0, login, choose, "c IDLE"), coming(0, xs(maxText)), lines(1, login, choose, "c EXPUNGE"), lines(0, "DONE"))
	wantTold(t, "too long while idling", run, 0, behind(chosen, "+ idling", "* BYE")...)
}

// filledTo are commands by which a session at the box a is told just so many bytes: long ones first, then small ones.
func filledTo(t *testing.T, s impl.Store, ahead []string, size int) []string {
	t.Helper()
	said := slices.Clone(ahead)
	bytes := func() int {
		return len(impl.RunAccess(s, accessUsers(), 0, []impl.AccessEvent{coming(0, sent(said...))}).Told[0])
	}
	now := bytes()
	said = append(said, "f FETCH 1 (BODY[])")
	step := bytes() - now
	for now += step; now+step < size-100; now += step {
		said = append(said, "f FETCH 1 (BODY[])")
	}
	// A NOOP is told in 5 bytes and its tag.
	for left := size - now; left > 0; {
		next := left
		if left > 25 {
			next = min(25, left-6)
		}
		said = append(said, xs(next-5)+" NOOP")
		left -= next
	}
	if got := bytes(); got != size {
		t.Fatalf("%d bytes are told, not %d", got, size)
	}
	return said
}

func TestRunAccessTold(t *testing.T) {
	s := changedAccess(func(s *impl.Store) { s.Boxes[1].Mails[0].Message = "\r\n" + xs(90000) })
	in := some(login, "b SELECT a 3 1")
	for _, size := range []int{maxTold - 6, maxTold - 1, maxTold, maxTold + 1, maxTold + 20} {
		said := filledTo(t, s, in, size)
		run := checkAccess(t, fmt.Sprint(size, " bytes"), s, lines(0, append(said, "y NOOP", "z CREATE q")...))
		wantEnd := "y OK\r\n"
		switch {
		case size > maxTold:
			wantEnd = " OK\r\n"
		case size+6 <= maxTold:
			wantEnd = "y OK\r\nz OK\r\n"
		}
		told := run.Told[0]
		if !strings.HasSuffix(told, wantEnd) || strings.HasSuffix(told, "y OK\r\n") == (size > maxTold || size+6 <= maxTold) {
			t.Errorf("%d bytes told, then ..%s", size, differing(told, told[:len(told)-30]))
		}
		if made := slowBox(&run.Store, "q") != nil; made != (size+6 <= maxTold) {
			t.Errorf("%d bytes told, then a command was done: %v", size, made)
		}
	}
	// One command may tell more than that: it is told whole, and the session is over behind it.
	said := append(in, "f FETCH 1 ("+strings.TrimSpace(strings.Repeat("BODY[] ", 12))+")", "g NOOP")
	run := checkAccess(t, "one command", s, lines(0, said...))
	if len(run.Told[0]) < 12*90000 || !strings.HasSuffix(run.Told[0], ")\r\nf OK\r\n") {
		t.Errorf("told %d bytes, then %s", len(run.Told[0]), run.Told[0][len(run.Told[0])-50:])
	}
	// The others go on.
	run = checkAccess(t, "others", s, lines(0, said...), lines(1, login, "b STATUS a"), lines(0, "h NOOP"))
	wantTold(t, "others", run, 1, "a OK", "* STATUS a (1 2 3 1 1)", "b OK")
	// A command that is ill is one, too.
	run = checkAccess(t, "ill", s, lines(0, append(filledTo(t, s, in, maxTold-2), "", "y NOOP")...))
	if !strings.HasSuffix(run.Told[0], "* BAD\r\n") {
		t.Errorf("told %s", run.Told[0][len(run.Told[0])-50:])
	}
	// And IDLE: what is heard behind events is no command, but its end is one.
	near := filledTo(t, s, in, maxTold-9)
	other := lines(1, login, "b SELECT a 3 1", "c STORE 1 FLAGS (x)")
	run = checkAccess(t, "idling", s, lines(0, append(near, "i IDLE")...), other, lines(0, "DONE"))
	if !strings.HasSuffix(run.Told[0], "+ idling\r\n") {
		t.Errorf("told %s", run.Told[0][len(run.Told[0])-50:])
	}
	near = filledTo(t, s, in, maxTold-10)
	run = checkAccess(t, "idling", s, lines(0, append(near, "i IDLE")...), other, lines(1, "d STORE 1 FLAGS (y)"), lines(0, "DONE", "j NOOP"))
	if !strings.HasSuffix(run.Told[0], "+ idling\r\n* CHANGED 1 (x)\r\n* CHANGED 1 (y)\r\ni OK\r\n") {
		t.Errorf("told %s", run.Told[0][len(run.Told[0])-90:])
	}
}

func (d *dice) accessBox() string {
	return d.pick("INBOX", "INBOX", "INBOX", "a", "a", "z/y", "q", "q", "a/b", "none", "a//b", "inbox")
}

func (d *dice) accessRanges() string {
	return d.pick("1", "3", "1:*", "1:*", "2:4", "3,4", "*", "7:1", "5:9", "9:*", "10,11,12", "2", "1:4294967295", "0", "x", "1,")
}

func (d *dice) accessFlags() string {
	var flags []string
	for range d.below(4) {
		flags = append(flags, d.pick(`\Seen`, `\Deleted`, `\Deleted`, `\Draft`, "a", "b", "$c"))
	}
	if d.below(25) == 0 {
		flags = append(flags, d.pick(`\x`, `"a"`, "(", xs(31), "é"))
	}
	return "(" + strings.Join(flags, " ") + ")"
}

// accessText is a text in quotes or a literal.
func (d *dice) accessText() string {
	text := d.pick("", "m", "A: b\r\n\r\nhi", "\"x\\", "a\r\nb NOOP\r\n", "{3+}\r\n", "\xff\x00", xs(30), letter("<1>", ""), letter("<2>", "<1>"))
	if d.below(2) == 0 && !strings.Contains(text, "\r\n") {
		return slowQuoted(text)
	}
	return fmt.Sprintf("{%d+}\r\n%s", len(text), text)
}

func (d *dice) accessItems() string {
	var items []string
	for range 1 + d.below(3) {
		items = append(items, d.pick("FLAGS", "FLAGS", "SIZE", "DATE", "MOD", "ENVELOPE", "STRUCTURE", "BODY[]", "BODY[TEXT]", "BODY[HEAD]<0.5>", "BODY[1]", "BODY[2.MIME]"))
	}
	if d.below(20) == 0 {
		items = append(items, d.pick("x", "BODY[", "flags", `"FLAGS"`))
	}
	return "(" + strings.Join(items, " ") + ")"
}

// accessCommand is a name and words, mostly right ones.
func (d *dice) accessCommand(renames bool) string {
	switch d.below(26) {
	case 0, 1:
		return "NOOP"
	case 2:
		return d.pick("LOGIN ann p", "LOGIN ann x", "LOGIN ro p", `LOGIN "ann" {1+}`+"\r\np")
	case 3:
		return d.pick("LIST", "STATUS "+d.accessBox())
	case 4:
		return "CREATE " + d.accessBox()
	case 5:
		return d.pick("DELETE ", "STATUS ", "STATUS ") + d.accessBox()
	case 6:
		if !renames {
			return "NOOP"
		}
		return "RENAME " + d.accessBox() + " " + d.accessBox()
	case 7, 8, 9:
		return "APPEND " + d.accessBox() + " " + d.accessFlags() + " " + d.accessText()
	case 10, 11, 12:
		return "SELECT " + d.accessBox() + d.pick("", "", " 1 0", " 1 14", " 3 1", fmt.Sprint(" ", d.below(8), " ", d.below(20)))
	case 13:
		return d.pick("CLOSE", "THREAD", "THREAD")
	case 14, 15:
		return "FETCH " + d.accessRanges() + " " + d.accessItems()
	case 16, 17, 18:
		return "STORE " + d.accessRanges() + " " + d.pick("FLAGS", "+FLAGS", "+FLAGS", "-FLAGS") + " " + d.accessFlags() + d.pick("", "", "", fmt.Sprint(" ", d.below(20)))
	case 19:
		return "SEARCH " + d.pick("ALL", "UNSEEN", "DELETED", "UID 1:4", "MODSEQ 15", `TEXT "m"`, "NOT SEEN", "FOO", `OR SEEN BODY "x`)
	case 20:
		return "SORT " + d.pick("()", "(SIZE)", "(REVERSE SIZE)", "(SUBJECT REVERSE ARRIVAL)", "(X)", "(REVERSE)")
	case 21:
		return d.pick("EXPUNGE", "EXPUNGE", "EXPUNGE "+d.accessRanges())
	case 22:
		return "COPY " + d.accessRanges() + " " + d.accessBox()
	case 23, 24:
		return "IDLE"
	}
	return d.pick("NOOP x", "FOO", " NOOP", "NOOP ", "LIST (", "STORE 1 FLAGS", `NOOP "x`, "noop", "sElEcT INBOX")
}

// accessStream is all that one client says, in texts of a command each.
func (d *dice) accessStream(size int, renames bool) []string {
	var texts []string
	if d.below(8) > 0 {
		texts = append(texts, sent(d.pick(login, login, login, roIn)))
	}
	if d.below(4) > 0 {
		texts = append(texts, sent("b SELECT "+d.pick("INBOX", "INBOX", "a", "q")))
	}
	for range size {
		command := d.accessCommand(renames)
		texts = append(texts, d.pick("a", "b", "c1", "*", xs(maxTag))+" "+command+"\r\n")
		if command == "IDLE" && d.below(5) > 0 {
			texts = append(texts, d.pick("DONE\r\n", "done\r\n", "DONE\r\n", "no\r\n"))
		}
	}
	if d.below(30) == 0 {
		texts = append(texts, "z LOGOUT\r\n")
	}
	return texts
}

// accessEvents are several clients' streams, laid among each other: by whole commands, or cut anywhere.
func (d *dice) accessEvents(clients, size int, renames, anywhere bool) []impl.AccessEvent {
	streams := make([][]string, clients)
	for at := range streams {
		streams[at] = d.accessStream(size, renames)
		if text := strings.Join(streams[at], ""); anywhere && d.below(2) == 0 {
			streams[at] = d.cutText(text, 1+d.below(2*size))
		}
	}
	var events []impl.AccessEvent
	for range clients * size * 3 {
		at := d.below(clients)
		data := ""
		for range 1 + d.below(3) {
			if len(streams[at]) > 0 && len(data) < maxText/2 {
				data, streams[at] = data+streams[at][0], streams[at][1:]
			}
		}
		if data != "" || d.below(20) == 0 {
			events = append(events, coming(int64(at), data))
		}
	}
	return events
}

func (d *dice) accessStore() impl.Store {
	switch d.below(4) {
	case 0:
		return impl.StoreStart()
	case 1:
		starts := startStores()
		return starts[d.below(len(starts))]
	}
	return accessStore()
}

func TestRunAccessOfAnyEvents(t *testing.T) {
	d := &dice{state: 1801}
	seen := map[string]int{}
	for range 500 {
		s := d.accessStore()
		run := checkAccess(t, "made up", s, d.accessEvents(1+d.below(5), 5+d.below(30), true, true)...)
		if impl.StoreFault(run.Store) != impl.OK || slowStoreFault(run.Store) != impl.OK {
			t.Fatalf("the store is not right: %s", shown(run.Store))
		}
		for _, told := range run.Told {
			for _, line := range strings.Split(told, "\r\n") {
				words := append(strings.Fields(line), "", "", "")
				if words[0] == "*" {
					seen["* "+words[1]]++
				} else {
					seen[words[1]+" "+words[2]]++
				}
			}
		}
	}
	for _, line := range some("* LIST", "* STATUS", "* BOX", "* NEW", "* CHANGED", "* GONE", "* CLOSED", "* FETCH", "* STALE", "* SEARCH", "* SORT", "* THREAD", "* BAD", "* BYE", "idling ", "OK ", "BAD ", "NO 1", "NO 6", "NO 7", "NO 8", "NO 10") {
		if seen[line] < 20 {
			t.Errorf("%q came only %d times", line, seen[line])
		}
	}
}

// changeLine is a line that tells of a change.
var changeLine = regexp.MustCompile(`(?m)^\* (?:GONE|NEW|CHANGED|CLOSED)\b.*\r\n`)

// answersOf are what a session is told, without what it hears of changes if it idles at some time: that may come sooner.
func answersOf(told string) string {
	if !strings.Contains(told, "+ idling\r\n") {
		return told
	}
	return changeLine.ReplaceAllString(told, "")
}

func checkSameAnswers(t *testing.T, what string, got, want impl.AccessRun) {
	t.Helper()
	if got.Code != want.Code || !sameStores(got.Store, want.Store) {
		t.Fatalf("%s: the store is %s, want %s", what, shown(got.Store), shown(want.Store))
	}
	for at, told := range want.Told {
		if answers, wanted := answersOf(got.Told[at]), answersOf(told); answers != wanted {
			t.Fatalf("%s: session %d is told %s, want %s", what, at, differing(answers, wanted), differing(wanted, answers))
		}
	}
}

// cutEvent has one event in two.
func cutEvent(events []impl.AccessEvent, at, place int) []impl.AccessEvent {
	one := events[at]
	return slices.Concat(events[:at], []impl.AccessEvent{coming(one.Session, one.Data[:place]), coming(one.Session, one.Data[place:])}, events[at+1:])
}

// TestPromise27 cuts each event in two: the store is the same, and so is each answer.
func TestPromise27(t *testing.T) {
	d := &dice{state: 1827}
	idled := 0
	for range 300 {
		s := d.accessStore()
		events := d.accessEvents(1+d.below(5), 5+d.below(25), false, d.below(2) == 0)
		whole := impl.RunAccess(s, accessUsers(), accessNow, events)
		idled += strings.Count(strings.Join(whole.Told, ""), "+ idling")
		if whole.Code != impl.OK || impl.StoreFault(whole.Store) != impl.OK {
			t.Fatalf("code %d, and the store is %s", whole.Code, shown(whole.Store))
		}
		for range 10 {
			if len(events) == 0 {
				break
			}
			at := d.below(len(events))
			place := d.below(len(events[at].Data) + 1)
			run := impl.RunAccess(s, accessUsers(), accessNow, cutEvent(events, at, place))
			checkSameAnswers(t, fmt.Sprintf("%q cut at %d", events[at].Data, place), run, whole)
		}
		for range 3 {
			var all []impl.AccessEvent
			for _, event := range events {
				for _, piece := range d.cutText(event.Data, 2) {
					all = append(all, coming(event.Session, piece))
				}
			}
			checkSameAnswers(t, "all cut", impl.RunAccess(s, accessUsers(), accessNow, all), whole)
		}
	}
	if idled < 100 {
		t.Errorf("idled only %d times", idled)
	}
}

// TestPromise27AtEachByte cuts the events of some sessions at each place.
func TestPromise27AtEachByte(t *testing.T) {
	events := []impl.AccessEvent{
		lines(0, login, choose, "c IDLE"), lines(1, login, choose, "c STORE 1 FLAGS (x)", "d EXPUNGE", "e APPEND INBOX (n) {12+}", "A: b\r\n\r\nhi\r\n"), lines(2, login, "b SELECT a", "c DELETE a", "d CREATE a", "e SELECT a 6 0"),
		lines(1, `f APPEND INBOX () "a \"b\""`, "g IDLE"), lines(0, "done", "d FETCH 1:* (FLAGS BODY[])", "e STORE 9 +FLAGS (\\Deleted)", "f EXPUNGE 9:*"), lines(1, "x", "h NOOP", " ", "i FOO", "j LOGOUT"), lines(2, "f THREAD", "g CLOSE"),
	}
	whole := checkAccess(t, "whole", accessStore(), events...)
	for at, event := range events {
		for place := range len(event.Data) + 1 {
			run := checkAccess(t, "cut", accessStore(), cutEvent(events, at, place)...)
			checkSameAnswers(t, fmt.Sprintf("%q cut at %d", event.Data, place), run, whole)
		}
	}
}

// boxClient puts together what it is told of its box.
type boxClient struct {
	has      bool
	name     string
	validity string
	mails    map[string]string
}

// hear takes all lines of one session; a SELECT has the tag s, one of a client that comes back r, a CLOSE c.
func (c *boxClient) hear(told string) {
	var batch [][]string
	for _, line := range strings.Split(told, "\r\n") {
		words := strings.SplitN(line, " ", 4)
		if words[0] == "*" || words[0] == "+" {
			batch = append(batch, words)
			continue
		}
		c.take(batch, words[0] == "r")
		if line == "c OK" {
			c.has = false
		}
		batch = nil
	}
	c.take(batch, false)
}

func (c *boxClient) take(batch [][]string, again bool) {
	for _, words := range batch {
		switch words[1] {
		case "BOX":
			validity := strings.Fields(words[3])[0]
			if !again || c.name != words[2] || c.validity != validity {
				c.mails = map[string]string{}
			}
			c.has, c.name, c.validity = true, words[2], validity
		case "CLOSED":
			c.has = false
		case "GONE":
			delete(c.mails, words[2])
		case "NEW", "CHANGED":
			c.mails[words[2]] = words[3]
		}
	}
}

// checkKnows holds what a client has put together against the store.
func (c *boxClient) checkKnows(t *testing.T, told string, s impl.Store) {
	t.Helper()
	validity, _ := strconv.ParseInt(c.validity, 10, 64)
	b := boxOfValidity(s, validity)
	if !c.has {
		return
	}
	if b == nil || b.Name != c.name {
		t.Fatalf("told %s: the box is no more", short(told))
	}
	want := map[string]string{}
	for _, mail := range b.Mails {
		want[fmt.Sprint(mail.Uid)] = slowShowFlags(mail.Flags)
	}
	if fmt.Sprint(c.mails) != fmt.Sprint(want) {
		t.Fatalf("told %s: knows %v, but there are %v", differing(told, ""), c.mails, want)
	}
}

// watcherLine is what a client says that looks at a box: it comes and goes, idles, and asks for what has changed.
func (d *dice) watcherLine(s impl.Store, c *boxClient) string {
	switch d.below(12) {
	case 0:
		return "s SELECT " + s.Boxes[d.below(len(s.Boxes))].Name
	case 1:
		if c.name == "" {
			return "c CLOSE"
		}
		return "r SELECT " + c.name + " " + c.validity + " "
	case 2:
		return "c CLOSE"
	case 3:
		return "i IDLE"
	case 4, 5:
		return "d " + strings.NewReplacer("SELECT", "STATUS", "CLOSE", "LIST").Replace(d.accessCommand(false))
	}
	return "n NOOP"
}

// TestPromise28 has a client that puts together what it is told, and looks at the store behind each NOOP.
func TestPromise28(t *testing.T) {
	d := &dice{state: 1828}
	looked, heard, back := 0, 0, 0
	for range 160 {
		start := accessStore()
		if d.below(3) == 0 {
			start = impl.StoreStart()
		}
		events := []impl.AccessEvent{lines(0, login), lines(1, login, choose), lines(2, login, "b SELECT a"), lines(0, "s SELECT INBOX")}
		// What the client had heard of last when it was told a TopMod.
		mod, idles := "0", false
		store := start
		for range 60 {
			if d.below(2) == 0 {
				data := ""
				for range 1 + d.below(3) {
					data += "x " + d.accessCommand(true) + "\r\n"
				}
				for _, piece := range d.cutText(data, 1+d.below(2)) {
					events = append(events, coming(int64(1+d.below(2)), piece))
				}
				continue
			}
			var c boxClient
			run := impl.RunAccess(start, accessUsers(), accessNow, events)
			c.hear(run.Told[0])
			store = run.Store
			line := d.watcherLine(store, &c)
			switch {
			case idles:
				line = "DONE"
				idles = false
			case strings.HasPrefix(line, "r "):
				line += mod
			case strings.HasPrefix(line, "i ") || strings.HasSuffix(line, " IDLE"):
				idles = c.has && boxIsThere(store, &c)
			}
			events = append(events, lines(0, line))
			run = impl.RunAccess(start, accessUsers(), accessNow, events)
			if tops := topForm.FindAllStringSubmatch(run.Told[0], -1); len(tops) > 0 {
				mod = tops[len(tops)-1][1]
			}
			var later boxClient
			later.hear(run.Told[0])
			if strings.HasPrefix(line, "n NOOP") {
				later.checkKnows(t, run.Told[0], run.Store)
				looked++
			}
		}
		told := impl.RunAccess(start, accessUsers(), accessNow, events).Told[0]
		heard += len(changeLine.FindAllString(told, -1))
		back += strings.Count(told, "\r\nr OK\r\n")
	}
	if looked < 1000 || heard < 1000 || back < 100 {
		t.Errorf("looked %d times, heard %d changes, came back %d times", looked, heard, back)
	}
}

// topForm is where a client that has chosen a box is told the TopMod.
var topForm = regexp.MustCompile(`(?m)^\* BOX \S+ \d+ \d+ (\d+)\r$`)

func boxIsThere(s impl.Store, c *boxClient) bool {
	validity, _ := strconv.ParseInt(c.validity, 10, 64)
	b := boxOfValidity(s, validity)
	return b != nil && b.Name == c.name
}

// TestPromise28Full has boxes as great as can be, with changes to all of their mails.
func TestPromise28Full(t *testing.T) {
	start := impl.Store{NextValidity: 3, Boxes: []impl.Mailbox{
		{Name: "INBOX", Validity: 1, NextUid: maxMails + 1, TopMod: maxMails, Mails: manyMails(maxMails, "m", manyFlags(0, 5)...)},
		{Name: "a", Validity: 2, NextUid: 1},
	}}
	events := []impl.AccessEvent{lines(0, login, "s SELECT INBOX"), lines(1, login, choose)}
	for _, said := range some("STORE 2:299 +FLAGS (x)", "STORE 1:100 +FLAGS (\\Deleted)", "COPY 1:* a", "EXPUNGE", `APPEND INBOX (n) ""`, "STORE 1:* FLAGS (\\Deleted)", "EXPUNGE", "NOOP", `APPEND INBOX () ""`) {
		events = append(events, lines(1, "x "+said), lines(0, "n NOOP"))
		run := checkAccess(t, said, start, events...)
		var c boxClient
		c.hear(run.Told[0])
		c.checkKnows(t, run.Told[0], run.Store)
		if !c.has || impl.StoreFault(run.Store) != impl.OK {
			t.Errorf("behind %s: %v, %s", said, c.has, shown(run.Store))
		}
	}
}

func roomyEvents(events []impl.AccessEvent) []impl.AccessEvent {
	var out []impl.AccessEvent
	for _, event := range events {
		out = append(out, coming(event.Session, strings.Clone(event.Data)))
	}
	return append(out, lines(0, "room"), lines(1, "room"))[:len(out)]
}

func roomyUsers(users []impl.AccessUser) []impl.AccessUser {
	var out []impl.AccessUser
	for _, user := range users {
		out = append(out, impl.AccessUser{Name: strings.Clone(user.Name), Password: strings.Clone(user.Password), ReadOnly: user.ReadOnly})
	}
	return append(out, impl.AccessUser{Name: "room"}, impl.AccessUser{Name: "room"})[:len(users)]
}

// TestAccessSharesNothing has answers with memory of their own, and arguments that stay as they are.
func TestAccessSharesNothing(t *testing.T) {
	d := &dice{state: 1803}
	for range 150 {
		store, users := roomyStore(d.accessStore()), roomyUsers(accessUsers())
		events := roomyEvents(d.accessEvents(1+d.below(4), 20, true, d.below(2) == 0))
		seenStore, seen := seenWithRoom(store), fmt.Sprint(users[:len(users)+2], events[:len(events)+2])
		run := impl.RunAccess(store, users, accessNow, events)
		lists, texts := storeSpans(run.Store)
		givenLists, givenTexts := storeSpans(store)
		lists = append(lists, spanOf(run.Told))
		givenLists = append(givenLists, spanOf(users), spanOf(events))
		for _, told := range run.Told {
			texts = append(texts, textSpan(told))
		}
		for _, user := range users {
			givenTexts = append(givenTexts, textSpan(user.Name), textSpan(user.Password))
		}
		for _, event := range events {
			givenTexts = append(givenTexts, textSpan(event.Data))
		}
		wantEachApart(t, "lists", lists)
		wantApartFrom(t, "lists", lists, givenLists)
		wantApartFrom(t, "texts", distinctTexts(texts), givenTexts)
		impl.AccessFault(users)
		if !sameStores(seenStore, seenWithRoom(store)) || seen != fmt.Sprint(users[:len(users)+2], events[:len(events)+2]) {
			t.Fatal("an argument has changed")
		}
	}
	flags := roomyTexts(some("first", "second"))
	mail := impl.Mail{Flags: flags, Message: strings.Clone(shownMail)}
	for _, item := range some("FLAGS", "BODY[]", "BODY[1]", "BODY[HEAD]", "ENVELOPE", "STRUCTURE", "BODY[2.1]<0.3>") {
		wantOwnMemory(t, "FetchItem", mail.Message, impl.FetchItem(mail, item))
		wantOwnMemory(t, "FetchItem", item, impl.FetchItem(mail, item))
	}
	wantOwnMemory(t, "ShowFlags", flags[0], impl.ShowFlags(flags[:1]))
	if !slices.Equal(flags[:4], some("first", "second", "room", "room")) {
		t.Errorf("flags are %q now", flags[:4])
	}
}

func TestAccessLeavesNothingRunning(t *testing.T) {
	before := runtime.NumGoroutine()
	s, users := accessStore(), accessUsers()
	for range 50 {
		for _, events := range [][]impl.AccessEvent{nil, {{}}, {lines(0, "a NOOP")}, {lines(0, "a LOGOUT")}, {lines(0, login, choose, "c IDLE")}, {coming(0, xs(maxText)), lines(0, "x")}, {coming(0, xs(maxText+1))}, {lines(9, "x")}, make([]impl.AccessEvent, maxOps+1)} {
			impl.RunAccess(s, users, 0, events)
		}
		impl.RunAccess(impl.Store{}, users, 0, []impl.AccessEvent{lines(0, "a NOOP")})
	}
	wantQuiet(t, before)
}

// TestAccessAgain has the same answer each time, also of several calls at one time.
func TestAccessAgain(t *testing.T) {
	d := &dice{state: 1804}
	for range 30 {
		s := d.accessStore()
		events := d.accessEvents(4, 30, true, true)
		first := impl.RunAccess(s, accessUsers(), accessNow, events)
		same := make(chan bool)
		for range 5 {
			go func() { same <- sameAccess(first, impl.RunAccess(s, accessUsers(), accessNow, events)) }()
		}
		for range 5 {
			if !<-same {
				t.Error("a run answers otherwise another time")
			}
		}
	}
}

// TestRunAccessGreat has runs as great as can be.
func TestRunAccessGreat(t *testing.T) {
	s := accessStore()
	// As many commands as there can be until a session is over, in all sessions.
	noops := strings.Repeat("a NOOP\r\n", maxText/8)
	var events []impl.AccessEvent
	for session := range int64(maxSessions) {
		events = append(events, lines(session, login, choose))
		events = append(events, slices.Repeat([]impl.AccessEvent{coming(session, noops)}, 20)...)
	}
	run := impl.RunAccess(s, accessUsers(), 0, events)
	for session, told := range run.Told {
		if len(told) <= maxTold || len(told) > maxTold+6 {
			t.Errorf("session %d was told %d bytes", session, len(told))
		}
	}
	// A mail that comes in as many events as can be.
	slow := append([]impl.AccessEvent{lines(0, login, "b APPEND a () {89865+}")}, slices.Repeat([]impl.AccessEvent{coming(0, strings.Repeat("{0+}\r\n.....", 4)+".")}, maxOps-3)...)
	run = impl.RunAccess(s, accessUsers(), 0, append(slow, lines(0, ""), lines(0, "c NOOP")))
	wantTold(t, "a mail in many events", run, 0, "a OK", "b OK", "c OK")
	// One that changes all mails, and seven that idle.
	full := impl.Store{NextValidity: 2, Boxes: []impl.Mailbox{{Name: "INBOX", Validity: 1, NextUid: maxMails + 1, TopMod: maxMails, Mails: manyMails(maxMails, "m")}}}
	events = nil
	for session := range int64(maxSessions) {
		events = append(events, lines(session, login, "b SELECT INBOX 1 300"))
		if session > 0 {
			events = append(events, lines(session, "c IDLE"))
		}
	}
	events = append(events, slices.Repeat([]impl.AccessEvent{lines(0, "d STORE 1:* +FLAGS (x)")}, 100)...)
	run = impl.RunAccess(full, accessUsers(), 0, events)
	changed := strings.Count(run.Told[0], "* CHANGED ")
	for session := 1; session < maxSessions; session++ {
		if count := strings.Count(run.Told[session], "* CHANGED "); count != changed || count == 0 {
			t.Errorf("session %d heard %d changes, the one that made them %d", session, count, changed)
		}
	}
}
