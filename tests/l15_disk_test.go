package tests

import (
	"fmt"
	"math"
	"slices"
	"strings"
	"testing"

	"loop.example/g00013/impl"
)

const (
	maxDisk   = 600000
	maxFramed = 2 * maxText
)

func TestDiskConstants(t *testing.T) {
	wantNumbers(t, "limits", "", []int64{impl.MaxDisk}, []int64{maxDisk})
	wantNumbers(t, "kinds", "", []int64{impl.DkDo, impl.DkSync, impl.DkCrash}, []int64{1, 2, 3})
}

// highFirst is a number in so many bytes.
func highFirst(number int64, size int) string {
	out := make([]byte, size)
	for at := range out {
		out[size-1-at] = byte(number % 256)
		number /= 256
	}
	return string(out)
}

func within(number, most int64) bool { return 0 <= number && number <= most }

// hasCode tells, fault by fault, whether an operation can be written.
func hasCode(op impl.StoreOp) bool {
	right := op.Kind > 0 && within(op.Kind, 9) && len(op.Box) <= 255 && len(op.To) <= 255 && len(op.Uids) <= maxMails && len(op.Flags) <= 255
	right = right && within(op.Mod, maxNumber) && within(op.Time, maxTime) && len(op.Message) <= maxText
	for _, uid := range op.Uids {
		right = right && within(uid, maxNumber)
	}
	for _, text := range op.Flags {
		right = right && len(text) <= 255
	}
	return right
}

func slowEncode(op impl.StoreOp) string {
	if !hasCode(op) {
		return ""
	}
	sized := func(text string) string { return highFirst(int64(len(text)), 1) + text }
	out := highFirst(op.Kind, 1) + sized(op.Box) + sized(op.To) + highFirst(int64(len(op.Uids)), 2)
	for _, uid := range op.Uids {
		out += highFirst(uid, 4)
	}
	out += highFirst(int64(len(op.Flags)), 1)
	for _, text := range op.Flags {
		out += sized(text)
	}
	return out + highFirst(op.Time, 5) + highFirst(op.Mod, 4) + highFirst(int64(len(op.Message)), 3) + op.Message
}

// slowDecode reads whatever stands there, as far as it goes, and looks then whether it is written so.
func slowDecode(data string, at int64) impl.OpRead {
	if at < 0 || at >= int64(len(data)) {
		return impl.OpRead{}
	}
	rest := data[at:]
	take := func(size int64) string {
		size = min(size, int64(len(rest)))
		piece := rest[:size]
		rest = rest[size:]
		return piece
	}
	number := func(size int64) int64 {
		sum := int64(0)
		for _, b := range []byte(take(size)) {
			sum = 256*sum + int64(b)
		}
		return sum
	}
	var op impl.StoreOp
	op.Kind, op.Box, op.To = number(1), take(number(1)), take(number(1))
	for count := number(2); count > 0 && rest != ""; count-- {
		op.Uids = append(op.Uids, number(4))
	}
	for count := number(1); count > 0 && rest != ""; count-- {
		op.Flags = append(op.Flags, take(number(1)))
	}
	op.Time, op.Mod, op.Message = number(5), number(4), take(number(3))
	text := slowEncode(op)
	if text == "" || !strings.HasPrefix(data[at:], text) {
		return impl.OpRead{}
	}
	return impl.OpRead{Good: true, Op: op, Next: at + int64(len(text))}
}

func sameOpRead(a, b impl.OpRead) bool {
	return a.Good == b.Good && a.Next == b.Next && sameOps(a.Op, b.Op)
}

func checkDecode15(t *testing.T, what string, data string, at int64, want impl.OpRead) {
	t.Helper()
	if got := impl.DecodeOp(data, at); !sameOpRead(got, want) {
		t.Errorf("DecodeOp of %s at %d (%s): %s, want %s", short(data), at, what, shown(got), shown(want))
	}
	if slow := slowDecode(data, at); !sameOpRead(slow, want) {
		t.Errorf("the test itself reads %s at %d (%s) as %s, want %s", short(data), at, what, shown(slow), shown(want))
	}
}

// checkEncode15 wants an operation to be written, and read again; or not to be written at all.
func checkEncode15(t *testing.T, what string, op impl.StoreOp, written bool) {
	t.Helper()
	got := impl.EncodeOp(op)
	if (got != "") != written || got != slowEncode(op) {
		t.Errorf("EncodeOp of an operation with %s: %s, want %s", what, short(got), short(slowEncode(op)))
		return
	}
	if written {
		checkDecode15(t, what, got, 0, impl.OpRead{Good: true, Op: op, Next: int64(len(got))})
	}
}

func TestEncodeOpBytes(t *testing.T) {
	empty := "\x00\x00" + "\x00\x00" + "\x00" + "\x00\x00\x00\x00\x00" + "\x00\x00\x00\x00" + "\x00\x00\x00"
	for _, c := range []struct {
		op   impl.StoreOp
		want string
	}{
		{impl.StoreOp{Kind: 1}, "\x01" + empty},
		{impl.StoreOp{Kind: 9}, "\x09" + empty},
		{impl.StoreOp{Kind: 3, Box: "ab", To: "c"}, "\x03\x02ab\x01c" + empty[2:]},
		{impl.StoreOp{Kind: 8, Uids: ids(1, 258, maxNumber)}, "\x08\x00\x00\x00\x03\x00\x00\x00\x01\x00\x00\x01\x02\xff\xff\xff\xff" + empty[4:]},
		{impl.StoreOp{Kind: 5, Flags: some("x", "", "yz")}, "\x05\x00\x00\x00\x00\x03\x01x\x00\x02yz" + empty[5:]},
		{impl.StoreOp{Kind: 4, Time: maxTime, Mod: 0x01020304, Message: "hi\x00"}, "\x04\x00\x00\x00\x00\x00\x3a\xff\xf4\x41\x7f\x01\x02\x03\x04\x00\x00\x03hi\x00"},
	} {
		wantText(t, "EncodeOp", shown(c.op), impl.EncodeOp(c.op), c.want)
		checkEncode15(t, "known bytes", c.op, true)
	}
}

// filledOp has something in each of its fields.
func filledOp() impl.StoreOp {
	return impl.StoreOp{Kind: 6, Box: "INBOX", To: "a/b", Uids: ids(3, 1, 70000), Flags: some(`\Seen`, "x"), Time: 951782400, Mod: 77, Message: "Subject: hi\r\n\r\nyes"}
}

func TestEncodeOpNumbers(t *testing.T) {
	check := func(what string, set func(op *impl.StoreOp, number int64), right, wrong []int64) {
		t.Helper()
		for at, number := range slices.Concat(right, wrong) {
			op := filledOp()
			set(&op, number)
			checkEncode15(t, fmt.Sprint(what, " ", number), op, at < len(right))
		}
	}
	check("Kind", func(op *impl.StoreOp, number int64) { op.Kind = number }, upTo(1, 9), []int64{0, 10, -1, 255, 256, 257, 265, math.MinInt64, math.MaxInt64, 1<<32 + 1})
	words, none := []int64{0, 1, 255, 256, 1 << 31, maxNumber}, []int64{-1, maxNumber + 1, maxNumber + 2, math.MinInt64, math.MaxInt64}
	check("Mod", func(op *impl.StoreOp, number int64) { op.Mod = number }, words, none)
	check("Uid", func(op *impl.StoreOp, number int64) { op.Uids[0] = number }, words, none)
	check("last Uid", func(op *impl.StoreOp, number int64) { op.Uids[2] = number }, words, none)
	check("Time", func(op *impl.StoreOp, number int64) { op.Time = number }, []int64{0, 1, 255, 256, 1 << 32, maxTime}, []int64{-1, maxTime + 1, 1 << 40, 1<<40 + 1, math.MinInt64, math.MaxInt64})
}

func TestEncodeOpSizes(t *testing.T) {
	check := func(what string, set func(op *impl.StoreOp, size int), most int, others ...int) {
		t.Helper()
		for _, size := range append(others, 0, 1, most, most+1) {
			op := filledOp()
			set(&op, size)
			checkEncode15(t, fmt.Sprint(what, " of size ", size), op, size <= most)
		}
	}
	check("Box", func(op *impl.StoreOp, size int) { op.Box = xs(size) }, 255, 60, 61, 257, 511, 512, maxText, maxText+1)
	check("To", func(op *impl.StoreOp, size int) { op.To = xs(size) }, 255, 60, 61, 257, 511, 512, maxText, maxText+1)
	check("a flag", func(op *impl.StoreOp, size int) { op.Flags[0] = xs(size) }, 255, 30, 31, 257, 511, 512, maxText, maxText+1)
	check("the last flag", func(op *impl.StoreOp, size int) { op.Flags[1] = xs(size) }, 255, 257, maxText+1)
	check("Uids", func(op *impl.StoreOp, size int) { op.Uids = upTo(5, 4+int64(size)) }, maxMails, 255, 256, 65535, 65536, 65537)
	check("Flags", func(op *impl.StoreOp, size int) { op.Flags = slices.Repeat(some("f"), size) }, 255, maxFlags, maxFlags+1, 257, 512)
	check("Message", func(op *impl.StoreOp, size int) { op.Message = xs(size) }, maxText, 255, 256, 65535, 65536, 1<<24, 1<<24+1)
}

// greatestOp is as large as one can be.
func greatestOp() impl.StoreOp {
	return impl.StoreOp{
		Kind: 9, Box: xs(255), To: xs(255), Uids: upTo(maxNumber-maxMails+1, maxNumber), Flags: slices.Repeat(some(xs(255)), 255),
		Time: maxTime, Mod: maxNumber, Message: xs(maxText),
	}
}

func TestEncodeOpGreatest(t *testing.T) {
	op := greatestOp()
	checkEncode15(t, "all at its bound", op, true)
	wantNumbers(t, "its size", "the greatest", []int64{int64(len(impl.EncodeOp(op)))}, []int64{1 + 256 + 256 + 2 + 4*maxMails + 1 + 255*256 + 5 + 4 + 3 + maxText})
	// Texts may have any bytes, and need not be right for a store.
	checkEncode15(t, "any bytes", impl.StoreOp{Kind: 2, Box: allBytes[:255], To: allBytes[1:], Flags: some(allBytes[100:], "\x00"), Message: allBytes}, true)
}

var allBytes = everyByte()

func everyByte() string {
	out := make([]byte, 256)
	for at := range out {
		out[at] = byte(at)
	}
	return string(out)
}

// someOps have each kind, with much and with nothing in them.
func someOps() []impl.StoreOp {
	var ops []impl.StoreOp
	for kind := int64(1); kind <= 9; kind++ {
		op := filledOp()
		op.Kind = kind
		ops = append(ops, op, impl.StoreOp{Kind: kind}, impl.StoreOp{Kind: kind, Flags: some("", ""), Uids: ids(0), Message: "m"})
	}
	return ops
}

func TestDecodeOpPlaces(t *testing.T) {
	ops := append(someOps(), greatestOp())
	for _, op := range ops {
		text := slowEncode(op)
		size := int64(len(text))
		checkDecode15(t, "alone", text, 0, impl.OpRead{Good: true, Op: op, Next: size})
		for _, other := range []string{"\x00", "z", text, "\xff\xff\xff\xff", xs(1000)} {
			ahead := int64(len(other))
			checkDecode15(t, "ahead of others", text+other, 0, impl.OpRead{Good: true, Op: op, Next: size})
			checkDecode15(t, "behind others", other+text, ahead, impl.OpRead{Good: true, Op: op, Next: ahead + size})
			checkDecode15(t, "between others", other+text+other, ahead, impl.OpRead{Good: true, Op: op, Next: ahead + size})
		}
		for _, at := range []int64{-1, -2, -size, size, size + 1, 2 * size, 1 << 32, math.MinInt64, math.MaxInt64} {
			checkDecode15(t, "no place", text, at, impl.OpRead{})
		}
	}
	for _, at := range []int64{-1, 0, 1} {
		checkDecode15(t, "no data", "", at, impl.OpRead{})
	}
}

// TestDecodeOpWithin begins at each place of operations one behind the other.
func TestDecodeOpWithin(t *testing.T) {
	data := ""
	for _, op := range someOps() {
		data += slowEncode(op)
	}
	good := 0
	for at := range int64(len(data)) {
		want := slowDecode(data, at)
		checkDecode15(t, "within", data, at, want)
		if want.Good {
			good++
		}
	}
	if good <= len(someOps()) {
		t.Errorf("only %d places are right", good)
	}
	text := slowEncode(greatestOp())
	for at := int64(1); at < int64(len(text)); at += 997 {
		checkDecode15(t, "within the greatest", text, at, slowDecode(text, at))
	}
}

func TestDecodeOpLacking(t *testing.T) {
	for _, op := range someOps() {
		text := slowEncode(op)
		for size := range len(text) {
			checkDecode15(t, "lacking", text[:size], 0, impl.OpRead{})
			checkDecode15(t, "lacking behind others", "abc"+text[:size], 3, impl.OpRead{})
		}
	}
	text := slowEncode(greatestOp())
	for size := 0; size < len(text); size += 4999 {
		checkDecode15(t, "lacking of the greatest", text[:size], 0, impl.OpRead{})
	}
	checkDecode15(t, "lacking one of the greatest", text[:len(text)-1], 0, impl.OpRead{})
}

// TestDecodeOpBounds has bytes enough behind each number that is above its bound.
func TestDecodeOpBounds(t *testing.T) {
	names, none, times, mod := "\x01a\x01b", "\x00\x00\x00", highFirst(5, 5), highFirst(6, 4)
	long := strings.Repeat("\x00", 2*maxText)
	for _, c := range []struct {
		what   string
		data   string
		isGood bool
	}{
		{"Kind 1", "\x01" + names + none + times + mod + none, true},
		{"Kind 9", "\x09" + names + none + times + mod + none, true},
		{"Kind 0", "\x00" + names + none + times + mod + none, false},
		{"Kind 10", "\x0a" + names + none + times + mod + none, false},
		{"Kind 255", "\xff" + names + none + times + mod + none, false},
		{"MaxMails Uids", "\x01" + names + highFirst(maxMails, 2) + long, true},
		{"one Uid more", "\x01" + names + highFirst(maxMails+1, 2) + long, false},
		{"65535 Uids", "\x01" + names + "\xff\xff" + long + long, false},
		{"255 flags", "\x01" + names + "\x00\x00\xff" + long, true},
		{"Time MaxTime", "\x01" + names + none + highFirst(maxTime, 5) + mod + none, true},
		{"Time one more", "\x01" + names + none + highFirst(maxTime+1, 5) + mod + none, false},
		{"the greatest Time", "\x01" + names + none + "\xff\xff\xff\xff\xff" + mod + none, false},
		{"the greatest Mod", "\x01" + names + none + times + "\xff\xff\xff\xff" + none, true},
		{"Message of MaxText bytes", "\x01" + names + none + times + mod + highFirst(maxText, 3) + long, true},
		{"Message of MaxText bytes and no more", "\x01" + names + none + times + mod + highFirst(maxText, 3) + long[:maxText], true},
		{"Message one byte short", "\x01" + names + none + times + mod + highFirst(maxText, 3) + long[:maxText-1], false},
		{"Message of one byte more", "\x01" + names + none + times + mod + highFirst(maxText+1, 3) + long, false},
		{"the longest Message", "\x01" + names + none + times + mod + "\xff\xff\xff" + strings.Repeat(long, 84), false},
		{"Box above what is there", "\x01\xff" + xs(100), false},
		{"To above what is there", "\x01\x00\xff" + xs(254), false},
		{"Uids above what is there", "\x01" + names + "\x00\x03" + xs(11), false},
		{"flags above what is there", "\x01" + names + "\x00\x00\x03\x00\x00", false},
		{"a flag above what is there", "\x01" + names + "\x00\x00\x01\x09abcdefgh", false},
		{"Message above what is there", "\x01" + names + none + times + mod + highFirst(3, 3) + "ab", false},
	} {
		got := impl.DecodeOp(c.data, 0)
		if got.Good != c.isGood {
			t.Errorf("DecodeOp of data with %s: Good %v", c.what, got.Good)
		}
		checkDecode15(t, c.what, c.data, 0, slowDecode(c.data, 0))
	}
}

// TestDecodeOpTurned turns each byte of operations, and reads made-up bytes.
func TestDecodeOpTurned(t *testing.T) {
	for _, op := range someOps() {
		text := slowEncode(op)
		for at := range len(text) {
			for _, b := range []byte{0, 1, 2, 9, 10, 128, 255, text[at] + 1, text[at] ^ 1} {
				turned := []byte(text + "\x00\x00\x00\x00")
				turned[at] = b
				checkDecode15(t, "turned", string(turned), 0, slowDecode(string(turned), 0))
			}
		}
	}
	d := &dice{state: 1501}
	good := 0
	for range 20000 {
		data := string(rune(1+d.below(9))) + d.text(d.below(60), some("\x00", "\x00", "\x00", "\x00", "\x00", "\x00", "\x00", "\x00", "\x01", "\x02", "a\x00", "\xff"))
		if slowDecode(data, 0).Good {
			good++
		}
		checkDecode15(t, "made up", data, 0, slowDecode(data, 0))
	}
	if good < 1000 {
		t.Errorf("only %d of the made-up ones were right", good)
	}
}

func TestEncodeOpOfAnyOps(t *testing.T) {
	d := &dice{state: 1502}
	for range 3000 {
		op := d.storeOp(someStore())
		checkEncode15(t, "made up "+shown(op), op, hasCode(op))
	}
}

// frameSum is reckoned by itself, as the one of chapter 10 tells it.
func frameSum(data string) int64 {
	sum := int64(1)
	for _, b := range []byte(data) {
		sum = (sum*65539 + int64(b) + 1) % signPrime
	}
	return sum
}

// anyFrame is one around whatever data, also where there should be none.
func anyFrame(data string) string {
	return "F" + highFirst(int64(len(data)), 4) + highFirst(frameSum(data), 4) + data
}

func slowFrame(data string) string {
	if data == "" || len(data) > maxFramed {
		return ""
	}
	return anyFrame(data)
}

func TestPutFrame(t *testing.T) {
	for data, want := range map[string]string{
		"":                "",
		"a":               "F\x00\x00\x00\x01\x00\x01\x00\x65a",
		"\x00":            "F\x00\x00\x00\x01\x00\x01\x00\x04\x00",
		"\xff":            "F\x00\x00\x00\x01\x00\x01\x01\x03\xff",
		xs(2):             "F\x00\x00\x00\x02" + highFirst(slowSum(65539, "xx"), 4) + "xx",
		xs(300):           "F\x00\x00\x01\x2c" + highFirst(slowSum(65539, xs(300)), 4) + xs(300),
		xs(maxText):       "F\x00\x01\x86\xa0" + highFirst(frameSum(xs(maxText)), 4) + xs(maxText),
		xs(maxText + 1):   "F\x00\x01\x86\xa1" + highFirst(frameSum(xs(maxText+1)), 4) + xs(maxText+1),
		xs(maxFramed):     "F\x00\x03\x0d\x40" + highFirst(frameSum(xs(maxFramed)), 4) + xs(maxFramed),
		xs(maxFramed + 1): "",
		xs(2 * maxFramed): "",
		xs(1 << 24):       "",
	} {
		wantText(t, "PutFrame", data, impl.PutFrame(data), want)
		wantText(t, "the test's own frame", data, slowFrame(data), want)
	}
	d := &dice{state: 1503}
	for range 300 {
		data := d.text(d.below(200), strings.Split(allBytes, ""))
		wantText(t, "PutFrame", data, impl.PutFrame(data), slowFrame(data))
		if data != "" && frameSum(data) != slowSum(65539, data) {
			t.Errorf("the test's own sum of %s", short(data))
		}
	}
}

func slowLog(data string) impl.LogRead {
	var log impl.LogRead
	if len(data) > maxDisk {
		return log
	}
	for {
		rest := data[log.End:]
		if len(rest) < 9 {
			return log
		}
		size := int64(0)
		for _, b := range []byte(rest[1:5]) {
			size = 256*size + int64(b)
		}
		if size == 0 || size > maxFramed || size > int64(len(rest))-9 || rest[:9+size] != slowFrame(rest[9:9+size]) {
			return log
		}
		read := slowDecode(rest[9:9+size], 0)
		if !read.Good || read.Next != size {
			return log
		}
		log.Ops, log.End = append(log.Ops, read.Op), log.End+9+size
	}
}

func sameLogs(a, b impl.LogRead) bool {
	return a.End == b.End && slices.EqualFunc(a.Ops, b.Ops, sameOps)
}

func checkLog(t *testing.T, what, data string, want impl.LogRead) {
	t.Helper()
	if got := impl.ReadLog(data); !sameLogs(got, want) {
		t.Errorf("ReadLog of %s (%s): %d operations, End %d, want %d, %d", short(data), what, len(got.Ops), got.End, len(want.Ops), want.End)
	}
	if slow := slowLog(data); !sameLogs(slow, want) {
		t.Errorf("the test itself reads %s (%s) as %d operations, End %d, want %d, %d", short(data), what, len(slow.Ops), slow.End, len(want.Ops), want.End)
	}
}

func framed(op impl.StoreOp) string { return slowFrame(slowEncode(op)) }

// logOf is a log with these operations.
func logOf(ops ...impl.StoreOp) string {
	var out strings.Builder
	for _, op := range ops {
		out.WriteString(framed(op))
	}
	return out.String()
}

func wholeLog(ops ...impl.StoreOp) impl.LogRead {
	return impl.LogRead{Ops: ops, End: int64(len(logOf(ops...)))}
}

func TestReadLog(t *testing.T) {
	a, b := create("a"), filledOp()
	checkLog(t, "no data", "", impl.LogRead{})
	checkLog(t, "one frame", logOf(a), wholeLog(a))
	checkLog(t, "the greatest one", logOf(greatestOp()), wholeLog(greatestOp()))
	checkLog(t, "several", logOf(someOps()...), wholeLog(someOps()...))
	checkLog(t, "the same again", logOf(a, a, b, a), wholeLog(a, a, b, a))
	text := slowEncode(b)
	for what, ill := range map[string]string{
		"another first byte":         "G" + framed(b)[1:],
		"a first byte ahead":         "x" + framed(b),
		"a nought ahead":             "\x00" + framed(b),
		"an F ahead":                 "F" + framed(b),
		"no frame":                   text,
		"a length of 0":              anyFrame(""),
		"a length of 0 and the sum":  "F\x00\x00\x00\x00" + framed(b)[5:],
		"a length above":             "F" + highFirst(int64(len(text)+1), 4) + framed(b)[5:],
		"a length below":             "F" + highFirst(int64(len(text)-1), 4) + framed(b)[5:],
		"the greatest length":        "F\xff\xff\xff\xff" + framed(b)[5:],
		"a length with its high bit": "F\x80\x00\x00\x40" + framed(b)[5:],
		"a length above the bound":   anyFrame(text + xs(maxFramed)),
		"a length at the bound":      anyFrame(text + xs(maxFramed-len(text))),
		"another sum":                "F" + highFirst(int64(len(text)), 4) + highFirst(frameSum(text)+1, 4) + text,
		"a sum and the prime":        "F" + highFirst(int64(len(text)), 4) + highFirst(frameSum(text)+signPrime, 4) + text,
		"the sum of other data":      "F" + highFirst(int64(len(text)), 4) + highFirst(frameSum(text+"a"), 4) + text,
		"the other sum of the key":   "F" + highFirst(int64(len(text)), 4) + highFirst(slowSum(1, text), 4) + text,
		"no sum":                     "F" + highFirst(int64(len(text)), 4) + "\x00\x00\x00\x00" + text,
		"a byte behind":              anyFrame(text + "\x00"),
		"an operation behind":        anyFrame(text + text),
		"a frame within a frame":     anyFrame(framed(b)),
		"a byte lacking":             anyFrame(text[:len(text)-1]),
		"a byte ahead":               anyFrame("\x00" + text),
		"no right Kind":              anyFrame("\x00" + text[1:]),
		"a Kind of 10":               anyFrame("\x0a" + text[1:]),
		"what is no operation":       anyFrame("zz"),
		"one byte":                   anyFrame("\x01"),
	} {
		checkLog(t, what, ill, impl.LogRead{})
		checkLog(t, what+" ahead of others", ill+logOf(a, b), impl.LogRead{})
		checkLog(t, what+" behind others", logOf(a, b)+ill, wholeLog(a, b))
		checkLog(t, what+" between others", logOf(b, a)+ill+logOf(a, b), wholeLog(b, a))
	}
}

func TestReadLogLacking(t *testing.T) {
	a := create("a")
	for _, last := range someOps() {
		text := framed(last)
		for size := range len(text) {
			checkLog(t, "lacking", logOf(a, a)+text[:size], wholeLog(a, a))
			checkLog(t, "lacking of the first", text[:size], impl.LogRead{})
		}
		checkLog(t, "nothing lacking", logOf(a, a)+text, wholeLog(a, a, last))
	}
}

// TestReadLogTurned turns each byte of a frame into each other one.
func TestReadLogTurned(t *testing.T) {
	a, b := create("a"), impl.StoreOp{Kind: 6, Box: "b", To: "c", Uids: ids(2), Flags: some("f"), Time: 3, Mod: 4, Message: "hi"}
	text := framed(b)
	for at := range len(text) {
		for turn := 1; turn < 256; turn++ {
			turned := []byte(text)
			turned[at] ^= byte(turn)
			checkLog(t, "turned", string(turned), impl.LogRead{})
			checkLog(t, "turned between others", logOf(a)+string(turned)+logOf(a, a), wholeLog(a))
		}
	}
}

// fullLog has so many bytes, with letters that a store takes and then flags that it does not find.
func fullLog(size int) (string, []impl.StoreOp) {
	var ops []impl.StoreOp
	small, rest := len(framed(putMail(1, ""))), size
	for rest > 0 {
		next := min(rest, small+90000)
		if rest-next > 0 && rest-next < small {
			next -= small
		}
		ops = append(ops, putMail(1, xs(next-small)))
		rest -= next
	}
	return logOf(ops...), ops
}

func TestReadLogSizes(t *testing.T) {
	for _, size := range []int{maxText, maxText + 1, maxFramed + 1, maxDisk - 1, maxDisk} {
		data, ops := fullLog(size)
		if len(data) != size {
			t.Fatalf("a log of %d bytes, want %d", len(data), size)
		}
		checkLog(t, "full", data, wholeLog(ops...))
	}
	data, ops := fullLog(maxDisk)
	checkLog(t, "one byte less", data[:maxDisk-1], wholeLog(ops[:len(ops)-1]...))
	for _, more := range []string{"\x00", "F", "x", framed(create("a")), xs(maxDisk)} {
		checkLog(t, "too much", data+more, impl.LogRead{})
	}
	data, ops = fullLog(maxDisk - 1)
	checkLog(t, "a byte behind the last one", data+"x", wholeLog(ops...))
	// A log may have more operations than a run.
	for _, count := range []int{maxOps, maxOps + 1, 20000} {
		many := slices.Repeat([]impl.StoreOp{create("a")}, count)
		checkLog(t, "many operations", logOf(many...), wholeLog(many...))
	}
}

// TestReadLogOfAnyBytes has made-up logs of frames that are right and ones that are not.
func TestReadLogOfAnyBytes(t *testing.T) {
	d := &dice{state: 1504}
	ends := map[int]int{}
	for range 3000 {
		data := ""
		for range d.below(6) {
			piece := framed(someOps()[d.below(27)])
			switch d.below(12) {
			case 0:
				piece = piece[:d.below(len(piece))]
			case 1:
				turned := []byte(piece)
				turned[d.below(len(turned))] ^= byte(1 + d.below(255))
				piece = string(turned)
			case 2:
				piece = anyFrame(d.text(d.below(40), some("\x00", "\x01", "a")))
			}
			data += piece
		}
		want := slowLog(data)
		ends[len(want.Ops)]++
		checkLog(t, "made up", data, want)
	}
	for count := range 6 {
		if ends[count] < 50 {
			t.Errorf("%d logs have %d operations", ends[count], count)
		}
	}
}

func slowOpen(data string) impl.Store {
	store := impl.StoreStart()
	for at, op := range slowLog(data).Ops {
		if at < maxOps {
			store, _ = slowOp(store, op)
		}
	}
	return store
}

func checkOpened(t *testing.T, what, data string, want impl.Store) {
	t.Helper()
	if got := impl.OpenLog(data); !sameStores(got, want) {
		t.Errorf("OpenLog of %s: %s, want %s", what, shown(got), shown(want))
	}
	if slow := slowOpen(data); !sameStores(slow, want) {
		t.Errorf("the test itself opens %s as %s, want %s", what, shown(slow), shown(want))
	}
}

func TestOpenLog(t *testing.T) {
	start := impl.StoreStart()
	checkOpened(t, "an empty log", "", start)
	checkOpened(t, "no log", "zz"+framed(create("a")), start)
	behind := func(ops ...impl.StoreOp) impl.Store { return impl.RunStore(start, ops).Store }
	a, b, mail := create("a"), create("b"), putMail(5, "hello", "x")
	checkOpened(t, "one operation", logOf(a), impl.Store{NextValidity: 3, Boxes: []impl.Mailbox{{Name: "INBOX", Validity: 1, NextUid: 1}, {Name: "a", Validity: 2, NextUid: 1}}})
	checkOpened(t, "several operations", logOf(mail, a, copying("INBOX", "a", 1), mail), behind(mail, a, copying("INBOX", "a", 1), mail))
	none := copying("INBOX", "none", 1)
	checkOpened(t, "codes among them", logOf(a, a, none, b, create("/"), mail), behind(a, b, mail))
	checkOpened(t, "codes alone", logOf(none, none, create("INBOX")), start)
	checkOpened(t, "bytes behind the log", logOf(a, b)+"x"+logOf(mail), behind(a, b))
	checkOpened(t, "a frame that lacks a byte", logOf(a, b)+framed(mail)[:20], behind(a, b))
	checkOpened(t, "a log of all kinds", logOf(someOps()...), slowOpen(logOf(someOps()...)))
	full, ops := fullLog(maxDisk)
	checkOpened(t, "a full disk", full, behind(ops...))
	checkOpened(t, "more than a disk", full+"x", start)
}

func TestOpenLogManyOps(t *testing.T) {
	a, b := create("a"), create("b")
	many := slices.Repeat([]impl.StoreOp{a}, maxOps-1)
	with := impl.OpenLog(logOf(append(slices.Clone(many), b)...))
	without := impl.OpenLog(logOf(append(slices.Clone(many), a, b)...))
	if impl.FindBox(with, "b") != 2 || impl.FindBox(without, "b") != -1 || with.NextValidity != 4 || without.NextValidity != 3 {
		t.Errorf("OpenLog of MaxOps operations: %s, of one more: %s", shown(with), shown(without))
	}
	checkOpened(t, "far more operations", logOf(slices.Repeat([]impl.StoreOp{a, b, {Kind: impl.StDelete, Box: "b"}}, 3000)...), slowOpen(logOf(slices.Repeat([]impl.StoreOp{a, b, {Kind: impl.StDelete, Box: "b"}}, 3000)...)))
}

func TestOpenLogOfAnyOps(t *testing.T) {
	d := &dice{state: 1505}
	for range 20 {
		h := d.history(t, impl.StoreStart(), 80)
		data := ""
		for _, op := range h.ops {
			if next := data + framed(op); len(next) <= maxDisk {
				data = next
			}
		}
		checkOpened(t, "made-up operations", data, slowOpen(data))
	}
}

// slowDisk is a disk that is opened from its first byte on behind each crash.
type slowDisk struct {
	impl.Disk
	store impl.Store
	held  int64
}

func (d *slowDisk) open() {
	log := slowLog(d.Data)
	d.store, d.Data, d.Synced, d.held = slowOpen(d.Data), d.Data[:log.End], log.End, int64(len(log.Ops))
}

func (d *slowDisk) do(op impl.DiskOp) impl.DiskOut {
	var out impl.DiskOut
	switch op.Kind {
	case impl.DkDo:
		out = d.doStore(op.Op)
	case impl.DkSync:
		d.Synced = int64(len(d.Data))
	case impl.DkCrash:
		size := d.Synced
		for range min(max(0, op.Keep), maxDisk) {
			size = min(size+1, int64(len(d.Data)))
		}
		stay := []byte(d.Data[:size])
		if op.Turn > 0 && op.Turn < 256 && size > d.Synced {
			stay[size-1] ^= byte(op.Turn)
		}
		d.Data = string(stay)
		d.open()
	default:
		out.Code = impl.ErrForm
	}
	out.Held = d.held
	return out
}

func (d *slowDisk) doStore(op impl.StoreOp) impl.DiskOut {
	text := slowEncode(op)
	if text == "" {
		return impl.DiskOut{Code: impl.ErrForm}
	}
	after, out := slowOp(d.store, op)
	if out.Code != impl.OK {
		return impl.DiskOut{Code: out.Code, Out: out}
	}
	if len(d.Data)+len(slowFrame(text)) > maxDisk || d.held == maxOps {
		return impl.DiskOut{Code: impl.ErrFull}
	}
	d.store, d.Data, d.held = after, d.Data+slowFrame(text), d.held+1
	return impl.DiskOut{Out: out}
}

func slowRunDisk(d impl.Disk, ops []impl.DiskOp) impl.DiskRun {
	if len(ops) > maxOps || len(d.Data) > maxDisk || d.Synced < 0 || d.Synced > int64(len(d.Data)) || len(slowLog(d.Data).Ops) > maxOps {
		return impl.DiskRun{}
	}
	slow := slowDisk{Disk: d}
	slow.open()
	var run impl.DiskRun
	for _, op := range ops {
		run.Outs = append(run.Outs, slow.do(op))
	}
	run.Store, run.Disk = slow.store, slow.Disk
	return run
}

func sameDiskOut(a, b impl.DiskOut) bool {
	return a.Code == b.Code && a.Held == b.Held && sameOut(a.Out, b.Out)
}

func sameDiskRuns(a, b impl.DiskRun) bool {
	return a.Disk == b.Disk && sameStores(a.Store, b.Store) && slices.EqualFunc(a.Outs, b.Outs, sameDiskOut)
}

func shownOuts(outs []impl.DiskOut) string {
	var out []string
	for _, one := range outs {
		out = append(out, fmt.Sprint(one.Code, " ", one.Out, " ", one.Held))
	}
	return strings.Join(out[:min(len(out), 40)], ", ")
}

func checkDiskRun(t *testing.T, what string, got, want impl.DiskRun) {
	t.Helper()
	if !slices.EqualFunc(got.Outs, want.Outs, sameDiskOut) {
		t.Errorf("RunDisk, %s: outs %s, want %s", what, shownOuts(got.Outs), shownOuts(want.Outs))
	}
	if got.Disk != want.Disk {
		t.Errorf("RunDisk, %s: disk %s, synced %d, want %s, %d", what, short(got.Disk.Data), got.Disk.Synced, short(want.Disk.Data), want.Disk.Synced)
	}
	if !sameStores(got.Store, want.Store) {
		t.Errorf("RunDisk, %s: store %s, want %s", what, shown(got.Store), shown(want.Store))
	}
}

// checkDisk holds a run against the slow one, too.
func checkDisk(t *testing.T, what string, disk impl.Disk, ops []impl.DiskOp, want impl.DiskRun) {
	t.Helper()
	checkDiskRun(t, what, impl.RunDisk(disk, ops), want)
	checkDiskRun(t, what+" (the test itself)", slowRunDisk(disk, ops), want)
}

func synced(data string) impl.Disk { return impl.Disk{Data: data, Synced: int64(len(data))} }

func doing(ops ...impl.StoreOp) []impl.DiskOp {
	var out []impl.DiskOp
	for _, op := range ops {
		out = append(out, impl.DiskOp{Kind: impl.DkDo, Op: op})
	}
	return out
}

func crashing(keep, turn int64) impl.DiskOp {
	return impl.DiskOp{Kind: impl.DkCrash, Keep: keep, Turn: turn}
}

var syncing = impl.DiskOp{Kind: impl.DkSync}

// behindAll is the store behind operations from its start on.
func behindAll(ops ...impl.StoreOp) impl.Store {
	store := impl.StoreStart()
	for _, op := range ops {
		store, _ = slowOp(store, op)
	}
	return store
}

func TestRunDiskNothing(t *testing.T) {
	checkDisk(t, "no disk, no operation", impl.Disk{}, nil, impl.DiskRun{Store: impl.StoreStart()})
	a, b := create("a"), create("b")
	checkDisk(t, "a disk, no operation", synced(logOf(a, b)), nil, impl.DiskRun{Store: behindAll(a, b), Disk: synced(logOf(a, b))})
}

// TestRunDiskRefused has the zero value for each fault, and an answer just within each bound.
func TestRunDiskRefused(t *testing.T) {
	refused := func(what string, disk impl.Disk, ops []impl.DiskOp, isRefused bool) {
		t.Helper()
		got := impl.RunDisk(disk, ops)
		if isZero := sameDiskRuns(got, impl.DiskRun{}); isZero != isRefused || !isRefused && len(got.Outs) != len(ops) {
			t.Errorf("RunDisk with %s: %d outs, zero: %v", what, len(got.Outs), isZero)
		}
		if !sameDiskRuns(got, slowRunDisk(disk, ops)) {
			t.Errorf("RunDisk with %s is not what the test itself does", what)
		}
	}
	none := make([]impl.DiskOp, maxOps+2)
	refused("MaxOps operations", impl.Disk{}, none[:maxOps], false)
	refused("one operation more", impl.Disk{}, none[:maxOps+1], true)
	refused("two operations more", impl.Disk{}, none[:maxOps+2], true)
	data, _ := fullLog(maxDisk)
	refused("MaxDisk bytes", synced(data), none[:1], false)
	refused("MaxDisk bytes of nothing", impl.Disk{Data: xs(maxDisk)}, none[:1], false)
	refused("one byte more", synced(data+"x"), none[:1], true)
	refused("one byte more, not synced", impl.Disk{Data: xs(maxDisk + 1)}, none[:1], true)
	log := logOf(create("a"), create("b"))
	size := int64(len(log))
	for _, place := range []int64{0, 1, size / 2, size - 1, size, -1, size + 1, math.MinInt64, math.MaxInt64} {
		refused(fmt.Sprint("Synced of ", place), impl.Disk{Data: log, Synced: place}, none[:1], place < 0 || place > size)
	}
	refused("an empty disk, synced behind its end", impl.Disk{Synced: 1}, none[:1], true)
	refused("an empty disk, synced ahead of it", impl.Disk{Synced: -1}, none[:1], true)
	for _, count := range []int{maxOps - 1, maxOps, maxOps + 1, 20000} {
		many := logOf(slices.Repeat([]impl.StoreOp{create("a")}, count)...)
		refused(fmt.Sprint("a log of ", count, " operations"), synced(many), none[:1], count > maxOps)
		refused(fmt.Sprint("a log of ", count, " operations and no operation"), synced(many), nil, count > maxOps)
	}
}

// TestRunDiskOpened has disks as they are opened at first, whatever was synced.
func TestRunDiskOpened(t *testing.T) {
	a, b, none := create("a"), create("b"), create("/")
	log := logOf(a, none, b)
	want := impl.DiskRun{Store: behindAll(a, b), Disk: synced(log), Outs: []impl.DiskOut{{Code: impl.ErrForm, Held: 3}}}
	for _, behind := range []string{"", "x", "F", framed(a)[:9], framed(a)[1:], anyFrame("zz") + framed(a), xs(1000)} {
		for _, place := range []int64{0, 1, int64(len(log)), int64(len(log + behind))} {
			checkDisk(t, "bytes behind the log's end", impl.Disk{Data: log + behind, Synced: place}, make([]impl.DiskOp, 1), want)
		}
	}
	for _, data := range []string{"x", xs(maxDisk), log[1:]} {
		checkDisk(t, "no log", synced(data), make([]impl.DiskOp, 1), impl.DiskRun{Store: impl.StoreStart(), Outs: []impl.DiskOut{{Code: impl.ErrForm}}})
	}
	// What was cut leaves its room.
	data, ops := fullLog(maxDisk)
	small := framed(create("a"))
	ops = ops[:len(ops)-1]
	log = logOf(ops...)
	checkDisk(t, "room behind a cut", synced(data[:maxDisk-1]), doing(a), impl.DiskRun{
		Store: behindAll(append(ops, a)...), Disk: impl.Disk{Data: log + small, Synced: int64(len(log))}, Outs: []impl.DiskOut{{Held: int64(len(ops)) + 1}},
	})
}

func TestRunDiskDo(t *testing.T) {
	mail, a := putMail(7, "hello", "b", "a"), create("a")
	adds, stale := flagging(impl.StAdd, 0, ids(2, 1, 9), `\Deleted`), flagging(impl.StSet, 1, ids(1, 2), "x")
	ops := []impl.StoreOp{mail, a, mail, adds, stale, copying("INBOX", "a", 2, 1), expunging(2), {Kind: impl.StRename, Box: "a", To: "b"}, {Kind: impl.StDelete, Box: "b"}}
	outs := []impl.StoreOut{toldUids(1), {}, toldUids(2), toldUids(1, 2), {Failed: ids(1, 2)}, toldUids(1, 2), toldUids(2), {}, {}}
	want := impl.DiskRun{Store: behindAll(ops...), Disk: impl.Disk{Data: logOf(ops...)}}
	for at, out := range outs {
		want.Outs = append(want.Outs, impl.DiskOut{Out: out, Held: int64(at) + 1})
	}
	checkDisk(t, "each kind", impl.Disk{}, doing(ops...), want)
	opened := impl.RunDisk(synced(want.Disk.Data), nil)
	checkDiskRun(t, "opened again", opened, impl.DiskRun{Store: want.Store, Disk: synced(want.Disk.Data)})
	// Keep and Turn are none of its.
	filled := doing(ops...)
	for at := range filled {
		filled[at].Keep, filled[at].Turn = 5, 77
	}
	checkDisk(t, "fields that play no part", impl.Disk{}, filled, want)
}

func TestRunDiskDoCodes(t *testing.T) {
	refused := func(code int64) impl.DiskOut { return impl.DiskOut{Code: code, Out: impl.StoreOut{Code: code}} }
	unwritten := impl.DiskOut{Code: impl.ErrForm}
	with := func(op impl.StoreOp, change func(op *impl.StoreOp)) impl.StoreOp {
		change(&op)
		return op
	}
	a := create("a")
	for _, c := range []struct {
		what string
		op   impl.StoreOp
		want impl.DiskOut
	}{
		{"a name that is not right", create("/"), refused(impl.ErrForm)},
		{"a box that is there", create("INBOX"), refused(impl.ErrState)},
		{"a box that is not there", copying("none", "INBOX"), refused(impl.ErrNone)},
		{"INBOX deleted", impl.StoreOp{Kind: impl.StDelete, Box: "INBOX"}, refused(impl.ErrRight)},
		{"a flag that is not right", putMail(1, "m", `\x`), refused(impl.ErrForm)},
		{"Kind 0", with(a, func(op *impl.StoreOp) { op.Kind = 0 }), unwritten},
		{"Kind 10", with(a, func(op *impl.StoreOp) { op.Kind = 10 }), unwritten},
		{"Kind -1", with(a, func(op *impl.StoreOp) { op.Kind = -1 }), unwritten},
		{"a Time that plays no part", with(a, func(op *impl.StoreOp) { op.Time = -1 }), unwritten},
		{"a Mod that plays no part", with(a, func(op *impl.StoreOp) { op.Mod = maxNumber + 1 }), unwritten},
		{"a To that plays no part", with(a, func(op *impl.StoreOp) { op.To = xs(256) }), unwritten},
		{"a Message that plays no part", with(a, func(op *impl.StoreOp) { op.Message = xs(maxText + 1) }), unwritten},
		{"Uids that play no part", with(a, func(op *impl.StoreOp) { op.Uids = upTo(1, maxMails+1) }), unwritten},
		{"a Uid that plays no part", with(a, func(op *impl.StoreOp) { op.Uids = ids(-1) }), unwritten},
		{"flags that play no part", with(a, func(op *impl.StoreOp) { op.Flags = slices.Repeat(some("f"), 256) }), unwritten},
		{"a long flag that plays no part", with(a, func(op *impl.StoreOp) { op.Flags = some(xs(256)) }), unwritten},
		{"a Message that is too long", putMail(1, xs(maxText+1)), unwritten},
		{"a long name of no box", copying(xs(256), "INBOX"), unwritten},
		{"no box, and not to be written", with(putMail(-1, ""), func(op *impl.StoreOp) { op.Box = "none" }), unwritten},
		{"a box that is there, and not to be written", with(create("INBOX"), func(op *impl.StoreOp) { op.Time = maxTime + 1 }), unwritten},
	} {
		log := logOf(create("b"), putMail(1, "m"))
		c.want.Held = 2
		want := impl.DiskRun{Store: slowOpen(log), Disk: synced(log), Outs: []impl.DiskOut{c.want}}
		checkDisk(t, c.what, synced(log), doing(c.op), want)
		// A full disk and a full log tell the same of it.
		data, ops := fullLog(maxDisk)
		c.want.Held = int64(len(ops))
		checkDisk(t, c.what+" at a full disk", synced(data), doing(c.op), impl.DiskRun{Store: slowOpen(data), Disk: synced(data), Outs: []impl.DiskOut{c.want}})
		many := logOf(slices.Repeat([]impl.StoreOp{create("b")}, maxOps)...)
		c.want.Held = maxOps
		checkDisk(t, c.what+" at a full log", synced(many), doing(c.op), impl.DiskRun{Store: behindAll(create("b")), Disk: synced(many), Outs: []impl.DiskOut{c.want}})
	}
}

// TestRunDiskFull has frames that just fit on the disk, and ones that do not.
func TestRunDiskFull(t *testing.T) {
	a := create("a")
	size := len(framed(a))
	for _, less := range []int{size + 1, size, size - 1, 1, 0} {
		data, ops := fullLog(maxDisk - less)
		held := int64(len(ops))
		want := impl.DiskRun{Store: slowOpen(data), Disk: synced(data), Outs: []impl.DiskOut{{Code: impl.ErrFull, Held: held}}}
		if less >= size {
			want.Outs[0] = impl.DiskOut{Held: held + 1}
			want.Store, _ = slowOp(want.Store, a)
			want.Disk.Data += framed(a)
		}
		checkDisk(t, fmt.Sprint("room of ", less, " bytes for ", size), synced(data), doing(a), want)
	}
	// A greater one does not keep a smaller one out.
	data, ops := fullLog(maxDisk - size - 4)
	held := int64(len(ops))
	full := impl.DiskOut{Code: impl.ErrFull, Held: held}
	checkDisk(t, "a smaller one behind", synced(data), doing(create("longer"), create("longer"), a, create("b")), impl.DiskRun{
		Store: behindAll(append(ops, a)...), Disk: impl.Disk{Data: data + framed(a), Synced: int64(len(data))},
		Outs: []impl.DiskOut{full, full, {Held: held + 1}, {Code: impl.ErrFull, Held: held + 1}},
	})
}

func TestRunDiskFullLog(t *testing.T) {
	flags := flagging(impl.StSet, 0, ids(1), "x")
	ops := append([]impl.StoreOp{putMail(1, "m")}, slices.Repeat([]impl.StoreOp{flags}, maxOps-1)...)
	log := logOf(ops...)
	store := impl.OpenLog(log)
	full := impl.DiskOut{Code: impl.ErrFull, Held: maxOps}
	checkDisk(t, "a full log", synced(log), doing(flags, create("a"), flags), impl.DiskRun{Store: store, Disk: synced(log), Outs: []impl.DiskOut{full, full, full}})
	before := logOf(ops[:maxOps-1]...)
	got := impl.RunDisk(synced(before), append(doing(flags, flags), crashing(0, 0), doing(flags)[0], doing(flags)[0]))
	told := toldUids(1)
	want := []impl.DiskOut{{Out: told, Held: maxOps}, full, {Held: maxOps - 1}, {Out: told, Held: maxOps}, full}
	if !slices.EqualFunc(got.Outs, want, sameDiskOut) {
		t.Errorf("a log that gets full: %s, want %s", shownOuts(got.Outs), shownOuts(want))
	}
	// All operations of a run may be done, into an empty log.
	run := impl.RunDisk(impl.Disk{}, doing(ops...))
	if !sameStores(run.Store, store) || run.Disk != (impl.Disk{Data: log}) || run.Outs[maxOps-1].Held != maxOps {
		t.Errorf("MaxOps operations done: %s", shown(run.Disk))
	}
}

func TestRunDiskSync(t *testing.T) {
	a, b := create("a"), create("b")
	size := int64(len(framed(a)))
	checkDisk(t, "no sync", impl.Disk{}, doing(a, b), impl.DiskRun{Store: behindAll(a, b), Disk: impl.Disk{Data: logOf(a, b)}, Outs: []impl.DiskOut{{Held: 1}, {Held: 2}}})
	ops := []impl.DiskOp{syncing, doing(a)[0], syncing, doing(b)[0]}
	checkDisk(t, "a sync", impl.Disk{}, ops, impl.DiskRun{Store: behindAll(a, b), Disk: impl.Disk{Data: logOf(a, b), Synced: size}, Outs: []impl.DiskOut{{}, {Held: 1}, {Held: 1}, {Held: 2}}})
	checkDisk(t, "a last sync", impl.Disk{}, append(ops, syncing, syncing), impl.DiskRun{Store: behindAll(a, b), Disk: synced(logOf(a, b)), Outs: []impl.DiskOut{{}, {Held: 1}, {Held: 1}, {Held: 2}, {Held: 2}, {Held: 2}}})
	filled := impl.DiskOp{Kind: impl.DkSync, Op: putMail(-1, xs(maxText+1)), Keep: 3, Turn: 3}
	checkDisk(t, "fields that play no part", impl.Disk{}, append(doing(a), filled), impl.DiskRun{Store: behindAll(a), Disk: synced(logOf(a)), Outs: []impl.DiskOut{{Held: 1}, {Held: 1}}})
}

func TestRunDiskKinds(t *testing.T) {
	a := create("a")
	for _, kind := range []int64{0, 4, -1, 5, 257, 258, 259, math.MinInt64, math.MaxInt64} {
		other := impl.DiskOp{Kind: kind, Op: create("b"), Keep: 1, Turn: 1}
		checkDisk(t, fmt.Sprint("kind ", kind), impl.Disk{}, append(doing(a), other), impl.DiskRun{
			Store: behindAll(a), Disk: impl.Disk{Data: logOf(a)}, Outs: []impl.DiskOut{{Held: 1}, {Code: impl.ErrForm, Held: 1}},
		})
	}
}

// TestRunDiskCrash has each number of bytes that stay of three operations behind one that is synced, each turned.
func TestRunDiskCrash(t *testing.T) {
	first, ops := putMail(1, "m"), []impl.StoreOp{create("a"), flagging(impl.StSet, 0, ids(1), "x"), copying("INBOX", "a", 1)}
	behind := int64(len(logOf(ops...)))
	keeps := append(upTo(-2, behind+2), math.MinInt64, math.MaxInt64, 1<<32, -1<<32, behind+256)
	for _, turn := range []int64{0, 1, 128, 255, 256, 257, -1, -255, -256, math.MinInt64, math.MaxInt64} {
		for _, keep := range keeps {
			stay := 0
			for stay < len(ops) && int64(len(logOf(ops[:stay+1]...))) <= keep {
				stay++
			}
			if bytes := min(max(keep, 0), behind); turn >= 1 && turn <= 255 && stay > 0 && int64(len(logOf(ops[:stay]...))) == bytes {
				stay--
			}
			all := append([]impl.StoreOp{first}, ops[:stay]...)
			run := append(doing(first), syncing)
			run = append(append(run, doing(ops...)...), impl.DiskOp{Kind: impl.DkCrash, Keep: keep, Turn: turn, Op: create("b")})
			want := impl.DiskRun{Store: behindAll(all...), Disk: synced(logOf(all...)), Outs: []impl.DiskOut{
				{Out: toldUids(1), Held: 1}, {Held: 1}, {Held: 2}, {Out: toldUids(1), Held: 3}, {Out: toldUids(1), Held: 4}, {Held: int64(1 + stay)},
			}}
			checkDisk(t, fmt.Sprint("Keep ", keep, ", Turn ", turn), impl.Disk{}, run, want)
		}
	}
}

func TestRunDiskCrashes(t *testing.T) {
	a, b, c := create("a"), create("b"), create("c")
	size := int64(len(framed(a)))
	do := doing(a, b, c)
	for _, r := range []struct {
		what string
		ops  []impl.DiskOp
		stay []impl.StoreOp
		held []int64
	}{
		{"at once", []impl.DiskOp{crashing(0, 0), crashing(5, 5)}, nil, []int64{0, 0}},
		{"none stays", []impl.DiskOp{do[0], crashing(0, 0)}, nil, []int64{1, 0}},
		{"none stays to be turned", []impl.DiskOp{do[0], syncing, do[1], crashing(0, 255)}, []impl.StoreOp{a}, []int64{1, 1, 2, 1}},
		{"nothing is behind what is synced", []impl.DiskOp{do[0], syncing, crashing(99, 1)}, []impl.StoreOp{a}, []int64{1, 1, 1}},
		{"a crash behind a crash", []impl.DiskOp{do[0], do[1], crashing(size, 0), crashing(0, 0), crashing(1, 1)}, []impl.StoreOp{a}, []int64{1, 2, 1, 1, 1}},
		{"what stays is synced", []impl.DiskOp{do[0], do[1], crashing(2*size, 0), do[2], crashing(0, 0)}, []impl.StoreOp{a, b}, []int64{1, 2, 2, 3, 2}},
		{"a place is taken again", []impl.DiskOp{do[0], do[1], crashing(size+3, 0), do[2], crashing(size, 0)}, []impl.StoreOp{a, c}, []int64{1, 2, 1, 2, 2}},
		{"one that is gone is done again", []impl.DiskOp{do[0], do[1], crashing(size, 7), do[0], do[1]}, []impl.StoreOp{a, b}, []int64{1, 2, 0, 1, 2}},
		{"one is turned, the one ahead stays", []impl.DiskOp{do[0], do[1], crashing(2*size, 7), do[2]}, []impl.StoreOp{a, c}, []int64{1, 2, 1, 2}},
		{"a byte is turned by its own number", []impl.DiskOp{do[0], doing(putMail(1, "m"))[0], crashing(999, 'm'), do[2]}, []impl.StoreOp{a, c}, []int64{1, 2, 1, 2}},
		{"a byte of the next one is turned", []impl.DiskOp{do[0], do[1], crashing(size+1, 7), do[2]}, []impl.StoreOp{a, c}, []int64{1, 2, 1, 2}},
	} {
		got := impl.RunDisk(impl.Disk{}, r.ops)
		var held []int64
		for _, out := range got.Outs {
			held = append(held, out.Held)
		}
		wantNumbers(t, "Held", r.what, held, r.held)
		if !sameStores(got.Store, behindAll(r.stay...)) || got.Disk.Data != logOf(r.stay...) {
			t.Errorf("%s: store %s, disk %s", r.what, shown(got.Store), short(got.Disk.Data))
		}
		checkDiskRun(t, r.what, got, slowRunDisk(impl.Disk{}, r.ops))
	}
}

// diskOps are made up for a disk as it is: most of them are done, now and then all is synced, or the disk crashes.
func (d *dice) diskOps(disk impl.Disk, size int) []impl.DiskOp {
	slow := slowDisk{Disk: disk}
	slow.open()
	var ops []impl.DiskOp
	for range size {
		op := impl.DiskOp{Kind: impl.DkDo, Op: d.storeOp(slow.store)}
		switch d.below(10) {
		case 0:
			op.Kind = impl.DkSync
		case 1:
			behind := len(slow.Data) - int(slow.Synced)
			op.Kind, op.Keep, op.Turn = impl.DkCrash, int64(d.below(behind+20)-5), int64(max(0, d.below(400)-140))
		case 2:
			if d.below(5) == 0 {
				op.Kind = int64(d.below(9) - 2)
			}
		}
		slow.do(op)
		ops = append(ops, op)
	}
	return ops
}

// startDisks have nothing, a log, a log with bytes behind it, and hardly any room.
func startDisks() []impl.Disk {
	full, _ := fullLog(maxDisk - 1500)
	boxes := logOf(create("a"), create("b"), putMail(1, "hello", `\Seen`), putMail(2, "m", `\Deleted`), copying("INBOX", "a", 1, 2), create("a"))
	return []impl.Disk{{}, synced(boxes), {Data: boxes + framed(create("z"))[:20], Synced: 7}, synced(full), {Data: full + xs(1500)}}
}

// TestRunDisksOfAnyOps holds made-up runs against the slow ones, whole and cut in two.
func TestRunDisksOfAnyOps(t *testing.T) {
	d := &dice{state: 1506}
	codes := map[[2]int64]int{}
	for _, disk := range startDisks() {
		for range 6 {
			ops := d.diskOps(disk, 120)
			want := slowRunDisk(disk, ops)
			checkDiskRun(t, "made up", impl.RunDisk(disk, ops), want)
			for at, out := range want.Outs {
				codes[[2]int64{ops[at].Kind, out.Code}]++
			}
			cut := d.below(len(ops))
			first := impl.RunDisk(disk, ops[:cut])
			checkDiskRun(t, "a first part", first, slowRunDisk(disk, ops[:cut]))
			checkDiskRun(t, "a second part", impl.RunDisk(first.Disk, ops[cut:]), slowRunDisk(first.Disk, ops[cut:]))
		}
	}
	for _, code := range []int64{impl.OK, impl.ErrForm, impl.ErrNone, impl.ErrState, impl.ErrFull, impl.ErrRight} {
		if codes[[2]int64{impl.DkDo, code}] < 10 {
			t.Errorf("the code %d came %d times", code, codes[[2]int64{impl.DkDo, code}])
		}
	}
	if codes[[2]int64{impl.DkSync}] < 100 || codes[[2]int64{impl.DkCrash}] < 100 {
		t.Errorf("too few syncs or crashes: %v", codes)
	}
}

// checkCrashes walks along a run, and looks at the store behind each of its crashes: it is that of the first operations
// that were done, and all that were synced are among them.
func checkCrashes(t *testing.T, disk impl.Disk, ops []impl.DiskOp) (lost int) {
	t.Helper()
	done := impl.ReadLog(disk.Data).Ops
	safe := len(done)
	run := impl.RunDisk(disk, ops)
	for at, op := range ops {
		held := int(run.Outs[at].Held)
		switch {
		case op.Kind == impl.DkDo && run.Outs[at].Code == impl.OK:
			done = append(done, op.Op)
		case op.Kind == impl.DkSync:
			safe = len(done)
		case op.Kind == impl.DkCrash:
			if held < safe || held > len(done) {
				t.Fatalf("behind a crash with Keep %d, Turn %d the log has %d operations of %d, of which %d were synced", op.Keep, op.Turn, held, len(done), safe)
			}
			lost += len(done) - held
			done, safe = done[:held:held], held
			crashed := impl.RunDisk(disk, ops[:at+1])
			if !sameStores(crashed.Store, impl.RunStore(impl.StoreStart(), done).Store) {
				t.Fatalf("behind a crash with Keep %d, Turn %d the store is not that of the first %d operations", op.Keep, op.Turn, held)
			}
			if again := impl.OpenLog(crashed.Disk.Data); !sameStores(crashed.Store, again) {
				t.Fatalf("behind a crash with Keep %d, Turn %d the disk has another store", op.Keep, op.Turn)
			}
		}
		if held != len(done) {
			t.Fatalf("%d operations are held, %d were done", held, len(done))
		}
	}
	return lost
}

func TestPromise21(t *testing.T) {
	d := &dice{state: 1521}
	for _, disk := range startDisks() {
		lost := 0
		for range 6 {
			lost += checkCrashes(t, disk, d.diskOps(disk, 100))
		}
		if lost < 10 {
			t.Errorf("only %d operations were lost", lost)
		}
	}
}

// TestPromise21AtEachByte crashes at each byte behind what is synced, and turns it into each other one.
func TestPromise21AtEachByte(t *testing.T) {
	ops := doing(putMail(1, "m"), create("a"), flagging(impl.StSet, 0, ids(1), "x"), copying("INBOX", "a", 1), putMail(2, ""))
	for place := range ops {
		run := slices.Insert(slices.Clone(ops), place, syncing)
		var behind int64
		for _, op := range ops[place:] {
			behind += int64(len(framed(op.Op)))
		}
		for keep := range behind + 2 {
			for turn := range int64(257) {
				if place > 0 && turn%5 > 0 {
					continue
				}
				checkCrashes(t, impl.Disk{}, append(slices.Clone(run), crashing(keep, turn)))
			}
		}
	}
}

func TestDisksShareNothing(t *testing.T) {
	d := &dice{state: 1507}
	for _, disk := range startDisks() {
		for range 5 {
			diskOps := d.diskOps(disk, 60)
			var given []impl.StoreOp
			for _, op := range diskOps {
				given = append(given, op.Op)
			}
			given = roomyOps(given)
			for at := range diskOps {
				diskOps[at].Op = given[at]
			}
			diskOps = append(diskOps, crashing(7, 7), syncing)[:len(diskOps)]
			seenOps, seenDisk := opsWithRoom(given), slices.Clone(diskOps[:len(diskOps)+2])
			data := strings.Clone(disk.Data)
			run := impl.RunDisk(impl.Disk{Data: disk.Data, Synced: disk.Synced}, diskOps)
			for _, op := range given {
				impl.EncodeOp(op)
			}
			opLists, opTexts := opSpans(given)
			opLists, opTexts = append(opLists, spanOf(diskOps)), append(opTexts, textSpan(disk.Data))
			lists, texts := storeSpans(run.Store)
			lists, texts = append(lists, spanOf(run.Outs)), append(texts, textSpan(run.Disk.Data))
			for _, out := range run.Outs {
				lists = append(lists, spanOf(out.Out.Uids), spanOf(out.Out.Failed))
			}
			wantEachApart(t, "lists of a run", lists)
			wantApartFrom(t, "lists of a run", lists, opLists)
			wantApartFrom(t, "texts of a run", texts, opTexts)
			sameDiskOps := func(a, b impl.DiskOp) bool {
				return a.Kind == b.Kind && a.Keep == b.Keep && a.Turn == b.Turn && sameOps(a.Op, b.Op)
			}
			if data != disk.Data || !slices.EqualFunc(seenOps, opsWithRoom(given), sameOps) || !slices.EqualFunc(seenDisk, diskOps[:len(diskOps)+2], sameDiskOps) {
				t.Fatalf("an argument has changed")
			}
		}
	}
}

func TestLogsShareNothing(t *testing.T) {
	data := logOf(append(someOps(), greatestOp())...)
	given := []span{textSpan(data)}
	lists, texts := opSpans(impl.ReadLog(data).Ops)
	wantEachApart(t, "lists of a log", lists)
	wantApartFrom(t, "texts of a log", texts, given)
	_, texts = storeSpans(impl.OpenLog(data))
	wantApartFrom(t, "texts of a store", texts, given)
	for _, op := range someOps() {
		text := slowEncode(op)
		lists, texts = opSpans([]impl.StoreOp{impl.DecodeOp(text, 0).Op})
		wantEachApart(t, "lists of an operation", lists)
		wantApartFrom(t, "texts of an operation", texts, []span{textSpan(text)})
	}
	op := impl.StoreOp{Kind: 1, Message: xs(500)}
	wantApartFrom(t, "EncodeOp", []span{textSpan(impl.EncodeOp(op))}, []span{textSpan(op.Message)})
	wantApartFrom(t, "PutFrame", []span{textSpan(impl.PutFrame(op.Message))}, []span{textSpan(op.Message)})
}

// TestRunDiskLong does as much as one run can: a full disk with a great store, and operations that are lost again.
func TestRunDiskLong(t *testing.T) {
	ops := slices.Repeat([]impl.StoreOp{putMail(1, "m")}, maxMails)
	for box := range maxBoxes - 1 {
		name := fmt.Sprint("b", box)
		ops = append(ops, create(name), copying("INBOX", name, upTo(1, maxMails)...))
	}
	lost := flagging(impl.StAdd, 0, upTo(1, maxMails), manyFlags(0, 10)...)
	log := logOf(ops...)
	none := putMail(1, "")
	none.Box = "none"
	for room := maxDisk - len(log) - len(framed(lost)) - 2*len(framed(none)); room > 0; room -= 50000 + len(framed(none)) {
		none.Message = xs(min(room, 50000))
		log += framed(none)
	}
	start := impl.RunDisk(synced(log), nil)
	var run []impl.DiskOp
	for len(run) < maxOps {
		run = append(run, doing(lost)[0], crashing(1000, 0))
	}
	got := impl.RunDisk(synced(log), run)
	held := int64(len(slowLog(log).Ops))
	for at, out := range got.Outs {
		if out.Code != impl.OK || out.Held != held+int64(1-at%2) || len(out.Out.Uids) != maxMails*(1-at%2) {
			t.Fatalf("operation %d: %d, %d held, want %d", at, out.Code, out.Held, held)
		}
	}
	if len(got.Outs) != maxOps || got.Disk != start.Disk || !sameStores(got.Store, start.Store) {
		t.Fatalf("%d outs, disk of %d bytes", len(got.Outs), len(got.Disk.Data))
	}
}

func TestRunDiskAgain(t *testing.T) {
	d := &dice{state: 1508}
	for _, disk := range startDisks() {
		ops := d.diskOps(disk, 100)
		first := impl.RunDisk(disk, ops)
		for range 5 {
			if again := impl.RunDisk(disk, ops); !sameDiskRuns(first, again) {
				t.Fatalf("a run answers %s, then %s", shown(first), shown(again))
			}
		}
	}
}
