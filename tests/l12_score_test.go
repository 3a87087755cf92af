package tests

import (
	"cmp"
	"fmt"
	"math"
	"math/big"
	"regexp"
	"slices"
	"strings"
	"testing"

	"loop.example/g00013/impl"
)

const (
	maxScoreWords   = 1000
	maxMessageWords = 300
	maxTrained      = 1000000
	maxChosen       = 8
	maxScoreDen     = 20000000000000000
)

func TestScoreConstants(t *testing.T) {
	got := []int64{impl.MaxScoreWords, impl.MaxMessageWords, impl.MaxTrained, impl.MaxChosen}
	wantNumbers(t, "constants", "", got, []int64{maxScoreWords, maxMessageWords, maxTrained, maxChosen})
}

func seen(word string, good, bad int64) impl.WordCount {
	return impl.WordCount{Word: word, Good: good, Bad: bad}
}

func scores(good, bad int64, words ...impl.WordCount) impl.ScoreTable {
	return impl.ScoreTable{Good: good, Bad: bad, Words: words}
}

// numberedWord rises with the number.
func numberedWord(number int) string { return fmt.Sprintf("w%04d", number) }

func numberedWords(from, end int) []string {
	var words []string
	for number := from; number < end; number++ {
		words = append(words, numberedWord(number))
	}
	return words
}

// greatTable has so many words, each in one message of each kind.
func greatTable(good, bad int64, size int) impl.ScoreTable {
	table := scores(good, bad)
	for _, word := range numberedWords(0, size) {
		table.Words = append(table.Words, seen(word, min(good, 1), min(bad, 1)))
	}
	return table
}

// plain is a message without fields.
func plain(words ...string) string { return "\r\n" + strings.Join(words, " ") }

func sameTables(a, b impl.ScoreTable) bool {
	return a.Good == b.Good && a.Bad == b.Bad && slices.Equal(a.Words, b.Words)
}

var scoreWord = regexp.MustCompile(`\A[a-z0-9]{3,20}\z`)

// slowTableFault asks of each word, and of each two of them.
func slowTableFault(table impl.ScoreTable) int64 {
	right := func(count, top int64) bool { return count >= 0 && count <= top }
	ok := right(table.Good, maxTrained) && right(table.Bad, maxTrained) && len(table.Words) <= maxScoreWords
	for at, word := range table.Words {
		ok = ok && scoreWord.MatchString(word.Word) && right(word.Good, table.Good) && right(word.Bad, table.Bad)
		ok = ok && (word.Good != 0 || word.Bad != 0)
		for _, later := range table.Words[at+1:] {
			ok = ok && strings.Compare(word.Word, later.Word) < 0
		}
	}
	if ok {
		return impl.OK
	}
	return impl.ErrForm
}

// checkTable holds a fault against what all functions that take a table answer.
func checkTable(t *testing.T, table impl.ScoreTable, want int64) {
	t.Helper()
	if got := impl.TableFault(table); got != want {
		t.Errorf("TableFault of %s: %d, want %d", shown(table), got, want)
	}
	if want == impl.OK {
		return
	}
	for _, bad := range []bool{false, true} {
		for _, message := range []string{"", plain("abc"), xs(maxText + 1)} {
			checkTrained(t, "Train", impl.Train(table, message, bad), impl.Trained{Code: impl.ErrForm})
			checkTrained(t, "Untrain", impl.Untrain(table, message, bad), impl.Trained{Code: impl.ErrForm})
			checkScore(t, table, message, impl.Score{})
		}
	}
	for _, word := range table.Words[:min(len(table.Words), 3)] {
		checkChance(t, table, word.Word, 50)
	}
	checkChance(t, table, "abc", 50)
}

func checkTrained(t *testing.T, call string, got, want impl.Trained) {
	t.Helper()
	if got.Code != want.Code || !sameTables(got.Table, want.Table) {
		t.Errorf("%s: %s, want %s", call, shown(got), shown(want))
	}
}

func checkChance(t *testing.T, table impl.ScoreTable, word string, want int64) {
	t.Helper()
	if got := impl.Chance(table, word); got != want {
		t.Errorf("Chance of %s in %s: %d, want %d", short(word), shown(table), got, want)
	}
}

func checkScore(t *testing.T, table impl.ScoreTable, message string, want impl.Score) {
	t.Helper()
	got := impl.ScoreOf(table, message)
	if got.Num != want.Num || got.Den != want.Den || !slices.Equal(got.Words, want.Words) {
		t.Errorf("ScoreOf of %s in %s: %s, want %s", short(message), shown(table), shown(got), shown(want))
	}
}

func TestTableFaultTotals(t *testing.T) {
	for _, count := range []int64{0, 1, 2, maxTrained - 1, maxTrained} {
		for _, other := range []int64{0, 1, maxTrained} {
			checkTable(t, scores(count, other), impl.OK)
			checkTable(t, scores(other, count), impl.OK)
		}
	}
	for _, wrong := range []int64{-1, maxTrained + 1, -2, 2 * maxTrained, -maxTrained, 1 << 32, 1<<32 + 1, math.MaxInt64, math.MinInt64, math.MinInt64 + 1} {
		for _, other := range []int64{0, 1, maxTrained, wrong} {
			checkTable(t, scores(wrong, other), impl.ErrForm)
			checkTable(t, scores(other, wrong), impl.ErrForm)
			checkTable(t, scores(wrong, other, seen("abc", 0, 1)), impl.ErrForm)
			checkTable(t, scores(other, wrong, seen("abc", 1, 0)), impl.ErrForm)
		}
	}
}

func TestTableFaultWordCount(t *testing.T) {
	for _, size := range []int{1, 2, maxScoreWords - 1, maxScoreWords} {
		checkTable(t, greatTable(1, 1, size), impl.OK)
		checkTable(t, greatTable(0, maxTrained, size), impl.OK)
	}
	checkTable(t, greatTable(1, 1, maxScoreWords+1), impl.ErrForm)
	checkTable(t, greatTable(maxTrained, 0, 2*maxScoreWords), impl.ErrForm)
}

func TestTableFaultWordSizes(t *testing.T) {
	for size := range 40 {
		want := int64(impl.ErrForm)
		if size >= 3 && size <= 20 {
			want = impl.OK
		}
		for _, text := range []string{xs(size), strings.Repeat("0", size), strings.Repeat("9a", size)[:size]} {
			checkTable(t, scores(1, 1, seen(text, 1, 1)), want)
		}
	}
	for _, size := range []int{255, 256 + 3, 1000, maxText, maxText + 1} {
		checkTable(t, scores(1, 1, seen(xs(size), 1, 1)), impl.ErrForm)
	}
	// Sizes are counted in bytes.
	checkTable(t, scores(1, 1, seen("éa", 1, 1)), impl.ErrForm)
}

func TestTableFaultWordBytes(t *testing.T) {
	for b := range 256 {
		want := int64(impl.ErrForm)
		if strings.Contains("abcdefghijklmnopqrstuvwxyz0123456789", string(rune(b))) {
			want = impl.OK
		}
		for _, text := range []string{"mmm", "0000", strings.Repeat("a9", 10)} {
			for at := range len(text) {
				turned := text[:at] + string([]byte{byte(b)}) + text[at+1:]
				if got := impl.TableFault(scores(1, 0, seen(turned, 1, 0))); got != want {
					t.Errorf("TableFault with the word %q: %d, want %d", turned, got, want)
				}
			}
		}
	}
	for _, wrong := range []string{"ab`", "ab{", "ab/", "ab:", "abC", "abA", "abZ", "ab[", "ab@", "`bc", "{bc", "a/c", "a:c", "abé", "ab\x00", "ab\xff", "ab ", " abc", "abc\n", "\nabc"} {
		checkTable(t, scores(1, 1, seen(wrong, 1, 0)), impl.ErrForm)
		checkTable(t, scores(1, 1, seen("aaa", 1, 0), seen("bbb", 1, 0), seen(wrong, 1, 0)), impl.ErrForm)
	}
}

func TestTableFaultOrder(t *testing.T) {
	for _, c := range []struct {
		words []string
		want  int64
	}{
		{some("abc", "abd"), impl.OK},
		{some("abc", "abc"), impl.ErrForm},
		{some("abd", "abc"), impl.ErrForm},
		{some("abc", "abcd"), impl.OK},
		{some("abcd", "abc"), impl.ErrForm},
		{some("abc", "abc0"), impl.OK},
		{some("abcd", "abd"), impl.OK},
		{some("abd", "abcd"), impl.ErrForm},
		{some("999", "aaa"), impl.OK},
		{some("aaa", "999"), impl.ErrForm},
		{some("10000", "200"), impl.OK},
		{some("200", "10000"), impl.ErrForm},
		{some("abc", "bcd", "cde"), impl.OK},
		{some("abc", "bcd", "bcd"), impl.ErrForm},
		{some("bcd", "bcd", "cde"), impl.ErrForm},
		{some("abc", "cde", "bcd"), impl.ErrForm},
		{some("bcd", "abc", "cde"), impl.ErrForm},
		{some("abc", "cde", "abc"), impl.ErrForm},
	} {
		table := scores(1, 1)
		for _, word := range c.words {
			table.Words = append(table.Words, seen(word, 1, 0))
		}
		checkTable(t, table, c.want)
	}
	last := greatTable(1, 1, maxScoreWords)
	last.Words[maxScoreWords-1].Word = last.Words[maxScoreWords-2].Word
	checkTable(t, last, impl.ErrForm)
}

func TestTableFaultCounts(t *testing.T) {
	for _, c := range []struct {
		good, bad int64
		want      int64
	}{
		{5, 2, impl.OK},
		{5, 0, impl.OK},
		{0, 2, impl.OK},
		{1, 0, impl.OK},
		{0, 1, impl.OK},
		{0, 0, impl.ErrForm},
		{6, 2, impl.ErrForm},
		{5, 3, impl.ErrForm},
		{0, 3, impl.ErrForm},
		{6, 0, impl.ErrForm},
		{2, 5, impl.ErrForm},
		{-1, 2, impl.ErrForm},
		{5, -1, impl.ErrForm},
		{-1, 0, impl.ErrForm},
		{0, -1, impl.ErrForm},
		{-1, 1, impl.ErrForm},
		{1, -1, impl.ErrForm},
		{-1, -1, impl.ErrForm},
		{1 << 32, 0, impl.ErrForm},
		{1, 1 << 32, impl.ErrForm},
		{math.MaxInt64, 1, impl.ErrForm},
		{1, math.MaxInt64, impl.ErrForm},
		{math.MinInt64, 1, impl.ErrForm},
		{1, math.MinInt64, impl.ErrForm},
	} {
		checkTable(t, scores(5, 2, seen("mmm", c.good, c.bad)), c.want)
		checkTable(t, scores(5, 2, seen("mmm", c.good, c.bad), seen("nnn", 1, 1)), c.want)
		checkTable(t, scores(5, 2, seen("lll", 1, 1), seen("mmm", c.good, c.bad), seen("nnn", 1, 1)), c.want)
		checkTable(t, scores(5, 2, seen("lll", 1, 1), seen("mmm", c.good, c.bad)), c.want)
	}
	checkTable(t, scores(0, 0, seen("abc", 0, 0)), impl.ErrForm)
	checkTable(t, scores(0, 0, seen("abc", 1, 0)), impl.ErrForm)
	checkTable(t, scores(0, 1, seen("abc", 1, 0)), impl.ErrForm)
	checkTable(t, scores(1, 0, seen("abc", 0, 1)), impl.ErrForm)
	checkTable(t, scores(maxTrained, maxTrained, seen("abc", maxTrained, maxTrained)), impl.OK)
	checkTable(t, scores(maxTrained, maxTrained, seen("abc", maxTrained+1, 0)), impl.ErrForm)
	checkTable(t, scores(maxTrained, maxTrained, seen("abc", 0, maxTrained+1)), impl.ErrForm)
}

var tableWords = []string{"abc", "abd", "abcd", "bcd", "000", "a0a", "999", "zzz", "zzzz", "buy", "now", "pills", "hello", "mmm", "mmn"}

// table is a right one, of some of the words.
func (d *dice) table(words []string) impl.ScoreTable {
	sizes := []int{0, 1, 2, 3, 4, 10, maxTrained - 1, maxTrained}
	table := scores(int64(sizes[d.below(len(sizes))]), int64(sizes[d.below(len(sizes))]))
	for _, word := range slices.Sorted(slices.Values(words)) {
		added := seen(word, d.countUpTo(table.Good), d.countUpTo(table.Bad))
		if d.below(3) > 0 && (added.Good > 0 || added.Bad > 0) {
			table.Words = append(table.Words, added)
		}
	}
	return table
}

// countUpTo likes the ends.
func (d *dice) countUpTo(top int64) int64 {
	switch d.below(5) {
	case 0:
		return 0
	case 1:
		return top
	case 2:
		return max(top-1, 0)
	}
	return int64(d.below(int(min(top, 5) + 1)))
}

func TestTableFaultOfTurnedTables(t *testing.T) {
	d := &dice{state: 1200}
	wrong := 0
	for range 3000 {
		table := d.table(tableWords)
		for range d.below(3) {
			number := []int64{-1, 0, 1, table.Good, table.Bad, table.Good + 1, table.Bad + 1, maxTrained + 1}[d.below(8)]
			switch at := d.below(len(table.Words) + 1); {
			case at == len(table.Words) && d.below(2) == 0:
				table.Good = number
			case at == len(table.Words):
				table.Bad = number
			case d.below(3) == 0:
				table.Words[at].Word = d.pick("ab", "abc", "mmm", "zzzz", "aBc", xs(20), xs(21))
			case d.below(2) == 0:
				table.Words[at].Good = number
			default:
				table.Words[at].Bad = number
			}
		}
		want := slowTableFault(table)
		if want != impl.OK {
			wrong++
		}
		if got := impl.TableFault(table); got != want {
			t.Errorf("TableFault of %s: %d, want %d", shown(table), got, want)
		}
	}
	if wrong < 500 || wrong > 2500 {
		t.Errorf("%d wrong ones", wrong)
	}
}

func checkWordsOf(t *testing.T, message string, want ...string) {
	t.Helper()
	if got := impl.WordsOf(message); !slices.Equal(got, want) {
		t.Errorf("WordsOf of %s: %s, want %s", short(message), shown(got), shown(want))
	}
}

func TestWordsOfBodies(t *testing.T) {
	for _, c := range []struct {
		body string
		want []string
	}{
		{"", nil},
		{"abc", some("abc")},
		{"ab", nil},
		{"a b c", nil},
		{"ab abc abcd", some("abc", "abcd")},
		{xs(19) + " " + xs(20) + " " + xs(21), some(xs(19), xs(20))},
		// Nothing of a longer run is a word.
		{xs(21), nil},
		{xs(41) + " abc", some("abc")},
		{xs(50000), nil},
		{strings.Repeat("0", 20) + "/" + strings.Repeat("1", 21), some(strings.Repeat("0", 20))},
		{"Buy NOW bUY nOw", some("buy", "now")},
		{"AZaz09", some("azaz09")},
		{"AAA ZZZ aaa zzz 000 999", some("aaa", "zzz", "000", "999")},
		{"@@@ [[[ ``` {{{ /// :::", nil},
		{"abc@def[ghi`jkl{mno/pqr:stu", some("abc", "def", "ghi", "jkl", "mno", "pqr", "stu")},
		{"a-b-c don't e_mail", some("don", "mail")},
		{"abc\r\ndef\nghi\tjkl\x00mno\x7fpqr", some("abc", "def", "ghi", "jkl", "mno", "pqr")},
		{"zzz abc zzz ABC abd", some("zzz", "abc", "abd")},
		{" abc ", some("abc")},
		{".abc", some("abc")},
		{"abc.", some("abc")},
		{"ab.c", nil},
		{"x9z 123 12", some("x9z", "123")},
		{"abc\r\n", some("abc")},
	} {
		checkWordsOf(t, "\r\n"+c.body, c.want...)
		checkWordsOf(t, "To: someone@somewhere\r\nX-Other: word\r\n\r\n"+c.body, c.want...)
		checkWordsOf(t, "Content-Transfer-Encoding: base64\r\n\r\n"+impl.Base64(c.body), c.want...)
		checkWordsOf(t, "Content-Transfer-Encoding: quoted-printable\r\n\r\n"+impl.Quoted(c.body), c.want...)
		checkWordsOf(t, "Subject: first\r\n\r\n"+c.body, append(some("first"), c.want...)...)
	}
}

func TestWordsOfEachByte(t *testing.T) {
	for b := range 256 {
		sign := string([]byte{byte(b)})
		lower := strings.ToLower(sign)
		want, body := some("abc", "def"), "abc"+sign+"def"
		if regexp.MustCompile(`\A[a-z0-9]\z`).MatchString(lower) && b < 128 {
			want = some("abc" + lower + "def")
		}
		checkWordsOf(t, "Content-Type: text/plain; charset=latin1\r\n\r\n"+body, want...)
		if b > 127 {
			want = nil
		}
		checkWordsOf(t, "\r\n"+body, want...)
	}
}

func TestWordsOfSets(t *testing.T) {
	in := func(set, body string) string { return "Content-Type: text/plain; charset=" + set + "\r\n\r\n" + body }
	checkWordsOf(t, in("utf-8", "café bar crèmes brûler"), "caf", "bar", "mes", "ler")
	checkWordsOf(t, in("UTF8", "éabcédefé"), "abc", "def")
	checkWordsOf(t, in("latin1", "abc\xe9def \xe9ghi"), "abc", "def", "ghi")
	checkWordsOf(t, in("iso-8859-15", "abc\xa4def\xbdghi"), "abc", "def", "ghi")
	checkWordsOf(t, in("utf-16be", "\x00A\x00b\x00c\x01a\x00d\x00e\x00f"), "abc", "def")
	checkWordsOf(t, in("utf-16be", "a\x00b\x00c\x00"))
	checkWordsOf(t, in("utf-16be", "\x00A\x00b\x00c\x00"))
	checkWordsOf(t, in("us-ascii", "abc\xc3\xa9def"))
	checkWordsOf(t, in("ascii", "abc def"), "abc", "def")
	checkWordsOf(t, in("utf-8", "abc \xff def"))
	checkWordsOf(t, in("koi8-r", "abc def"))
	checkWordsOf(t, in("\"\"", "abc def"))
	checkWordsOf(t, "Subject: abc\r\n"+in("koi8-r", "def"), "abc")
	checkWordsOf(t, "Content-Type: image/png\r\n\r\nabc def")
	checkWordsOf(t, "Content-Type: application/text\r\n\r\nabc def")
	checkWordsOf(t, "Content-Type: text/html\r\n\r\n<b>abc</b>", "abc")
	checkWordsOf(t, "Content-Type: ;\r\n\r\nabc def", "abc", "def")
	checkWordsOf(t, "Content-Transfer-Encoding: base64\r\n\r\n@@@@ abc")
	checkWordsOf(t, "Content-Transfer-Encoding: uuencode\r\n\r\nabc def")
	checkWordsOf(t, "Content-Transfer-Encoding: quoted-printable\r\n\r\n=61bc =xx")
	checkWordsOf(t, "Content-Transfer-Encoding: quoted-printable\r\n\r\n=61b=\r\nc d=65f", "abc", "def")
}

// TestWordsOfPointsAbove has points that are letters in fewer bits, or have one as their small letter.
func TestWordsOfPointsAbove(t *testing.T) {
	head := "Content-Type: text/plain; charset=utf-8\r\n\r\n"
	for _, point := range []rune{128, 256 + 'a', 256 + 'Z', 256 + '0', 512 + 'A', 65536 + 'a', 65536 + '9', 8490, 383, 'ª', 'é', 65313, 65345, 65305, 1635, 0x10FF61, 65533} {
		for _, word := range []string{string(point), strings.Repeat(string(point), 3), strings.Repeat(string(point), 20)} {
			checkWordsOf(t, head+word)
			checkWordsOf(t, head+"abc"+word+"def", "abc", "def")
			checkWordsOf(t, "Subject: abc"+word+"def\r\n\r\n", "abc", "def")
		}
		checkWordsOf(t, head+"ab"+string(point)+"c")
	}
}

func TestWordsOfSubjects(t *testing.T) {
	for _, c := range []struct {
		subject string
		want    []string
	}{
		{"Subject: Re: Buy NOW", some("buy", "now")},
		{"SUBJECT:abc", some("abc")},
		{"Subject: re: fwd: abc (fwd)", some("abc")},
		{"Subject: aw: fwds: abc", some("fwds", "abc")},
		{"Subject: ", nil},
		{"Subject: ab", nil},
		{"Subject: " + xs(20), some(xs(20))},
		{"Subject: " + xs(21), nil},
		{"Subject: one, two; ONE", some("one", "two")},
		{"Subject: one\r\n two\r\nSubject: three", some("one", "two")},
		{"Subject: long\r\n\tword", some("long", "word")},
		{"Subject: =?utf-8?Q?abc=C3=A9def?= ghi", some("abc", "def", "ghi")},
		{"Subject: =?utf-8?Q?abc?= =?utf-8?Q?def?=", some("abcdef")},
		{"Subject: abc\xe9def", some("abc", "def")},
		{"To: one\r\nX-Subject: two\r\nSubjects: three", nil},
		{"To: one\r\nSubject: two", some("two")},
	} {
		checkWordsOf(t, c.subject+"\r\n\r\n", c.want...)
		checkWordsOf(t, c.subject+"\r\n\r\nin body", append(slices.Clone(c.want), "body")...)
	}
	// The subject's run ends with it.
	checkWordsOf(t, "Subject: ab\r\n\r\ncd")
	checkWordsOf(t, "Subject: abc\r\n\r\ndef", "abc", "def")
	checkWordsOf(t, "Subject: abc\r\n\r\nabc", "abc")
	checkWordsOf(t, "Subject: Now abc\r\n\r\ndef ABC now ghi", "now", "abc", "def", "ghi")
}

func TestWordsOfIllMessages(t *testing.T) {
	checkWordsOf(t, "")
	checkWordsOf(t, "\r\n")
	checkWordsOf(t, "no field here")
	checkWordsOf(t, "Subject: one\r\nno field here\r\n\r\nbody")
	checkWordsOf(t, "Subject: one\r\nTo: x", "one")
	// With too many parts there are none, but there is a subject.
	checkWordsOf(t, "Subject: one two\r\n"+tooManyParts(), "one", "two")
}

func TestWordsOfParts(t *testing.T) {
	made := []impl.Made{
		multi(0),
		leaf(1, impl.CodedNone, "one two"),
		{Depth: 1, Content: content("image", "png"), Coded: impl.CodedBase64, Data: "three"},
		leaf(1, impl.CodedBase64, "Two four"),
		multi(1),
		leaf(2, impl.CodedQuoted, "five = ONE"),
		{Depth: 2, Content: content("text", "html", "charset", "utf-16be"), Coded: impl.CodedBase64, Data: "\x00s\x00i\x00x"},
		{Depth: 2, Content: content("text", "plain", "charset", "nothing"), Data: "seven"},
		leaf(1, impl.CodedNone, "eight\xff"),
		leaf(1, impl.CodedNone, "nine"),
	}
	message := impl.BuildMessage(fields("Subject", " Fwd: zero, nine"), made)
	if list := impl.ReadParts(message); len(list.Parts) != len(made) {
		t.Fatalf("ReadParts of %s: %s", short(message), shown(list))
	}
	checkWordsOf(t, message, "zero", "nine", "one", "two", "four", "five", "six")
	// A run ends with its part.
	checkWordsOf(t, impl.BuildMessage(nil, []impl.Made{multi(0), leaf(1, 0, "ab"), leaf(1, 0, "cd"), leaf(1, 0, "abc"), leaf(1, 0, "def")}), "abc", "def")
	// What stands around the parts is in none of them.
	checkWordsOf(t, mixed+"before\r\n--b\r\n\r\ninside\r\n--b--\r\nbehind", "inside")
	// Of a message within, the text counts, and no field.
	checkWordsOf(t, "Subject: outer\r\n"+inMessage+"Subject: inner\r\nTo: someone\r\n\r\ntext", "outer", "text")
	checkWordsOf(t, "Subject: outer\r\n"+mixed+"--b\r\nSubject: inner\r\n\r\ntext\r\n--b--", "outer", "text")
	// A part that was to have children and has none is no text.
	checkWordsOf(t, mixed+"nothing here")
}

func TestWordsOfMany(t *testing.T) {
	all := numberedWords(0, maxMessageWords+100)
	top := all[:maxMessageWords]
	checkWordsOf(t, plain(all[:maxMessageWords-1]...), all[:maxMessageWords-1]...)
	checkWordsOf(t, plain(top...), top...)
	checkWordsOf(t, plain(all[:maxMessageWords+1]...), top...)
	checkWordsOf(t, plain(all...), top...)
	// Ones that have come do not count again.
	checkWordsOf(t, plain(append(slices.Clone(all[:maxMessageWords-1]), all[0], all[5], all[0], "last", "none")...), append(slices.Clone(all[:maxMessageWords-1]), "last")...)
	checkWordsOf(t, plain(append(slices.Clone(top), all[0], "none")...), top...)
	checkWordsOf(t, "Subject: "+strings.Join(all[:200], "\r\n ")+"\r\n\r\n"+strings.Join(all[150:], " "), top...)
	checkWordsOf(t, "Subject: last\r\n\r\n"+strings.Join(all, " "), append(some("last"), all[:maxMessageWords-1]...)...)
	checkWordsOf(t, impl.BuildMessage(nil, []impl.Made{multi(0), leaf(1, 0, strings.Join(all[:299], " ")), leaf(1, 0, strings.Join(all[200:302], " ")), leaf(1, 0, "none")}), top...)
}

func TestWordsOfSizes(t *testing.T) {
	for _, size := range []int{maxText - 1, maxText, maxText + 1, maxText + 2, 2 * maxText} {
		message := "Subject: one\r\n\r\ntwo " + xs(size)
		message = message[:size-4] + " end"
		want := some("one", "two", "end")
		if size > maxText {
			want = nil
		}
		checkWordsOf(t, message, want...)
	}
}

// slowWords takes the runs of what is said, point by point, as regular expressions see them.
func slowWords(message string) []string {
	said := []string{impl.SubjectOf(message)}
	// What is no character is no letter, either.
	said[0] = strings.Map(func(r rune) rune { return min(r, 128) }, said[0])
	for number := range impl.ReadParts(message).Parts {
		var text strings.Builder
		for _, point := range impl.PartText(message, int64(number)).Points {
			text.WriteRune(rune(min(point, 128)))
		}
		said = append(said, text.String())
	}
	var words []string
	for _, run := range regexp.MustCompile(`[A-Za-z0-9]+`).FindAllString(strings.Join(said, "\n"), -1) {
		run = strings.ToLower(run)
		if scoreWord.MatchString(run) && !slices.Contains(words, run) {
			words = append(words, run)
		}
	}
	return words[:min(len(words), maxMessageWords)]
}

var scorePieces = []string{" ", " ", "\r\n", "abc", "Abd", "buy", "NOW", "pills", "hello", "zz", "zzz", "9", "00", "a", "é", "\xff", "-", xs(18), "mmm", "=20", "bcd ", " hello "}

// mail is a message with words in its subject and in its parts.
func (d *dice) mail() string {
	subject := strings.ReplaceAll(d.text(d.below(6), scorePieces), "\r\n", " ")
	head := "Subject: " + d.pick("", "re: ", "Fwd: ") + subject + "\r\n"
	switch d.below(6) {
	case 0:
		return "\r\n" + d.text(d.below(20), scorePieces)
	case 1:
		return head + "Content-Type: text/plain; charset=" + d.pick("latin1", "utf-8", "ascii", "other") + "\r\n\r\n" + d.text(d.below(20), scorePieces)
	case 2, 3:
		return head + mixed + "--b\r\n\r\n" + d.text(d.below(12), scorePieces) + "\r\n--b\r\nContent-Type: text/plain; charset=utf-8\r\n\r\n" + d.text(d.below(12), scorePieces) + "\r\n--b--"
	case 4:
		return head + "Content-Transfer-Encoding: quoted-printable\r\n\r\n" + d.text(d.below(20), scorePieces)
	}
	return head + inMessage + head + "\r\n" + d.text(d.below(12), scorePieces)
}

func TestWordsOfAnyMessage(t *testing.T) {
	d := &dice{state: 1201}
	found := 0
	for n := range 4000 {
		message := d.mail()
		if n%4 == 0 {
			message = d.anyMessage()
		}
		want := slowWords(message)
		found += len(want)
		checkWordsOf(t, message, want...)
	}
	if found < 8000 {
		t.Errorf("%d words", found)
	}
}

func TestTrainWords(t *testing.T) {
	base := scores(4, 3, seen("bbb", 1, 0), seen("ddd", 4, 3), seen("fff", 0, 2))
	for _, c := range []struct {
		table   impl.ScoreTable
		message string
		bad     bool
		want    impl.ScoreTable
	}{
		{scores(0, 0), plain("abc"), true, scores(0, 1, seen("abc", 0, 1))},
		{scores(0, 0), plain("abc"), false, scores(1, 0, seen("abc", 1, 0))},
		{scores(0, 0), plain("zzz", "abc", "mmm"), false, scores(1, 0, seen("abc", 1, 0), seen("mmm", 1, 0), seen("zzz", 1, 0))},
		{scores(0, 0), "", true, scores(0, 1)},
		{scores(0, 0), "no head", false, scores(1, 0)},
		{base, plain(), true, scores(4, 4, base.Words...)},
		{base, plain(), false, scores(5, 3, base.Words...)},
		{base, plain("no", "of", "it"), false, scores(5, 3, base.Words...)},
		{base, plain("aaa"), true, scores(4, 4, seen("aaa", 0, 1), seen("bbb", 1, 0), seen("ddd", 4, 3), seen("fff", 0, 2))},
		{base, plain("ccc"), false, scores(5, 3, seen("bbb", 1, 0), seen("ccc", 1, 0), seen("ddd", 4, 3), seen("fff", 0, 2))},
		{base, plain("zzz"), false, scores(5, 3, seen("bbb", 1, 0), seen("ddd", 4, 3), seen("fff", 0, 2), seen("zzz", 1, 0))},
		{base, plain("bbbb", "bb0"), true, scores(4, 4, seen("bb0", 0, 1), seen("bbb", 1, 0), seen("bbbb", 0, 1), seen("ddd", 4, 3), seen("fff", 0, 2))},
		{base, plain("bbb", "fff"), true, scores(4, 4, seen("bbb", 1, 1), seen("ddd", 4, 3), seen("fff", 0, 3))},
		{base, plain("fff", "BBB"), false, scores(5, 3, seen("bbb", 2, 0), seen("ddd", 4, 3), seen("fff", 1, 2))},
		// In one message a word counts once.
		{base, "Subject: ddd ddd\r\n\r\nddd DDD", false, scores(5, 3, seen("bbb", 1, 0), seen("ddd", 5, 3), seen("fff", 0, 2))},
		{base, "Subject: Re: eee\r\n\r\nggg ddd 000", true, scores(4, 4, seen("000", 0, 1), seen("bbb", 1, 0), seen("ddd", 4, 4), seen("eee", 0, 1), seen("fff", 0, 2), seen("ggg", 0, 1))},
		{scores(maxTrained-1, 5), plain("abc"), false, scores(maxTrained, 5, seen("abc", 1, 0))},
		{scores(5, maxTrained-1), plain("abc"), true, scores(5, maxTrained, seen("abc", 0, 1))},
		{scores(maxTrained, 5), plain("abc"), true, scores(maxTrained, 6, seen("abc", 0, 1))},
		{scores(5, maxTrained), plain("abc"), false, scores(6, maxTrained, seen("abc", 1, 0))},
		{scores(maxTrained-1, 0, seen("abc", maxTrained-1, 0)), plain("abc"), false, scores(maxTrained, 0, seen("abc", maxTrained, 0))},
	} {
		checkTrained(t, "Train of "+short(c.message), impl.Train(c.table, c.message, c.bad), impl.Trained{Table: c.want})
		checkTable(t, c.want, impl.OK)
	}
}

func TestTrainRefuses(t *testing.T) {
	long := xs(maxText + 1)
	fault := scores(0, 0, seen("abc", 1, 0))
	full := scores(maxTrained, maxTrained)
	for _, c := range []struct {
		table   impl.ScoreTable
		message string
		want    int64
	}{
		{fault, "", impl.ErrForm},
		{fault, long, impl.ErrForm},
		{scores(maxTrained+1, maxTrained+1), "", impl.ErrForm},
		{scores(0, 0), long, impl.ErrSize},
		{full, long, impl.ErrSize},
		{full, "", impl.ErrFull},
		{full, plain("abc"), impl.ErrFull},
		{greatTable(1, 1, maxScoreWords), plain("abc"), impl.ErrFull},
		{greatTable(1, 1, maxScoreWords), plain("zzz", numberedWord(0)), impl.ErrFull},
		{greatTable(1, 1, maxScoreWords-1), plain("abc", "abd"), impl.ErrFull},
		{greatTable(1, 1, maxScoreWords-1), plain("abc", numberedWord(4), "abd"), impl.ErrFull},
		{greatTable(maxTrained, maxTrained, maxScoreWords), plain("abc"), impl.ErrFull},
		{greatTable(1, 1, 701), plain(numberedWords(2000, 2300)...), impl.ErrFull},
	} {
		for _, bad := range []bool{false, true} {
			checkTrained(t, "Train", impl.Train(c.table, c.message, bad), impl.Trained{Code: c.want})
		}
	}
	// The count of the other kind does not matter.
	checkTrained(t, "Train", impl.Train(scores(maxTrained, 0), "", false), impl.Trained{Code: impl.ErrFull})
	checkTrained(t, "Train", impl.Train(scores(0, maxTrained), "", true), impl.Trained{Code: impl.ErrFull})
	checkTrained(t, "Train", impl.Train(scores(maxTrained, 0), "", true), impl.Trained{Table: scores(maxTrained, 1)})
	checkTrained(t, "Train", impl.Train(scores(0, maxTrained), "", false), impl.Trained{Table: scores(1, maxTrained)})
}

func TestTrainGreatTables(t *testing.T) {
	table := greatTable(1, 1, maxScoreWords-1)
	more := impl.Train(table, plain("abc", numberedWord(7)), true)
	want := greatTable(1, 2, maxScoreWords-1)
	want.Words[7].Bad = 2
	want.Words = slices.Insert(want.Words, 0, seen("abc", 0, 1))
	checkTrained(t, "Train", more, impl.Trained{Table: want})
	// A full table learns the words that it has.
	want.Good = 2
	want.Words[1].Good, want.Words[maxScoreWords-1].Good = 2, 2
	checkTrained(t, "Train", impl.Train(more.Table, plain(numberedWord(maxScoreWords-2), numberedWord(0)), false), impl.Trained{Table: want})
	checkTrained(t, "Train", impl.Train(more.Table, plain("abd"), false), impl.Trained{Code: impl.ErrFull})
	// Just so many words as there is room for.
	added := impl.Train(greatTable(1, 1, maxScoreWords-maxMessageWords), plain(numberedWords(2000, 2400)...), false)
	if added.Code != impl.OK || len(added.Table.Words) != maxScoreWords || added.Table.Words[maxScoreWords-1] != seen(numberedWord(2299), 1, 0) {
		t.Errorf("Train of many words: %s", shown(added))
	}
	// The longest message.
	message := "\r\nabc " + xs(maxText)
	checkTrained(t, "Train", impl.Train(scores(0, 0), message[:maxText], true), impl.Trained{Table: scores(0, 1, seen("abc", 0, 1))})
	checkTrained(t, "Train", impl.Train(scores(0, 0), message[:maxText+1], true), impl.Trained{Code: impl.ErrSize})
	checkTrained(t, "Untrain", impl.Untrain(scores(0, 1, seen("abc", 0, 1)), message[:maxText], true), impl.Trained{Table: scores(0, 0)})
	checkTrained(t, "Untrain", impl.Untrain(scores(0, 1, seen("abc", 0, 1)), message[:maxText+1], true), impl.Trained{Code: impl.ErrSize})
}

func TestUntrainWords(t *testing.T) {
	base := scores(4, 3, seen("bbb", 1, 0), seen("ddd", 3, 2), seen("fff", 0, 2), seen("hhh", 1, 1))
	for _, c := range []struct {
		table   impl.ScoreTable
		message string
		bad     bool
		want    impl.ScoreTable
	}{
		{scores(0, 1, seen("abc", 0, 1)), plain("abc"), true, scores(0, 0)},
		{scores(1, 0, seen("abc", 1, 0)), plain("abc"), false, scores(0, 0)},
		{scores(1, 1, seen("abc", 1, 1)), plain("abc"), false, scores(0, 1, seen("abc", 0, 1))},
		{scores(1, 1, seen("abc", 1, 1)), plain("abc"), true, scores(1, 0, seen("abc", 1, 0))},
		{scores(1, 0), "", false, scores(0, 0)},
		{scores(0, 1), "no head", true, scores(0, 0)},
		{scores(maxTrained, 0), plain("no"), false, scores(maxTrained-1, 0)},
		{base, plain(), true, scores(4, 2, base.Words...)},
		{base, plain(), false, scores(3, 3, base.Words...)},
		// Words that go: the first, one between, and the last.
		{base, plain("bbb"), false, scores(3, 3, seen("ddd", 3, 2), seen("fff", 0, 2), seen("hhh", 1, 1))},
		{base, plain("ddd", "BBB"), false, scores(3, 3, seen("ddd", 2, 2), seen("fff", 0, 2), seen("hhh", 1, 1))},
		{base, plain("fff", "fff"), true, scores(4, 2, seen("bbb", 1, 0), seen("ddd", 3, 2), seen("fff", 0, 1), seen("hhh", 1, 1))},
		{base, plain("hhh", "fff", "ddd"), true, scores(4, 2, seen("bbb", 1, 0), seen("ddd", 3, 1), seen("fff", 0, 1), seen("hhh", 1, 0))},
		{scores(2, 2, seen("abc", 0, 1), seen("abd", 1, 0), seen("abe", 0, 1)), plain("abe", "abc"), true, scores(2, 1, seen("abd", 1, 0))},
		{scores(2, 2, seen("abc", 1, 1), seen("abd", 0, 1), seen("abe", 1, 1)), "Subject: abd\r\n\r\n", true, scores(2, 1, seen("abc", 1, 1), seen("abe", 1, 1))},
		// A word that stands in all messages is in this one.
		{scores(2, 5, seen("abc", 2, 5)), plain("abc"), true, scores(2, 4, seen("abc", 2, 4))},
		{scores(2, 5, seen("abc", 2, 4)), plain(), true, scores(2, 4, seen("abc", 2, 4))},
		{scores(2, 5, seen("abc", 2, 4)), plain("abc"), true, scores(2, 4, seen("abc", 2, 3))},
		// The count of the other kind may be that of the table, or 0.
		{scores(2, 5, seen("abc", 2, 1)), plain(), true, scores(2, 4, seen("abc", 2, 1))},
		{scores(2, 5, seen("abc", 1, 5)), plain(), false, scores(1, 5, seen("abc", 1, 5))},
		{scores(0, 5, seen("abc", 0, 3)), plain("abc"), true, scores(0, 4, seen("abc", 0, 2))},
	} {
		checkTrained(t, "Untrain of "+short(c.message), impl.Untrain(c.table, c.message, c.bad), impl.Trained{Table: c.want})
		checkTable(t, c.want, impl.OK)
	}
}

func TestUntrainRefuses(t *testing.T) {
	long := xs(maxText + 1)
	base := scores(4, 3, seen("bbb", 1, 0), seen("ddd", 3, 2), seen("fff", 0, 2))
	for _, c := range []struct {
		table   impl.ScoreTable
		message string
		bad     bool
		want    int64
	}{
		{scores(0, 0, seen("abc", 1, 0)), "", true, impl.ErrForm},
		{scores(0, 0, seen("abc", 1, 0)), long, true, impl.ErrForm},
		{scores(-1, 0), "", false, impl.ErrForm},
		{scores(0, 0), long, true, impl.ErrSize},
		{base, long, false, impl.ErrSize},
		{scores(0, 0), "", true, impl.ErrNone},
		{scores(0, 0), "", false, impl.ErrNone},
		{scores(0, 0), plain("abc"), false, impl.ErrNone},
		{scores(1, 0), "", true, impl.ErrNone},
		{scores(0, 1), "", false, impl.ErrNone},
		{scores(1, 0, seen("abc", 1, 0)), plain("abc"), true, impl.ErrNone},
		{scores(0, 1, seen("abc", 0, 1)), plain("abc"), false, impl.ErrNone},
		// A word that is not there, or not of this kind.
		{base, plain("aaa"), false, impl.ErrNone},
		{base, plain("ccc"), true, impl.ErrNone},
		{base, plain("ggg"), true, impl.ErrNone},
		{base, plain("bbb"), true, impl.ErrNone},
		{base, plain("fff"), false, impl.ErrNone},
		{base, plain("ddd", "aaa"), false, impl.ErrNone},
		{base, plain("ddd", "bbb", "fff"), false, impl.ErrNone},
		{base, plain("ddd", "bbb"), true, impl.ErrNone},
		{base, "Subject: ddd\r\n\r\nfff", false, impl.ErrNone},
		// A word that stands in all messages of this kind, but not in this one.
		{scores(4, 3, seen("abc", 4, 0)), plain(), false, impl.ErrNone},
		{scores(4, 3, seen("abc", 0, 3)), plain(), true, impl.ErrNone},
		{scores(1, 3, seen("abc", 1, 2), seen("abd", 1, 1)), plain("abc"), false, impl.ErrNone},
		{scores(2, 2, seen("aaa", 1, 1), seen("abc", 1, 1), seen("zzz", 2, 1)), plain("abc"), false, impl.ErrNone},
		{scores(2, 2, seen("aaa", 1, 2), seen("abc", 1, 1), seen("zzz", 1, 1)), plain("abc"), true, impl.ErrNone},
		{scores(maxTrained, 0, seen("abc", maxTrained, 0)), plain(), false, impl.ErrNone},
	} {
		checkTrained(t, "Untrain of "+short(c.message)+" in "+shown(c.table), impl.Untrain(c.table, c.message, c.bad), impl.Trained{Code: c.want})
	}
}

// slowTrained adds a message's words one by one, or takes them away.
func slowTrained(table impl.ScoreTable, message string, bad bool, more int64) impl.Trained {
	add := func(good, bads *int64) {
		if bad {
			good = bads
		}
		*good += more
	}
	out := scores(table.Good, table.Bad, slices.Clone(table.Words)...)
	add(&out.Good, &out.Bad)
	for _, word := range slowWords(message) {
		at := slices.IndexFunc(out.Words, func(w impl.WordCount) bool { return w.Word == word })
		if at < 0 {
			at = len(out.Words)
			out.Words = append(out.Words, seen(word, 0, 0))
		}
		add(&out.Words[at].Good, &out.Words[at].Bad)
	}
	slices.SortFunc(out.Words, func(a, b impl.WordCount) int { return strings.Compare(a.Word, b.Word) })
	out.Words = slices.DeleteFunc(out.Words, func(w impl.WordCount) bool { return w.Good == 0 && w.Bad == 0 })
	// Only a right table can have been come by.
	if slowTableFault(out) == impl.OK {
		return impl.Trained{Table: out}
	}
	if more > 0 {
		return impl.Trained{Code: impl.ErrFull}
	}
	return impl.Trained{Code: impl.ErrNone}
}

func TestTrainAnyTables(t *testing.T) {
	d := &dice{state: 1202}
	refused := [2]int{}
	for range 3000 {
		table, message, bad := d.table(tableWords), d.mail(), d.below(2) == 0
		want := slowTrained(table, message, bad, 1)
		checkTrained(t, "Train of "+short(message)+" in "+shown(table), impl.Train(table, message, bad), want)
		left := slowTrained(table, message, bad, -1)
		checkTrained(t, "Untrain of "+short(message)+" in "+shown(table), impl.Untrain(table, message, bad), left)
		if want.Code != impl.OK {
			refused[0]++
		}
		if left.Code != impl.OK {
			refused[1]++
		}
	}
	if refused[0] < 100 || refused[0] > 2000 || refused[1] < 500 || refused[1] == 3000 {
		t.Errorf("%v refused", refused)
	}
}

// TestTrainOtherWords has the words of a message in the table, so that it can often be forgotten.
func TestTrainOtherWords(t *testing.T) {
	d := &dice{state: 1203}
	forgotten := 0
	for range 1500 {
		table, bad := d.table(tableWords), d.below(2) == 0
		var own []string
		for _, word := range table.Words {
			all := bad && word.Bad == table.Bad || !bad && word.Good == table.Good
			some := bad && word.Bad > 0 || !bad && word.Good > 0
			if all && d.below(10) > 0 || some && d.below(2) == 0 {
				own = append(own, word.Word)
			}
		}
		message := plain(own...)
		left := slowTrained(table, message, bad, -1)
		checkTrained(t, "Untrain of "+short(message)+" in "+shown(table), impl.Untrain(table, message, bad), left)
		if left.Code == impl.OK {
			forgotten++
		}
	}
	if forgotten < 400 {
		t.Errorf("%d forgotten", forgotten)
	}
}

// slowChance is by fractions of any size.
func slowChance(table impl.ScoreTable, word string) int64 {
	for _, w := range table.Words {
		if w.Word != word || w.Good+w.Bad < 3 {
			continue
		}
		b := new(big.Int).Mul(big.NewInt(w.Bad), big.NewInt(table.Good))
		g := new(big.Int).Mul(big.NewInt(w.Good), big.NewInt(table.Bad))
		all := g.Add(g, b)
		if all.Sign() == 0 {
			return 50
		}
		percent := b.Div(b.Mul(b, big.NewInt(100)), all).Int64()
		return max(1, min(99, percent))
	}
	return 50
}

func TestChances(t *testing.T) {
	for _, c := range []struct {
		good, bad     int64
		ofGood, ofBad int64
		want          int64
	}{
		// Together below 3, or just 3.
		{10, 10, 1, 0, 50},
		{10, 10, 0, 1, 50},
		{10, 10, 1, 1, 50},
		{10, 10, 2, 0, 50},
		{10, 10, 0, 2, 50},
		{10, 10, 3, 0, 1},
		{10, 10, 0, 3, 99},
		{10, 10, 1, 2, 66},
		{10, 10, 2, 1, 33},
		{10, 10, 2, 2, 50},
		{10, 10, 10, 10, 50},
		// Each is held against the count of the other kind.
		{1, 3, 1, 3, 50},
		{3, 1, 3, 1, 50},
		{10, 1, 3, 1, 76},
		{1, 10, 1, 3, 23},
		{100, 50, 10, 10, 66},
		{50, 100, 10, 10, 33},
		// b + g being 0.
		{0, 3, 0, 3, 50},
		{3, 0, 3, 0, 50},
		{0, maxTrained, 0, 5, 50},
		{maxTrained, 0, 5, 0, 50},
		// At 1 and 99, and outside.
		{1000, 1000, 99, 1, 1},
		{1000, 1000, 98, 2, 2},
		{1000, 1000, 100, 1, 1},
		{1000, 1000, 199, 1, 1},
		{1000, 1000, 1000, 1, 1},
		{1000, 1000, 1, 99, 99},
		{1000, 1000, 1, 98, 98},
		{1000, 1000, 1, 100, 99},
		{1000, 1000, 1, 199, 99},
		{1000, 1000, 1, 1000, 99},
		{1000, 1000, 0, 1000, 99},
		{1000, 1000, 1000, 0, 1},
		// Rounded down.
		{1000, 1000, 49, 51, 51},
		{1000, 1000, 500, 499, 49},
		{1000, 1000, 499, 500, 50},
		{1000, 1000, 5, 995, 99},
		{1000, 1000, 11, 989, 98},
		{7, 7, 1, 6, 85},
		{maxTrained, maxTrained, maxTrained, maxTrained, 50},
		{maxTrained, maxTrained, 1, maxTrained, 99},
		{maxTrained, maxTrained, maxTrained, 1, 1},
		{maxTrained, maxTrained, maxTrained, maxTrained - 1, 49},
		{maxTrained, 3, maxTrained, 3, 50},
		{maxTrained, 3, 2, 1, 99},
		{3, maxTrained, 1, 2, 1},
	} {
		table := scores(c.good, c.bad, seen("mmm", c.ofGood, c.ofBad))
		checkChance(t, table, "mmm", c.want)
		wide := scores(c.good, c.bad, seen("aaa", min(c.good, 1), min(c.bad, 1)), table.Words[0], seen("zzz", min(c.good, 1), min(c.bad, 1)))
		checkChance(t, wide, "mmm", c.want)
		if slowChance(table, "mmm") != c.want {
			t.Errorf("slowChance of %s", shown(table))
		}
	}
}

func TestChanceOfOtherWords(t *testing.T) {
	table := scores(10, 10, seen("bbb", 0, 5), seen("ddd", 5, 0))
	checkChance(t, table, "bbb", 99)
	checkChance(t, table, "ddd", 1)
	for _, word := range []string{"", "aaa", "ccc", "eee", "bb", "bbbb", "BBB", "Bbb", "bbb ", " bbb", "b", "\xff", xs(20), xs(21), xs(maxText), xs(maxText + 1), "bbb" + strings.Repeat("b", maxText)} {
		checkChance(t, table, word, 50)
		checkChance(t, scores(0, 0), word, 50)
	}
	// With a fault no word tells anything, be it a right one.
	for _, wrong := range []impl.ScoreTable{
		scores(10, maxTrained+1, table.Words...),
		scores(10, 4, table.Words...),
		scores(10, 10, seen("bbb", 0, 5), seen("ddd", 5, 0), seen("ccc", 5, 0)),
		scores(10, 10, seen("bbb", 0, 5), seen("ddd", 0, 0)),
		scores(10, 10, seen("bbb", 0, 5), seen("bbb", 0, 5)),
		scores(10, 10, seen("BBB", 0, 5), seen("bbb", 0, 5)),
	} {
		checkTable(t, wrong, impl.ErrForm)
		checkChance(t, wrong, "bbb", 50)
		checkChance(t, wrong, "BBB", 50)
	}
}

func TestChancesOfAnyTables(t *testing.T) {
	for good := int64(0); good <= 6; good++ {
		for bad := int64(0); bad <= 6; bad++ {
			for g := int64(0); g <= good; g++ {
				for b := int64(0); b <= bad; b++ {
					table := scores(good, bad, seen("abc", g, b))
					if g+b > 0 {
						checkChance(t, table, "abc", slowChance(table, "abc"))
					}
				}
			}
		}
	}
	d := &dice{state: 1204}
	for range 500 {
		table := d.table(tableWords)
		for _, word := range tableWords {
			checkChance(t, table, word, slowChance(table, word))
		}
	}
	for range 2000 {
		good, bad := int64(1+d.below(maxTrained)), int64(1+d.below(maxTrained))
		table := scores(good, bad, seen("abc", int64(d.below(int(good)+1)), int64(1+d.below(int(bad)))))
		checkChance(t, table, "abc", slowChance(table, "abc"))
	}
}

// chances is a table in which words have these chances, each from 1 to 99.
func chances(words map[string]int64) impl.ScoreTable {
	table := scores(1000, 1000)
	for word, chance := range words {
		table.Words = append(table.Words, seen(word, 100-chance, chance))
	}
	slices.SortFunc(table.Words, func(a, b impl.WordCount) int { return strings.Compare(a.Word, b.Word) })
	return table
}

func score(num, den int64, words ...string) impl.Score {
	return impl.Score{Num: num, Den: den, Words: words}
}

func TestScores(t *testing.T) {
	table := chances(map[string]int64{"aaa": 1, "bbb": 99, "ccc": 50, "ddd": 60, "eee": 40, "fff": 20, "ggg": 80, "hhh": 75, "iii": 51, "jjj": 49, "kkk": 90})
	for word, chance := range map[string]int64{"aaa": 1, "bbb": 99, "ccc": 50, "ddd": 60, "iii": 51, "jjj": 49, "hhh": 75} {
		checkChance(t, table, word, chance)
	}
	for _, c := range []struct {
		words []string
		want  impl.Score
	}{
		{nil, score(1, 2)},
		{some("no", "of"), score(1, 2)},
		{some("aaa"), score(1, 100, "aaa")},
		{some("bbb"), score(99, 100, "bbb")},
		{some("ccc"), score(1, 2, "ccc")},
		{some("new"), score(1, 2, "new")},
		// Fractions that can be cut.
		{some("ddd"), score(3, 5, "ddd")},
		{some("eee"), score(2, 5, "eee")},
		{some("ggg"), score(4, 5, "ggg")},
		{some("hhh"), score(3, 4, "hhh")},
		{some("iii"), score(51, 100, "iii")},
		{some("ddd", "eee"), score(1, 2, "ddd", "eee")},
		{some("ddd", "hhh"), score(9, 11, "hhh", "ddd")},
		{some("ggg", "hhh"), score(12, 13, "ggg", "hhh")},
		{some("fff", "hhh"), score(3, 7, "fff", "hhh")},
		{some("kkk", "ddd"), score(27, 29, "kkk", "ddd")},
		// Equal distances on both sides of 50, and equal chances.
		{some("bbb", "aaa"), score(1, 2, "aaa", "bbb")},
		{some("ggg", "fff"), score(1, 2, "fff", "ggg")},
		{some("jjj", "iii"), score(1, 2, "iii", "jjj")},
		{some("zzz", "new", "ccc"), score(1, 2, "ccc", "new", "zzz")},
		// The distance falls, however they come.
		{some("ccc", "iii", "ddd", "hhh", "ggg", "kkk", "bbb"), score(817938, 817987, "bbb", "kkk", "ggg", "hhh", "ddd", "iii", "ccc")},
	} {
		slices.Sort(c.words)
		checkScore(t, table, plain(c.words...), c.want)
		slices.Reverse(c.words)
		checkScore(t, table, plain(c.words...), c.want)
		checkScore(t, table, "Subject: "+strings.Join(c.words, " ")+"\r\n\r\n"+strings.ToUpper(strings.Join(c.words, ".")), c.want)
	}
}

func TestScoresRefuse(t *testing.T) {
	table := chances(map[string]int64{"abc": 99})
	message := "\r\nabc " + xs(maxText)
	checkScore(t, table, message[:maxText], score(99, 100, "abc"))
	checkScore(t, table, message[:maxText+1], score(0, 0))
	checkScore(t, table, "no head abc", score(1, 2))
	checkScore(t, table, "", score(1, 2))
	checkScore(t, scores(0, 0), plain("zzz", "abc"), score(1, 2, "abc", "zzz"))
	wrong := chances(map[string]int64{"abc": 99})
	wrong.Bad = 98
	checkTable(t, wrong, impl.ErrForm)
	checkTable(t, scores(-1, 0), impl.ErrForm)
	// A right word among ill ones tells nothing.
	checkTable(t, scores(1000, 1000, seen("abc", 1, 99), seen("ABC", 1, 99)), impl.ErrForm)
}

func TestScoresOfManyWords(t *testing.T) {
	words := map[string]int64{}
	for number := range 20 {
		words[numberedWord(number)] = int64(51 + number)
	}
	table := chances(words)
	all := numberedWords(0, 20)
	for size := range 20 {
		chosen := slices.Clone(all[:size])
		slices.Reverse(chosen)
		got := impl.ScoreOf(table, plain(all[:size]...))
		if want := chosen[:min(size, maxChosen)]; !slices.Equal(got.Words, want) {
			t.Errorf("ScoreOf of %d words: %s, want %s", size, shown(got), shown(want))
		}
		checkScore(t, table, plain(all[:size]...), slowScore(table, plain(all[:size]...)))
	}
	// Of nine equal ones the greatest is left out; it is taken ahead of one that tells less.
	equal := map[string]int64{}
	for at, word := range numberedWords(0, 9) {
		equal[word] = int64(1 + at%2*98)
	}
	checkScore(t, chances(equal), plain(numberedWords(0, 8)...), score(1, 2, numberedWords(0, 8)...))
	checkScore(t, chances(equal), plain(numberedWords(0, 9)...), score(1, 2, numberedWords(0, 8)...))
	checkScore(t, chances(equal), plain(numberedWords(1, 9)...), score(1, 2, numberedWords(1, 9)...))
	equal[numberedWord(3)] = 98
	last := append(numberedWords(0, 3), numberedWords(4, 9)...)
	checkScore(t, chances(equal), plain(numberedWords(0, 9)...), score(1, 9802, last...))
}

// TestScoresAtTheEnds has the greatest products.
func TestScoresAtTheEnds(t *testing.T) {
	for size := 1; size <= maxChosen+2; size++ {
		for _, chance := range []int64{1, 2, 49, 50, 51, 98, 99} {
			words := map[string]int64{}
			for _, word := range numberedWords(0, size) {
				words[word] = chance
			}
			message := plain(numberedWords(0, size)...)
			checkScore(t, chances(words), message, slowScore(chances(words), message))
		}
	}
	words := map[string]int64{}
	for _, word := range numberedWords(0, maxChosen) {
		words[word] = 99
	}
	// 99 to the eighth, and one more.
	checkScore(t, chances(words), plain(numberedWords(0, maxChosen)...), score(9227446944279201, 9227446944279202, numberedWords(0, maxChosen)...))
}

// slowScore takes the words one by one, and fractions of any size.
func slowScore(table impl.ScoreTable, message string) impl.Score {
	words := slowWords(message)
	slices.Sort(words)
	distance := func(word string) int64 {
		chance := slowChance(table, word)
		if chance < 50 {
			return 50 - chance
		}
		return chance - 50
	}
	slices.SortStableFunc(words, func(a, b string) int { return -cmp.Compare(distance(a), distance(b)) })
	words = words[:min(len(words), maxChosen)]
	odds := big.NewRat(1, 1)
	for _, word := range words {
		chance := slowChance(table, word)
		odds.Mul(odds, big.NewRat(chance, 100-chance))
	}
	one := big.NewRat(1, 1)
	all := new(big.Rat).Quo(odds, one.Add(one, odds))
	return score(all.Num().Int64(), all.Denom().Int64(), words...)
}

func TestScoresOfAnyTables(t *testing.T) {
	d := &dice{state: 1205}
	uneven := 0
	for range 3000 {
		table, message := d.table(tableWords), d.mail()
		if d.below(3) == 0 {
			message = plain(d.text(20, []string{"abc ", "abd ", "zzz ", "buy ", "now ", "pills ", "hello ", "mmm ", "mmn ", "000 ", "999 ", "bcd "}))
		}
		want := slowScore(table, message)
		if want.Den != 2*want.Num {
			uneven++
		}
		checkScore(t, table, message, want)
	}
	if uneven < 700 {
		t.Errorf("%d uneven ones", uneven)
	}
}

func checkBad(t *testing.T, s impl.Score, percent int64, want bool) {
	t.Helper()
	if got := impl.IsBad(s, percent); got != want {
		t.Errorf("IsBad of %s, %d: %t, want %t", shown(s), percent, got, want)
	}
}

func TestBadScores(t *testing.T) {
	for _, c := range []struct {
		num, den int64
		percent  int64
		want     bool
	}{
		{1, 2, 50, true},
		{1, 2, 51, false},
		{1, 2, 49, true},
		{0, 1, 0, true},
		{0, 1, 1, false},
		{1, 1, 100, true},
		{1, 1, 0, true},
		{99, 100, 99, true},
		{99, 100, 100, false},
		{98, 100, 99, false},
		// Products at equality and one off it.
		{1, 3, 33, true},
		{1, 3, 34, false},
		{2, 3, 66, true},
		{2, 3, 67, false},
		{33, 100, 33, true},
		{329, 1000, 33, false},
		{330, 1000, 33, true},
		{331, 1000, 33, true},
		{-1, 1, 0, false},
		{-1, 100, 0, false},
		{2, 1, 0, false},
		{2, 1, 100, false},
		{101, 100, 100, false},
		{100, 100, 100, true},
		{0, 0, 0, false},
		{1, 0, 0, false},
		{0, -1, 0, false},
		{-1, -1, 0, false},
		{-2, -1, 0, false},
		{1, 1, -1, false},
		{1, 1, 101, false},
		{0, 1, -1, false},
		{1, 1, math.MinInt64, false},
		{1, 1, math.MaxInt64, false},
		{1, 1, 1<<32 + 50, false},
		{1, 1, 256, false},
		{maxScoreDen, maxScoreDen, 100, true},
		{maxScoreDen - 1, maxScoreDen, 100, false},
		{maxScoreDen - 1, maxScoreDen, 99, true},
		{maxScoreDen + 1, maxScoreDen, 100, false},
		{maxScoreDen + 1, maxScoreDen, 0, false},
		{maxScoreDen, maxScoreDen + 1, 0, false},
		{maxScoreDen + 1, maxScoreDen + 1, 100, false},
		{0, maxScoreDen + 1, 0, false},
		{0, maxScoreDen, 0, true},
		{0, maxScoreDen, 1, false},
		{1, maxScoreDen, 1, false},
		{maxScoreDen / 100, maxScoreDen, 1, true},
		{maxScoreDen/100 - 1, maxScoreDen, 1, false},
		{maxScoreDen / 2, maxScoreDen, 50, true},
		{maxScoreDen/2 - 1, maxScoreDen, 50, false},
		{math.MaxInt64, math.MaxInt64, 100, false},
		{math.MinInt64, math.MinInt64, 100, false},
		{math.MinInt64, 1, 0, false},
		{math.MaxInt64, 1, 0, false},
		{0, math.MaxInt64, 0, false},
		{1<<57 + 1, maxScoreDen, 100, false},
	} {
		checkBad(t, score(c.num, c.den), c.percent, c.want)
		// Its words tell nothing, unless one is a text that no call takes.
		checkBad(t, score(c.num, c.den, "abc", "", "\xff", xs(maxText)), c.percent, c.want)
		checkBad(t, score(c.num, c.den, xs(maxText+1)), c.percent, false)
		checkBad(t, score(c.num, c.den, "abc", xs(maxText+1)), c.percent, false)
	}
}

func TestBadScoresOfAnyNumbers(t *testing.T) {
	numbers := []int64{-2, -1, 0, 1, 2, 3, 4, 99, 100, 101, maxScoreDen - 1, maxScoreDen, maxScoreDen + 1, maxScoreDen / 2, 9227446944279201, 9227446944279202, 1 << 62, math.MaxInt64, math.MinInt64}
	for _, num := range numbers {
		for _, den := range numbers {
			for _, percent := range []int64{-1, 0, 1, 33, 49, 50, 51, 66, 99, 100, 101, math.MaxInt64, math.MinInt64} {
				right := num >= 0 && num <= den && den >= 1 && den <= maxScoreDen && percent >= 0 && percent <= 100
				left := new(big.Int).Mul(big.NewInt(num), big.NewInt(100))
				checkBad(t, score(num, den), percent, right && left.Cmp(new(big.Int).Mul(big.NewInt(percent), big.NewInt(den))) >= 0)
			}
		}
	}
	for den := int64(1); den <= 12; den++ {
		for num := int64(0); num <= den; num++ {
			for percent := int64(0); percent <= 100; percent++ {
				checkBad(t, score(num, den), percent, big.NewRat(num, den).Cmp(big.NewRat(percent, 100)) >= 0)
			}
		}
	}
}

// TestPromise15Forgets is its first part: what was learned is forgotten, whatever else the table knows.
func TestPromise15Forgets(t *testing.T) {
	d := &dice{state: 1206}
	learned := 0
	check := func(table impl.ScoreTable, message string) {
		t.Helper()
		for _, bad := range []bool{false, true} {
			more := impl.Train(table, message, bad)
			if more.Code != impl.OK {
				checkTrained(t, "Train", more, impl.Trained{Code: impl.ErrFull})
				continue
			}
			learned++
			if sameTables(more.Table, table) || impl.TableFault(more.Table) != impl.OK {
				t.Errorf("Train of %s in %s: %s", short(message), shown(table), shown(more))
			}
			checkTrained(t, "Untrain of what was learned", impl.Untrain(more.Table, message, bad), impl.Trained{Table: table})
		}
	}
	for range 2000 {
		check(d.table(tableWords), d.mail())
	}
	for range 300 {
		check(d.table(tableWords), d.anyMessage())
	}
	everyWord := plain(numberedWords(0, maxMessageWords+50)...)
	for _, table := range []impl.ScoreTable{scores(0, 0), scores(maxTrained-1, maxTrained-1), scores(maxTrained, 0), greatTable(1, 1, maxScoreWords), greatTable(maxTrained-1, 0, maxScoreWords), greatTable(3, 3, maxScoreWords-maxMessageWords)} {
		for _, message := range []string{"", plain(), "no head", plain("abc"), everyWord, plain(numberedWords(5000, 5000+maxMessageWords)...), "\r\nabc " + xs(maxText-6)} {
			check(table, message)
		}
	}
	if learned < 3000 {
		t.Errorf("%d learned", learned)
	}
}

type learning struct {
	message string
	bad     bool
}

// inTurn learns one message behind the other, as long as there is no code.
func inTurn(table impl.ScoreTable, messages ...learning) impl.Trained {
	done := impl.Trained{Table: table}
	for _, m := range messages {
		if done.Code == impl.OK {
			done = impl.Train(done.Table, m.message, m.bad)
		}
	}
	return done
}

// TestPromise15Orders is its second part.
func TestPromise15Orders(t *testing.T) {
	d := &dice{state: 1207}
	learned := 0
	check := func(table impl.ScoreTable, a, b learning) {
		t.Helper()
		one, other := inTurn(table, a, b), inTurn(table, b, a)
		checkTrained(t, "learned in the other order in "+shown(table), other, one)
		if one.Code == impl.OK {
			learned++
			// Then they can be forgotten in either order, too.
			first := impl.Untrain(one.Table, a.message, a.bad)
			checkTrained(t, "forgotten in the order of learning", impl.Untrain(first.Table, b.message, b.bad), impl.Trained{Table: table})
		}
	}
	kinds := []bool{false, true}
	for range 1500 {
		table := d.table(tableWords)
		check(table, learning{d.mail(), kinds[d.below(2)]}, learning{d.mail(), kinds[d.below(2)]})
	}
	messages := []string{"", plain("abc"), plain("abc", "abd"), plain(numberedWords(0, maxMessageWords)...), plain(numberedWords(200, 600)...)}
	for _, table := range []impl.ScoreTable{scores(0, 0), scores(maxTrained-1, maxTrained-2), scores(maxTrained-2, maxTrained), greatTable(1, 1, maxScoreWords-1), greatTable(1, 0, maxScoreWords-2), greatTable(0, 1, maxScoreWords)} {
		for _, a := range messages {
			for _, b := range messages {
				for kind := range 4 {
					check(table, learning{a, kind%2 == 0}, learning{b, kind/2 == 0})
				}
			}
		}
	}
	if learned < 1000 {
		t.Errorf("%d learned", learned)
	}
}

// checkFraction is the third part of promise 15, by what Chance answers.
func checkFraction(t *testing.T, table impl.ScoreTable, message string) (more int) {
	t.Helper()
	s := impl.ScoreOf(table, message)
	p, q := big.NewInt(1), big.NewInt(1)
	for _, word := range s.Words {
		chance := impl.Chance(table, word)
		p.Mul(p, big.NewInt(chance))
		q.Mul(q, big.NewInt(100-chance))
	}
	if s.Num < 0 || s.Num > s.Den || s.Den < 1 || s.Den > maxScoreDen {
		t.Errorf("ScoreOf of %s in %s is no fraction: %s", short(message), shown(table), shown(s))
	}
	if new(big.Int).GCD(nil, nil, big.NewInt(s.Num), big.NewInt(s.Den)).Int64() != 1 {
		t.Errorf("ScoreOf of %s in %s is not in lowest terms: %s", short(message), shown(table), shown(s))
	}
	if 2*s.Num > s.Den != (p.Cmp(q) > 0) || 2*s.Num < s.Den != (p.Cmp(q) < 0) {
		t.Errorf("ScoreOf of %s in %s: %s, with the products %v and %v", short(message), shown(table), shown(s), p, q)
	}
	return p.Cmp(q)
}

func TestPromise15Scores(t *testing.T) {
	d := &dice{state: 1208}
	sides := [3]int{}
	for n := range 3000 {
		table, message := d.table(tableWords), d.mail()
		if n%3 == 0 {
			words := map[string]int64{}
			for _, word := range tableWords {
				words[word] = int64(d.below(99) + 1)
			}
			table = chances(words)
		}
		sides[checkFraction(t, table, message)+1]++
	}
	if slices.Min(sides[:]) < 200 {
		t.Errorf("sides: %v", sides)
	}
	// Products that differ by little, on both sides.
	near := chances(map[string]int64{"aaa": 99, "bbb": 1, "ccc": 51, "ddd": 49, "eee": 50, "fff": 60, "ggg": 40, "hhh": 80, "iii": 33, "jjj": 34})
	words := some("aaa", "bbb", "ccc", "ddd", "eee", "fff", "ggg", "hhh", "iii", "jjj")
	for set := range 1 << len(words) {
		var own []string
		for at, word := range words {
			if set>>at&1 == 1 {
				own = append(own, word)
			}
		}
		checkFraction(t, near, plain(own...))
	}
}

// roomyTable has room behind its words, with something in it.
func roomyTable(table impl.ScoreTable) impl.ScoreTable {
	table.Words = append(slices.Clone(table.Words), seen("zzzzzz", 1, 1), seen("room", 7, 7))[:len(table.Words)]
	return table
}

func TestScoresChangeNothing(t *testing.T) {
	d := &dice{state: 1209}
	for range 500 {
		table, message := roomyTable(d.table(tableWords)), d.mail()
		size := len(table.Words) + 2
		before := slices.Clone(table.Words[:size])
		for _, bad := range []bool{false, true} {
			more, less := impl.Train(table, message, bad), impl.Untrain(table, message, bad)
			checkOwnTable(t, table, message, more.Table)
			checkOwnTable(t, table, message, less.Table)
			// What is written into an answer is in no argument.
			for _, answer := range []impl.ScoreTable{more.Table, less.Table} {
				for at := range answer.Words {
					answer.Words[at] = seen("turned", -1, -1)
				}
				_ = append(answer.Words, seen("behind", -1, -1))
			}
		}
		s := impl.ScoreOf(table, message)
		wantOwnMemory(t, "ScoreOf", message, s.Words...)
		for _, word := range table.Words {
			wantOwnMemory(t, "ScoreOf", word.Word, s.Words...)
		}
		for at := range s.Words {
			s.Words[at] = "turned"
		}
		words := impl.WordsOf(message)
		wantOwnMemory(t, "WordsOf", message, words...)
		impl.Chance(table, "abc")
		impl.TableFault(table)
		if !slices.Equal(before, table.Words[:size]) {
			t.Fatalf("a table has changed: %s, %s", shown(before), shown(table.Words[:size]))
		}
	}
	s := impl.Score{Num: 1, Den: 2, Words: some("abc", "room")[:1]}
	impl.IsBad(s, 50)
	if !slices.Equal(s.Words[:2], some("abc", "room")) {
		t.Errorf("IsBad has changed %s", shown(s.Words[:2]))
	}
}

func checkOwnTable(t *testing.T, table impl.ScoreTable, message string, answer impl.ScoreTable) {
	t.Helper()
	for _, word := range answer.Words {
		wantOwnMemory(t, "Train", message, word.Word)
		for _, given := range table.Words {
			wantOwnMemory(t, "Train", given.Word, word.Word)
		}
	}
}

// TestScoresAnswerAgain asks twice, as what a map tells in its own order differs from time to time.
func TestScoresAnswerAgain(t *testing.T) {
	table := greatTable(3, 3, 900)
	message := plain(numberedWords(700, 1000)...)
	first, firstScore := impl.Train(table, message, true), impl.ScoreOf(table, message)
	for range 20 {
		checkTrained(t, "Train again", impl.Train(table, message, true), first)
		checkScore(t, table, message, firstScore)
	}
	checkTrained(t, "Untrain", impl.Untrain(first.Table, message, true), impl.Trained{Table: table})
}
