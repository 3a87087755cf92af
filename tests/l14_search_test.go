package tests

import (
	"cmp"
	"fmt"
	"math"
	"reflect"
	"regexp"
	"slices"
	"strconv"
	"strings"
	"testing"
	"time"

	"loop.example/g00013/impl"
)

const (
	maxQuery       = 2000
	maxQueryNodes  = 100
	maxQueryDeep   = 10
	maxRangeCount  = 100
	maxQueryText   = 200
	maxQueryNumber = 9999999999
	maxQueryDay    = 2932896
	maxSortKeys    = 10
)

func TestSearchConstants(t *testing.T) {
	wantNumbers(t, "limits", "", ids(impl.MaxQuery, impl.MaxQueryNodes, impl.MaxQueryDeep), ids(maxQuery, maxQueryNodes, maxQueryDeep))
	wantNumbers(t, "kinds", "", ids(impl.SkAll, impl.SkFlag, impl.SkNoFlag, impl.SkField, impl.SkBody, impl.SkText, impl.SkSince, impl.SkBefore, impl.SkOn,
		impl.SkLarger, impl.SkSmaller, impl.SkUids, impl.SkMod, impl.SkNot, impl.SkOr, impl.SkAnd), upTo(1, 16))
}

func fromTo(from, to int64) impl.Range { return impl.Range{From: from, To: to} }

func just(number int64) impl.Range { return fromTo(number, number) }

func checkRanges(t *testing.T, text string, want ...impl.Range) {
	t.Helper()
	if got := impl.ReadRanges(text); !slices.Equal(got, want) {
		t.Errorf("ReadRanges of %s: %v, want %v", short(text), got, want)
	}
}

func TestReadRanges(t *testing.T) {
	checkRanges(t, "")
	checkRanges(t, "1", just(1))
	checkRanges(t, "7", just(7))
	checkRanges(t, "9:70", fromTo(9, 70))
	checkRanges(t, "70:9", fromTo(9, 70))
	checkRanges(t, "9:9", just(9))
	checkRanges(t, "*", just(maxNumber))
	checkRanges(t, "*:*", just(maxNumber))
	checkRanges(t, "*:5", fromTo(5, maxNumber))
	checkRanges(t, "5:*", fromTo(5, maxNumber))
	checkRanges(t, "*:4294967295", just(maxNumber))
	// They stand as they were told: not sorted, not joined, not once each.
	checkRanges(t, "3,9:7,*:2", just(3), fromTo(7, 9), fromTo(2, maxNumber))
	checkRanges(t, "5,4,5,1:9,2:3", just(5), just(4), just(5), fromTo(1, 9), fromTo(2, 3))
}

func TestReadRangesNumbers(t *testing.T) {
	checkRanges(t, "0")
	checkRanges(t, "00")
	checkRanges(t, "01")
	checkRanges(t, "0:5")
	checkRanges(t, "5:0")
	checkRanges(t, "5:05")
	checkRanges(t, "10", just(10))
	checkRanges(t, "999999999", just(999999999))
	checkRanges(t, "1000000000", just(1000000000))
	checkRanges(t, "4294967294", just(maxNumber-1))
	checkRanges(t, "4294967295", just(maxNumber))
	checkRanges(t, "4294967296")
	checkRanges(t, "1:4294967296")
	checkRanges(t, "4294967296:1")
	checkRanges(t, "9999999999")
	checkRanges(t, "10000000000")
	checkRanges(t, "00000000001")
	checkRanges(t, "18446744073709551617")
}

func TestReadRangesSigns(t *testing.T) {
	for _, text := range some(",", ",1", "1,", "1,,2", ":", "1:", ":1", "1:2:3", "1::2", ":1:2", "1:2:", "*:", ":*", "**", "1*", "*1", "1 ", " 1", "1, 2", "1-2", "+1", "-1", "1,x", "x,1", "1:x", "x:1", "*,", ",*", "1;2", "1.0", "1e3", "0x1", "１") {
		checkRanges(t, text)
	}
	// Each byte, where a digit, a sign or nothing may stand.
	for b := range 256 {
		sign := string([]byte{byte(b)})
		for _, text := range some(sign, "5"+sign, sign+"5", "5"+sign+"6", "5:6"+sign, "5,"+sign, sign+":6") {
			checkRanges(t, text, slowRanges(text)...)
		}
	}
}

func TestReadRangesCounts(t *testing.T) {
	for _, piece := range some("1", "*", "5:3", "4294967295:4294967294") {
		one := slowRanges(piece)
		for _, count := range []int{2, maxRangeCount - 1, maxRangeCount, maxRangeCount + 1, maxRangeCount + 2, 2 * maxRangeCount} {
			text := strings.Repeat(piece+",", count-1) + piece
			if count <= maxRangeCount {
				checkRanges(t, text, slices.Repeat(one, count)...)
			} else {
				checkRanges(t, text)
			}
		}
	}
	for _, size := range []int{maxText, maxText + 1} {
		checkRanges(t, strings.Repeat("1", size))
		checkRanges(t, strings.Repeat("1,", size/2)[:size-1]+"1")
		checkRanges(t, "1"+strings.Repeat(" ", size-1))
		checkRanges(t, strings.Repeat("0", size-1)+"1")
	}
}

var rangeForm = regexp.MustCompile(`\A(\*|[1-9][0-9]{0,9})(?::(\*|[1-9][0-9]{0,9}))?\z`)

// slowRanges are by the words of the document.
func slowRanges(text string) []impl.Range {
	pieces := strings.Split(text, ",")
	if len(text) > maxText || len(pieces) > maxRangeCount {
		return nil
	}
	var list []impl.Range
	for _, piece := range pieces {
		found := rangeForm.FindStringSubmatch(piece)
		if found == nil {
			return nil
		}
		var ends []int64
		for _, digits := range found[1:] {
			number, err := strconv.ParseInt(digits, 10, 64)
			switch {
			case digits == "*":
				ends = append(ends, maxNumber)
			case digits != "" && (err != nil || number > maxNumber):
				return nil
			case digits != "":
				ends = append(ends, number)
			}
		}
		list = append(list, fromTo(slices.Min(ends), slices.Max(ends)))
	}
	return list
}

// eachSequence hands on all texts of at most so many pieces.
func eachSequence(pieces []string, most int, hand func(text string)) {
	texts := some("")
	for range most {
		var longer []string
		for _, text := range texts {
			for _, piece := range pieces {
				longer = append(longer, text+piece)
				hand(text + piece)
			}
		}
		texts = longer
	}
}

func TestReadRangesOfAllSigns(t *testing.T) {
	right := 0
	eachSequence(some("0", "1", "20", "4294967295", "4294967296", ",", ":", "*", "x"), 5, func(text string) {
		want := slowRanges(text)
		checkRanges(t, text, want...)
		if len(want) == 0 {
			return
		}
		right++
		again := impl.ReadRanges(impl.WriteRanges(want))
		if !slices.Equal(again, want) {
			t.Errorf("ReadRanges of WriteRanges of %v: %v", want, again)
		}
	})
	if right < 500 {
		t.Errorf("only %d texts were ranges", right)
	}
}

func checkWrittenRanges(t *testing.T, want string, list ...impl.Range) {
	t.Helper()
	if got := impl.WriteRanges(list); got != want {
		t.Errorf("WriteRanges of %v: %s, want %s", list, short(got), short(want))
	}
}

func TestWriteRanges(t *testing.T) {
	checkWrittenRanges(t, "")
	checkWrittenRanges(t, "1", just(1))
	checkWrittenRanges(t, "5", just(5))
	checkWrittenRanges(t, "5:6", fromTo(5, 6))
	checkWrittenRanges(t, "*", just(maxNumber))
	checkWrittenRanges(t, "4294967294", just(maxNumber-1))
	checkWrittenRanges(t, "1:*", fromTo(1, maxNumber))
	checkWrittenRanges(t, "4294967294:*", fromTo(maxNumber-1, maxNumber))
	checkWrittenRanges(t, "3,7:9,2:*,3", just(3), fromTo(7, 9), fromTo(2, maxNumber), just(3))
	for _, ill := range []impl.Range{{}, fromTo(0, 1), fromTo(1, 0), fromTo(-1, 1), fromTo(6, 5), fromTo(maxNumber, 1), fromTo(1, maxNumber+1), fromTo(maxNumber+1, maxNumber+1),
		fromTo(maxNumber, maxNumber+1), fromTo(math.MinInt64, math.MaxInt64), fromTo(math.MaxInt64, math.MaxInt64), fromTo(math.MinInt64, 5), fromTo(-5, -3)} {
		checkWrittenRanges(t, "", ill)
		checkWrittenRanges(t, "", just(1), ill)
		checkWrittenRanges(t, "", ill, just(1))
	}
	for _, one := range []impl.Range{just(1), fromTo(maxNumber-1, maxNumber), fromTo(1000000000, 4294967294)} {
		text := impl.WriteRanges([]impl.Range{one})
		checkWrittenRanges(t, strings.Repeat(text+",", maxRangeCount-1)+text, slices.Repeat([]impl.Range{one}, maxRangeCount)...)
		checkWrittenRanges(t, "", slices.Repeat([]impl.Range{one}, maxRangeCount+1)...)
	}
}

func TestRangesChangeNothing(t *testing.T) {
	list := []impl.Range{fromTo(4, 9), fromTo(5, 5), fromTo(7, 7)}
	first := impl.WriteRanges(list[:2])
	impl.WriteRanges(list[:1])
	if !slices.Equal(list, []impl.Range{fromTo(4, 9), fromTo(5, 5), fromTo(7, 7)}) || first != "4:9,5" {
		t.Errorf("WriteRanges wrote into %v", list)
	}
	read := impl.ReadRanges("4:9,5")
	clear(read)
	checkRanges(t, "4:9,5", fromTo(4, 9), just(5))
}

// asking is a node of a query with the nodes below it.
type asking struct {
	node impl.QueryNode
	kids []asking
}

func leafKey(kind int64) asking { return asking{node: impl.QueryNode{Kind: kind}} }

func flagKey(kind int64, name string) asking {
	return asking{node: impl.QueryNode{Kind: kind, Name: name}}
}

func fieldKey(name, text string) asking {
	return asking{node: impl.QueryNode{Kind: impl.SkField, Name: name, Text: text}}
}

func textKey(kind int64, text string) asking {
	return asking{node: impl.QueryNode{Kind: kind, Text: text}}
}

func numKey(kind, num int64) asking { return asking{node: impl.QueryNode{Kind: kind, Num: num}} }

func uidKey(ranges ...impl.Range) asking {
	return asking{node: impl.QueryNode{Kind: impl.SkUids, Uids: ranges}}
}

func notKey(kid asking) asking { return asking{impl.QueryNode{Kind: impl.SkNot}, []asking{kid}} }

func orKey(a, b asking) asking { return asking{impl.QueryNode{Kind: impl.SkOr}, []asking{a, b}} }

func andKey(kids ...asking) asking { return asking{impl.QueryNode{Kind: impl.SkAnd}, kids} }

var allKey = leafKey(impl.SkAll)

func queryNodes(q asking) []impl.QueryNode { return appendQueryNodes(nil, q) }

func appendQueryNodes(nodes []impl.QueryNode, q asking) []impl.QueryNode {
	node := q.node
	node.Uids = slices.Clone(node.Uids)
	for _, kid := range q.kids {
		nodes = appendQueryNodes(nodes, kid)
		node.Kids = append(node.Kids, int64(len(nodes)-1))
	}
	return append(nodes, node)
}

func sameQueryNode(a, b impl.QueryNode) bool {
	return a.Kind == b.Kind && a.Name == b.Name && a.Text == b.Text && a.Num == b.Num && slices.Equal(a.Uids, b.Uids) && slices.Equal(a.Kids, b.Kids)
}

func sameQueryNodes(a, b []impl.QueryNode) bool { return slices.EqualFunc(a, b, sameQueryNode) }

func sameQuery(a, b impl.Query) bool {
	return a.Code == b.Code && a.At == b.At && sameQueryNodes(a.Nodes, b.Nodes)
}

func checkReadQuery(t *testing.T, text string, want impl.Query) {
	t.Helper()
	got := impl.ReadQuery(text)
	if !sameQuery(got, want) {
		t.Errorf("ReadQuery of %s: %s, want %s", short(text), short(shown(got)), short(shown(want)))
	}
	if fault := impl.QueryFault(got.Nodes); got.Code == impl.OK && fault != impl.OK {
		t.Errorf("QueryFault of ReadQuery of %s: %d", short(text), fault)
	}
	if slow := slowReadQuery(text); !sameQuery(slow, want) {
		t.Errorf("%s is slowly read as %s, want %s", short(text), short(shown(slow)), short(shown(want)))
	}
}

func checkQuery(t *testing.T, text string, want asking) {
	t.Helper()
	checkReadQuery(t, text, impl.Query{Nodes: queryNodes(want)})
}

func checkIllQuery(t *testing.T, text string, at int) {
	t.Helper()
	checkReadQuery(t, text, impl.Query{Code: impl.ErrSyntax, At: int64(at)})
}

// slowWord is a word of a query as it stands, and its place.
type slowWord struct {
	text string
	at   int
}

var queryWordForm = regexp.MustCompile(`(?s)\A(?:"(?:\\.|[^"\\])*"|\(|\)|[!#-'*-~]+)`)

// latinRunes has each byte as the character of its number, since patterns know characters alone.
func latinRunes(text string) string {
	var out strings.Builder
	for at := range len(text) {
		out.WriteRune(rune(text[at]))
	}
	return out.String()
}

func latinBytes(text string) string {
	var out []byte
	for _, r := range text {
		out = append(out, byte(r))
	}
	return string(out)
}

// slowQueryWords are the words up to the first byte at which there is none, or a space is wrong; that is -1 if there is none.
func slowQueryWords(text string) (words []slowWord, wrong int) {
	for at := 0; at < len(text); {
		rest := text[at:]
		inside := len(words) > 0 && words[len(words)-1].text != "(" && rest[0] != ')'
		switch {
		case inside && rest[0] != ' ':
			return words, at
		case inside && rest == " ":
			return words, len(text)
		case inside && rest[1] == ')':
			return words, at
		case inside:
			at++
		}
		found := latinBytes(queryWordForm.FindString(latinRunes(text[at:])))
		if found == "" {
			return words, at
		}
		words = append(words, slowWord{found, at})
		at += len(found)
	}
	return words, -1
}

// queryGrammar is that of chapter 15; names in capital letters are kinds of words.
var queryGrammar = map[string][]string{
	"query": {"key", "key query"},
	"key":   {"ALONE", "KEYWORD FLAG", "FROM TEXT", "HEADER NAME TEXT", "SINCE DATE", "LARGER NUMBER", "UID RANGES", "NOT key", "OR key key", "( query )"},
}

var queryForms = map[string]*regexp.Regexp{
	"ALONE":   regexp.MustCompile(`(?i)\A(ALL|(UN)?(SEEN|FLAGGED|DELETED|ANSWERED))\z`),
	"KEYWORD": regexp.MustCompile(`(?i)\A(UN)?KEYWORD\z`),
	"FROM":    regexp.MustCompile(`(?i)\A(FROM|TO|CC|SUBJECT|BODY|TEXT)\z`),
	"HEADER":  regexp.MustCompile(`(?i)\AHEADER\z`),
	"SINCE":   regexp.MustCompile(`(?i)\A(SINCE|BEFORE|ON)\z`),
	"LARGER":  regexp.MustCompile(`(?i)\A(LARGER|SMALLER|MODSEQ)\z`),
	"UID":     regexp.MustCompile(`(?i)\AUID\z`),
	"NOT":     regexp.MustCompile(`(?i)\ANOT\z`),
	"OR":      regexp.MustCompile(`(?i)\AOR\z`),
	"(":       regexp.MustCompile(`\A\(\z`),
	")":       regexp.MustCompile(`\A\)\z`),
	"FLAG":    flagForm,
	"NAME":    regexp.MustCompile(`\A[!#-'*-9;-~]{1,70}\z`),
	"NUMBER":  regexp.MustCompile(`\A[0-9]{1,10}\z`),
}

func isQueryToken(name, token string) bool {
	switch name {
	case "TEXT":
		return token != "(" && token != ")" && len(slowSaid(token)) <= maxQueryText
	case "DATE":
		_, good := slowDay(token)
		return good
	case "RANGES":
		return slowRanges(token) != nil
	}
	return queryForms[name].MatchString(latinRunes(token))
}

var escapedByte = regexp.MustCompile(`(?s)\\(.)`)

// slowSaid is what a word says.
func slowSaid(token string) string {
	if token[0] != '"' {
		return token
	}
	return latinBytes(escapedByte.ReplaceAllString(latinRunes(token[1:len(token)-1]), "$1"))
}

var dayForm = regexp.MustCompile(`\A[0-9]{1,2}-[A-Za-z]{3}-[0-9]{4}\z`)

func slowDay(token string) (days int64, good bool) {
	day, err := time.Parse("2-Jan-2006", token)
	if err != nil || !dayForm.MatchString(token) || day.Year() < 1970 {
		return 0, false
	}
	return day.Unix() / 86400, true
}

// slowReader makes nodes of words that are a query.
type slowReader struct {
	words []slowWord
	nodes []impl.QueryNode
}

func (r *slowReader) take() string {
	text := r.words[0].text
	r.words = r.words[1:]
	return text
}

func (r *slowReader) put(node impl.QueryNode) int64 {
	r.nodes = append(r.nodes, node)
	return int64(len(r.nodes) - 1)
}

func (r *slowReader) query() int64 {
	var kids []int64
	for len(r.words) > 0 && r.words[0].text != ")" {
		kids = append(kids, r.key())
	}
	if len(kids) == 1 {
		return kids[0]
	}
	return r.put(impl.QueryNode{Kind: impl.SkAnd, Kids: kids})
}

func (r *slowReader) key() int64 {
	texted := map[string]int64{"BODY": impl.SkBody, "TEXT": impl.SkText}
	dated := map[string]int64{"SINCE": impl.SkSince, "BEFORE": impl.SkBefore, "ON": impl.SkOn}
	counted := map[string]int64{"LARGER": impl.SkLarger, "SMALLER": impl.SkSmaller, "MODSEQ": impl.SkMod}
	fielded := map[string]string{"FROM": "From", "TO": "To", "CC": "Cc", "SUBJECT": "Subject"}
	flags := map[string]string{"SEEN": `\Seen`, "FLAGGED": `\Flagged`, "DELETED": `\Deleted`, "ANSWERED": `\Answered`}
	word := strings.ToUpper(r.take())
	without, un := strings.CutPrefix(word, "UN")
	flagKind := int64(impl.SkFlag)
	if un {
		flagKind = impl.SkNoFlag
	}
	switch {
	case word == "(":
		inner := r.query()
		r.take()
		return inner
	case word == "ALL":
		return r.put(impl.QueryNode{Kind: impl.SkAll})
	case flags[without] != "":
		return r.put(impl.QueryNode{Kind: flagKind, Name: flags[without]})
	case without == "KEYWORD":
		return r.put(impl.QueryNode{Kind: flagKind, Name: r.take()})
	case fielded[word] != "":
		return r.put(impl.QueryNode{Kind: impl.SkField, Name: fielded[word], Text: slowSaid(r.take())})
	case word == "HEADER":
		name := r.take()
		return r.put(impl.QueryNode{Kind: impl.SkField, Name: name, Text: slowSaid(r.take())})
	case texted[word] != 0:
		return r.put(impl.QueryNode{Kind: texted[word], Text: slowSaid(r.take())})
	case dated[word] != 0:
		day, _ := slowDay(r.take())
		return r.put(impl.QueryNode{Kind: dated[word], Num: day})
	case counted[word] != 0:
		number, _ := strconv.ParseInt(r.take(), 10, 64)
		return r.put(impl.QueryNode{Kind: counted[word], Num: number})
	case word == "UID":
		return r.put(impl.QueryNode{Kind: impl.SkUids, Uids: slowRanges(r.take())})
	case word == "NOT":
		return r.put(impl.QueryNode{Kind: impl.SkNot, Kids: ids(r.key())})
	}
	first := r.key()
	return r.put(impl.QueryNode{Kind: impl.SkOr, Kids: ids(first, r.key())})
}

// slowDepth is how many nodes stand on the longest way down from a node.
func slowDepth(nodes []impl.QueryNode, at int64) int {
	depth := 0
	for _, kid := range nodes[at].Kids {
		depth = max(depth, slowDepth(nodes, kid))
	}
	return depth + 1
}

func slowReadQuery(text string) impl.Query {
	if len(text) > maxQuery {
		return impl.Query{Code: impl.ErrSize}
	}
	words, wrong := slowQueryWords(text)
	var tokens []string
	for _, one := range words {
		tokens = append(tokens, one.text)
	}
	r := recognizer{grammar: queryGrammar, isToken: isQueryToken, tokens: tokens}
	ill := r.firstIllOf("query")
	switch {
	case ill >= 0 && ill < len(words):
		return impl.Query{Code: impl.ErrSyntax, At: int64(words[ill].at)}
	case wrong >= 0:
		return impl.Query{Code: impl.ErrSyntax, At: int64(wrong)}
	case ill >= 0:
		return impl.Query{Code: impl.ErrSyntax, At: int64(len(text))}
	}
	reader := slowReader{words: words}
	whole := reader.query()
	if len(reader.nodes) > maxQueryNodes || slowDepth(reader.nodes, whole) > maxQueryDeep {
		return impl.Query{Code: impl.ErrCount}
	}
	return impl.Query{Nodes: reader.nodes}
}

// keyCase is a key of a query with what it wants behind it, and what it is read as.
type keyCase struct {
	key   string
	wants []string
	read  asking
}

func keyCases() []keyCase {
	return []keyCase{
		{"ALL", nil, allKey},
		{"SEEN", nil, flagKey(impl.SkFlag, `\Seen`)},
		{"UNSEEN", nil, flagKey(impl.SkNoFlag, `\Seen`)},
		{"FLAGGED", nil, flagKey(impl.SkFlag, `\Flagged`)},
		{"UNFLAGGED", nil, flagKey(impl.SkNoFlag, `\Flagged`)},
		{"DELETED", nil, flagKey(impl.SkFlag, `\Deleted`)},
		{"UNDELETED", nil, flagKey(impl.SkNoFlag, `\Deleted`)},
		{"ANSWERED", nil, flagKey(impl.SkFlag, `\Answered`)},
		{"UNANSWERED", nil, flagKey(impl.SkNoFlag, `\Answered`)},
		{"KEYWORD", some("lAter"), flagKey(impl.SkFlag, "lAter")},
		{"UNKEYWORD", some("$x-_9"), flagKey(impl.SkNoFlag, "$x-_9")},
		{"FROM", some(`"a b"`), fieldKey("From", "a b")},
		{"TO", some("x"), fieldKey("To", "x")},
		{"CC", some("Xy"), fieldKey("Cc", "Xy")},
		{"SUBJECT", some(`""`), fieldKey("Subject", "")},
		{"HEADER", some("x-Y", "z"), fieldKey("x-Y", "z")},
		{"BODY", some("b"), textKey(impl.SkBody, "b")},
		{"TEXT", some(`"\""`), textKey(impl.SkText, `"`)},
		{"SINCE", some("1-Jan-1970"), numKey(impl.SkSince, 0)},
		{"BEFORE", some("02-jan-1970"), numKey(impl.SkBefore, 1)},
		{"ON", some("29-FEB-2000"), numKey(impl.SkOn, 11016)},
		{"LARGER", some("5"), numKey(impl.SkLarger, 5)},
		{"SMALLER", some("007"), numKey(impl.SkSmaller, 7)},
		{"MODSEQ", some("9999999999"), numKey(impl.SkMod, 9999999999)},
		{"UID", some("9:7,*"), uidKey(fromTo(7, 9), just(maxNumber))},
		{"NOT", some("ALL"), notKey(allKey)},
		{"OR", some("ALL", "SEEN"), orKey(allKey, flagKey(impl.SkFlag, `\Seen`))},
	}
}

func TestReadQueryKeys(t *testing.T) {
	for _, c := range keyCases() {
		small := strings.ToLower(c.key)
		for _, key := range some(c.key, small, c.key[:1]+small[1:], small[:1]+c.key[1:]) {
			text := strings.Join(append(some(key), c.wants...), " ")
			checkQuery(t, text, c.read)
			checkQuery(t, "("+text+")", c.read)
			checkQuery(t, "ALL "+text+" UID 1", andKey(allKey, c.read, uidKey(just(1))))
			checkQuery(t, "NOT "+text, notKey(c.read))
			checkQuery(t, "OR "+text+" ("+text+")", orKey(c.read, c.read))
		}
	}
}

func TestReadQueryLacking(t *testing.T) {
	for _, c := range keyCases() {
		text := c.key
		for _, want := range c.wants {
			checkIllQuery(t, text, len(text))
			checkIllQuery(t, text+" ", len(text)+1)
			checkIllQuery(t, "("+text+")", len(text)+1)
			ill := len(text) + 1
			if c.key == "NOT" || c.key == "OR" {
				// A bracket may stand there, but with something in it.
				ill++
			}
			checkIllQuery(t, text+" ()", ill)
			text += " " + want
		}
		// One word too much.
		for _, more := range some("5", `"ALL"`, "x", "1-Jan-1970", ")", "*") {
			if more == ")" {
				checkIllQuery(t, text+more, len(text))
			} else {
				checkIllQuery(t, text+" "+more, len(text)+1)
				checkIllQuery(t, "("+text+" "+more+")", len(text)+2)
			}
		}
		// The key in quotes, or with a byte more or less.
		quoted := strings.Replace(text, c.key, `"`+c.key+`"`, 1)
		checkIllQuery(t, quoted, 0)
		checkIllQuery(t, "ALL "+quoted, 4)
		checkIllQuery(t, strings.Replace(text, c.key, c.key+"x", 1), 0)
		checkIllQuery(t, strings.Replace(text, c.key, "x"+c.key, 1), 0)
		checkIllQuery(t, "-"+text, 0)
	}
	for _, key := range some("NEW", "RECENT", "DRAFT", "UNDRAFT", "BCC", "OLD", "SENTON", "UNALL", "UNFROM", "UN", "AND", "1", "*", `\Seen`, "KEYWORDS", "MOD", "UIDS", "Kelvin") {
		checkIllQuery(t, key, 0)
		checkIllQuery(t, "NOT "+key, 4)
	}
}

func TestReadQueryTexts(t *testing.T) {
	for _, c := range []struct{ written, said string }{
		{`a`, "a"}, {`"a"`, "a"}, {`""`, ""}, {`" "`, " "}, {`"  a  "`, "  a  "}, {`"("`, "("}, {`")"`, ")"}, {`"a) (b"`, "a) (b"},
		{`"\""`, `"`}, {`"\\"`, `\`}, {`"\a"`, "a"}, {`"\ "`, " "}, {`"\\\""`, `\"`}, {`"a\"b"`, `a"b`}, {`"\n"`, "n"},
		{`a\b`, `a\b`}, {`\`, `\`}, {`\\`, `\\`}, {`'`, "'"}, {`ALL`, "ALL"}, {`!#~`, "!#~"},
		{"\"\x00\x1f\x7f\x80\xff\r\n\t\"", "\x00\x1f\x7f\x80\xff\r\n\t"}, {"\"\\\x00\\\xff\\\n\"", "\x00\xff\n"}, {`"ä"`, "ä"},
	} {
		checkQuery(t, "BODY "+c.written, textKey(impl.SkBody, c.said))
		checkQuery(t, "(NOT FROM "+c.written+")", notKey(fieldKey("From", c.said)))
		checkQuery(t, "HEADER X "+c.written+" ALL", andKey(fieldKey("X", c.said), allKey))
	}
	// Texts without their end.
	for _, open := range some(`"`, `"a`, `"a b`, `"\`, `"\"`, `"a\"`, `"a\\\"`, `"\\\`, `" ALL`, `"a) `) {
		checkIllQuery(t, "TEXT "+open, 5)
		checkIllQuery(t, "(TEXT "+open, 6)
		checkIllQuery(t, "HEADER X "+open, 9)
		checkIllQuery(t, open, 0)
		checkIllQuery(t, "UID "+open, 4)
	}
	// Nothing but a space, a bracket's or the query's end may stand behind a text, and no text behind a word.
	checkIllQuery(t, `TEXT "a"b`, 8)
	checkIllQuery(t, `TEXT "a""b"`, 8)
	checkIllQuery(t, `TEXT "a"(ALL)`, 8)
	checkIllQuery(t, `TEXT "a"b"c"`, 8)
	checkIllQuery(t, `TEXT a"b"`, 6)
	checkIllQuery(t, `TEXT"b"`, 4)
	checkIllQuery(t, `ALL"`, 3)
	checkIllQuery(t, "BODY (", 5)
	checkIllQuery(t, "BODY (a)", 5)
	checkIllQuery(t, "BODY )", 4)
	checkIllQuery(t, "BODY)", 4)
	checkIllQuery(t, "BODY(", 4)
}

func TestReadQueryTextSizes(t *testing.T) {
	for _, ahead := range some("FROM ", "CC ", "BODY ", "TEXT ", "HEADER x ", "NOT (ALL SUBJECT ") {
		end := strings.Repeat(")", strings.Count(ahead, "("))
		for _, size := range []int{maxQueryText - 1, maxQueryText} {
			for _, text := range some(xs(size), `"`+xs(size)+`"`, `"`+strings.Repeat(`\"`, size)+`"`, `"`+strings.Repeat(`\x`, size)+`"`) {
				got := impl.ReadQuery(ahead + text + end)
				if got.Code != impl.OK || len(got.Nodes) == 0 || !slices.ContainsFunc(got.Nodes, func(node impl.QueryNode) bool { return len(node.Text) == size }) {
					t.Errorf("ReadQuery of %s: %s", short(ahead+text+end), short(shown(got)))
				}
				checkReadQuery(t, ahead+text+end, slowReadQuery(ahead+text+end))
			}
		}
		size := maxQueryText + 1
		for _, text := range some(xs(size), `"`+xs(size)+`"`, `"`+strings.Repeat(`\"`, size)+`"`, xs(1000), `"`+xs(maxQueryText)+" "+`"`) {
			checkIllQuery(t, ahead+text+end, len(ahead))
		}
	}
}

func TestReadQueryBytes(t *testing.T) {
	for b := range 256 {
		sign := string([]byte{byte(b)})
		for _, text := range some(sign, "ALL"+sign, sign+"ALL", "ALL "+sign, "ALL"+sign+"SEEN", "TEXT "+sign, "TEXT a"+sign, "TEXT a"+sign+"b", "TEXT "+sign+" ALL", "(ALL"+sign, "("+sign+"ALL)", "(ALL)"+sign, "KEYWORD a"+sign, "HEADER a"+sign+" b", "HEADER "+sign+"a b", "UID 1"+sign, "UID "+sign+"1", "ON 1-Jan-2000"+sign, "LARGER 1"+sign, "NOT"+sign+"ALL") {
			checkReadQuery(t, text, slowReadQuery(text))
		}
		if sign != `"` && sign != `\` {
			checkQuery(t, `BODY "`+sign+`"`, textKey(impl.SkBody, sign))
		}
		checkQuery(t, `BODY "\`+sign+`"`, textKey(impl.SkBody, sign))
		if b >= 33 && b <= 126 && !strings.Contains(`"()`, sign) {
			checkQuery(t, "BODY "+sign, textKey(impl.SkBody, sign))
		}
	}
	for b := range 32 {
		checkIllQuery(t, "BODY a"+string([]byte{byte(b)})+" ALL", 6)
		checkIllQuery(t, "BODY "+string([]byte{byte(b)}), 5)
	}
	for b := 127; b < 256; b++ {
		checkIllQuery(t, "BODY a"+string([]byte{byte(b)}), 6)
		checkIllQuery(t, "BODY "+string([]byte{byte(b)}), 5)
		checkIllQuery(t, string([]byte{byte(b)}), 0)
	}
}

func TestReadQuerySpaces(t *testing.T) {
	checkIllQuery(t, "", 0)
	checkIllQuery(t, " ", 0)
	checkIllQuery(t, "  ", 0)
	checkIllQuery(t, " ALL", 0)
	checkIllQuery(t, "ALL ", 4)
	checkIllQuery(t, "ALL  ", 4)
	checkIllQuery(t, "ALL  ALL", 4)
	checkIllQuery(t, "ALL   ALL", 4)
	checkIllQuery(t, "ALL\tALL", 3)
	checkIllQuery(t, "ALL \tALL", 4)
	checkIllQuery(t, "FROM  a", 5)
	checkIllQuery(t, "FROM a  ALL", 7)
	checkIllQuery(t, "FROM a ", 7)
	checkIllQuery(t, `FROM "a" `, 9)
	checkIllQuery(t, `FROM "a"  ALL`, 9)
	checkIllQuery(t, "UID 1  ALL", 6)
	checkIllQuery(t, "OR ALL  ALL", 7)
	checkIllQuery(t, "OR ALL ", 7)
	checkIllQuery(t, "OR  ALL ALL", 3)
	checkIllQuery(t, "NOT  ALL", 4)
	checkIllQuery(t, "NOT ", 4)
	checkIllQuery(t, "( ALL)", 1)
	checkIllQuery(t, "(ALL )", 4)
	checkIllQuery(t, "( ALL )", 1)
	checkIllQuery(t, "(ALL) )", 5)
	checkIllQuery(t, "((ALL) )", 6)
	checkIllQuery(t, "( (ALL))", 1)
	checkIllQuery(t, "(ALL ) ALL", 4)
	checkIllQuery(t, "(ALL)ALL", 5)
	checkIllQuery(t, "(ALL)(ALL)", 5)
	checkIllQuery(t, "ALL(ALL)", 3)
	checkIllQuery(t, "NOT(ALL)", 3)
	checkIllQuery(t, "(ALL)  ALL", 6)
	checkIllQuery(t, "(ALL) ", 6)
	checkIllQuery(t, "(ALL ", 5)
	checkIllQuery(t, "( ", 1)
	checkIllQuery(t, "ALL )", 3)
	// The first word that is ill is told ahead of a space that is wrong behind it.
	checkIllQuery(t, "FOO  ALL", 0)
	checkIllQuery(t, "UID 0  ALL", 4)
	checkIllQuery(t, "ALL FOO ", 4)
	checkIllQuery(t, "FOO\x80", 0)
	checkIllQuery(t, `FOO "a`, 0)
}

func TestReadQueryBrackets(t *testing.T) {
	seen := flagKey(impl.SkFlag, `\Seen`)
	checkQuery(t, "(ALL)", allKey)
	checkQuery(t, "((((ALL))))", allKey)
	checkQuery(t, "(ALL SEEN)", andKey(allKey, seen))
	checkQuery(t, "((ALL SEEN))", andKey(allKey, seen))
	checkQuery(t, "ALL SEEN", andKey(allKey, seen))
	checkQuery(t, "(ALL SEEN) ALL", andKey(andKey(allKey, seen), allKey))
	checkQuery(t, "ALL (SEEN ALL)", andKey(allKey, andKey(seen, allKey)))
	checkQuery(t, "ALL (SEEN)", andKey(allKey, seen))
	checkQuery(t, "(ALL) (SEEN)", andKey(allKey, seen))
	checkQuery(t, "((ALL) (SEEN))", andKey(allKey, seen))
	checkQuery(t, "NOT (ALL)", notKey(allKey))
	checkQuery(t, "NOT (ALL SEEN)", notKey(andKey(allKey, seen)))
	checkQuery(t, "NOT ALL SEEN", andKey(notKey(allKey), seen))
	checkQuery(t, "OR (ALL SEEN) ALL", orKey(andKey(allKey, seen), allKey))
	checkQuery(t, "OR ALL (ALL SEEN)", orKey(allKey, andKey(allKey, seen)))
	checkQuery(t, "OR ALL SEEN ALL", andKey(orKey(allKey, seen), allKey))
	checkQuery(t, "OR NOT ALL OR SEEN ALL", orKey(notKey(allKey), orKey(seen, allKey)))
	checkQuery(t, "((ALL (SEEN (ALL SEEN))))", andKey(allKey, andKey(seen, andKey(allKey, seen))))
	checkQuery(t, strings.Repeat("(", 900)+"ALL"+strings.Repeat(")", 900), allKey)
	checkIllQuery(t, "()", 1)
	checkIllQuery(t, "(())", 2)
	checkIllQuery(t, "ALL ()", 5)
	checkIllQuery(t, "NOT ()", 5)
	checkIllQuery(t, "OR ALL ()", 8)
	checkIllQuery(t, "(", 1)
	checkIllQuery(t, "((", 2)
	checkIllQuery(t, ")", 0)
	checkIllQuery(t, "ALL)", 3)
	checkIllQuery(t, "(ALL", 4)
	checkIllQuery(t, "((ALL)", 6)
	checkIllQuery(t, "(ALL))", 5)
	checkIllQuery(t, "(OR ALL)", 7)
	checkIllQuery(t, "OR (ALL ALL)", 12)
	checkIllQuery(t, "(NOT) ALL", 4)
	checkIllQuery(t, "KEYWORD (a)", 8)
	checkIllQuery(t, "UID (1)", 4)
	checkIllQuery(t, "HEADER (a) b", 7)
	checkIllQuery(t, strings.Repeat("(", maxQuery), maxQuery)
	checkIllQuery(t, strings.Repeat("NOT ", maxQuery/4), maxQuery)
}

func TestReadQueryFlags(t *testing.T) {
	for _, name := range some("a", "Z9", "$-_", `\Seen`, `\Answered`, `\Flagged`, `\Deleted`, `\Draft`, xs(30), "ALL", "keyword", "1") {
		checkQuery(t, "KEYWORD "+name, flagKey(impl.SkFlag, name))
		checkQuery(t, "unkeyword "+name, flagKey(impl.SkNoFlag, name))
	}
	for _, name := range some(xs(31), `\seen`, `\Other`, `\`, "a.b", "a:b", "*", "a/b", "{", "'", `"a"`, `""`, `"\Seen"`, "a\\", `\\Seen`) {
		checkIllQuery(t, "KEYWORD "+name, 8)
		checkIllQuery(t, "(UNKEYWORD "+name+")", 11)
	}
}

func TestReadQueryNames(t *testing.T) {
	for _, name := range some("a", "From", "FROM", "from", "X-Y", `\`, "*", "!", "~", "'", "a\\b", xs(70), "ALL", "HEADER") {
		checkQuery(t, "HEADER "+name+" b", fieldKey(name, "b"))
	}
	for _, name := range some(":", "a:", ":a", "a:b", xs(71), `"a"`, `""`, xs(69)+"::") {
		checkIllQuery(t, "HEADER "+name+" b", 7)
	}
	checkIllQuery(t, "HEADER a", 8)
	checkIllQuery(t, "HEADER a (", 9)
	checkIllQuery(t, `HEADER a"b"`, 8)
}

func TestReadQueryDays(t *testing.T) {
	for _, c := range []struct {
		text string
		day  int64
	}{
		{"1-Jan-1970", 0}, {"01-Jan-1970", 0}, {"2-Jan-1970", 1}, {"31-Jan-1970", 30}, {"1-Feb-1970", 31}, {"28-Feb-1970", 58}, {"1-Mar-1970", 59},
		{"31-Dec-1970", 364}, {"1-Jan-1971", 365}, {"29-Feb-1972", 789}, {"29-Feb-2000", 11016}, {"1-Mar-2000", 11017}, {"31-Dec-9999", maxQueryDay},
		{"29-Feb-2400", 157113}, {"9-sep-1999", 10843}, {"09-SEP-1999", 10843}, {"09-sEp-1999", 10843},
	} {
		for key, kind := range map[string]int64{"SINCE": impl.SkSince, "BEFORE": impl.SkBefore, "ON": impl.SkOn} {
			checkQuery(t, key+" "+c.text, numKey(kind, c.day))
		}
		if want := impl.DayOf(c.day * 86400); want != c.day {
			t.Errorf("DayOf: %d, want %d", want, c.day)
		}
	}
	for month, name := range some("Jan", "Feb", "Mar", "Apr", "May", "Jun", "Jul", "Aug", "Sep", "Oct", "Nov", "Dec") {
		day := time.Date(2023, time.Month(month+1), 17, 0, 0, 0, 0, time.UTC).Unix() / 86400
		checkQuery(t, "ON 17-"+name+"-2023", numKey(impl.SkOn, day))
		checkQuery(t, "ON 17-"+strings.ToUpper(name)+"-2023", numKey(impl.SkOn, day))
		checkQuery(t, "ON 17-"+strings.ToLower(name)+"-2023", numKey(impl.SkOn, day))
	}
	for _, text := range some("0-Jan-1970", "00-Jan-1970", "32-Jan-1970", "29-Feb-1970", "30-Feb-2000", "29-Feb-1900", "29-Feb-2100", "31-Apr-2000", "31-Jun-2000",
		"31-Sep-2000", "31-Nov-2000", "99-Jan-2000", "31-Dec-1969", "1-Jan-1969", "1-Jan-0000", "1-Jan-1970x", "x1-Jan-1970", "001-Jan-1970", "100-Jan-1970", "-Jan-1970",
		"1-Jan-", "1-Jan-70", "1-Jan-197", "1-Jan-10000", "1-Jan-01970", "1--1970", "1-January-1970", "1-Ja-1970", "1-Foo-1970", "1-01-1970", "1970-Jan-1", "Jan-1-1970",
		"1Jan1970", "1-Jan-1970-", "-1-Jan-1970", "1-Jan--1970", "+1-Jan-1970", "1-Jan-+970", "a-Jan-1970", "1-Jan-19a0", "1:Jan:1970", "1", "-", "--", "---", `"1-Jan-1970"`, "*", "1-Jan") {
		checkIllQuery(t, "SINCE "+text, 6)
		checkIllQuery(t, "NOT (BEFORE "+text+" ALL)", 12)
		checkIllQuery(t, "ON "+text, 3)
	}
	checkIllQuery(t, "ON 1 -Jan-1970", 3)
	checkIllQuery(t, "ON 1-Jan-1970 1-Jan-1970", 14)
}

func TestReadQueryDaysOfAllMonths(t *testing.T) {
	for _, year := range []int{1970, 1972, 1999, 2000, 2001, 2100, 2399, 2400, 9996, 9999} {
		for month := time.January; month <= time.December; month++ {
			for day := range 33 {
				text := fmt.Sprintf("%d-%s-%04d", day, month.String()[:3], year)
				made := time.Date(year, month, day, 0, 0, 0, 0, time.UTC)
				if made.Day() == day && made.Month() == month {
					checkQuery(t, "ON "+text, numKey(impl.SkOn, made.Unix()/86400))
				} else {
					checkIllQuery(t, "ON "+text, 3)
				}
			}
		}
	}
}

func TestReadQueryNumbers(t *testing.T) {
	for key, kind := range map[string]int64{"LARGER": impl.SkLarger, "SMALLER": impl.SkSmaller, "MODSEQ": impl.SkMod} {
		for text, num := range map[string]int64{"0": 0, "1": 1, "00": 0, "0000000000": 0, "0000000001": 1, "999999999": 999999999, "1000000000": 1000000000, "4294967296": 4294967296, "9999999999": maxQueryNumber} {
			checkQuery(t, key+" "+text, numKey(kind, num))
		}
		for _, text := range some("00000000000", "10000000000", "00000000001", "-1", "+1", "1.5", "0x1", "1e3", "*", "a", "1a", "a1", "1_0", `"1"`, `""`, "18446744073709551616") {
			checkIllQuery(t, key+" "+text, len(key)+1)
			checkIllQuery(t, "("+key+" "+text+")", len(key)+2)
		}
	}
}

func TestReadQueryUids(t *testing.T) {
	for _, text := range some("1", "*", "1:5", "5:1", "1,2,3", "*:*", "4294967295", "1,*:7,3", strings.Repeat("1,", maxRangeCount-1)+"1") {
		checkQuery(t, "UID "+text, uidKey(slowRanges(text)...))
	}
	for _, text := range some("0", "01", "4294967296", "1,", ",1", "1:", ":", "1:2:3", "x", "1,x", `"1"`, `""`, "1.2", strings.Repeat("1,", maxRangeCount)+"1") {
		checkIllQuery(t, "UID "+text, 4)
		checkIllQuery(t, "ALL UID "+text+" ALL", 8)
	}
	checkIllQuery(t, "UID 1, 2", 4)
	checkIllQuery(t, "UID 1 ,2", 6)
}

func TestReadQuerySizes(t *testing.T) {
	// Brackets make a query long without making it great.
	for _, size := range []int{maxQuery - 1, maxQuery, maxQuery + 1, maxQuery + 2, maxText, maxText + 1} {
		key := "ALL"
		if size%2 == 0 {
			key = "SEEN"
		}
		text := strings.Repeat("(", (size-len(key))/2) + key + strings.Repeat(")", (size-len(key))/2)
		if len(text) != size {
			t.Fatalf("%d bytes, want %d", len(text), size)
		}
		if size <= maxQuery {
			checkReadQuery(t, text, slowReadQuery(text))
			if got := impl.ReadQuery(text); got.Code != impl.OK || len(got.Nodes) != 1 {
				t.Errorf("ReadQuery of %s: %s", short(text), shown(got))
			}
			checkIllQuery(t, xs(size), 0)
		} else {
			// Also where it is ill.
			for _, long := range some(text, xs(size), strings.Repeat(" ", size), strings.Repeat("ALL ", size/4)) {
				if len(long) > maxQuery {
					checkReadQuery(t, long, impl.Query{Code: impl.ErrSize})
				}
			}
		}
	}
}

func TestReadQueryCounts(t *testing.T) {
	// So many keys and the node that has them.
	several := func(count int) string { return strings.TrimSuffix(strings.Repeat("ALL ", count), " ") }
	for _, count := range []int{2, maxQueryNodes - 2, maxQueryNodes - 1} {
		checkQuery(t, several(count), andKey(slices.Repeat([]asking{allKey}, count)...))
	}
	tooMany := impl.Query{Code: impl.ErrCount}
	checkReadQuery(t, several(maxQueryNodes), tooMany)
	checkReadQuery(t, several(maxQueryNodes+1), tooMany)
	checkReadQuery(t, several(400), tooMany)
	checkReadQuery(t, "NOT ("+several(maxQueryNodes-2)+")", slowReadQuery("NOT ("+several(maxQueryNodes-2)+")"))
	checkReadQuery(t, "NOT ("+several(maxQueryNodes-1)+")", tooMany)
	// 99 nodes by 50 keys with OR between, but on long ways; so 33 of ORs with two keys each, and one more.
	ors := strings.Repeat("OR ALL ALL ", 32)
	checkQuery(t, ors+"ALL ALL ALL", andKey(append(slices.Repeat([]asking{orKey(allKey, allKey)}, 32), allKey, allKey, allKey)...))
	checkReadQuery(t, ors+"ALL ALL ALL ALL", tooMany)
	checkReadQuery(t, ors+"OR ALL ALL ALL", tooMany)
	// What is ill is told ahead of that, wherever it stands.
	checkIllQuery(t, several(maxQueryNodes)+" FOO", 4*maxQueryNodes)
	checkIllQuery(t, several(400)+")", 4*400-1)
	checkIllQuery(t, several(400)+" ", 4*400)
}

// nots is a key with so many NOTs ahead of it.
func nots(count int, key asking) asking {
	for range count {
		key = notKey(key)
	}
	return key
}

func TestReadQueryDeep(t *testing.T) {
	tooDeep := impl.Query{Code: impl.ErrCount}
	seen := flagKey(impl.SkFlag, `\Seen`)
	for count := range maxQueryDeep {
		checkQuery(t, strings.Repeat("NOT ", count)+"ALL", nots(count, allKey))
		checkQuery(t, strings.Repeat("NOT (", count)+"ALL"+strings.Repeat(")", count), nots(count, allKey))
	}
	checkReadQuery(t, strings.Repeat("NOT ", maxQueryDeep)+"ALL", tooDeep)
	checkReadQuery(t, strings.Repeat("NOT (", maxQueryDeep)+"ALL"+strings.Repeat(")", maxQueryDeep), tooDeep)
	checkReadQuery(t, strings.Repeat("NOT ", 400)+"ALL", tooDeep)
	// The node of several keys counts, too, at the top and below.
	checkQuery(t, strings.Repeat("NOT ", maxQueryDeep-2)+"ALL SEEN", andKey(nots(maxQueryDeep-2, allKey), seen))
	checkReadQuery(t, strings.Repeat("NOT ", maxQueryDeep-1)+"ALL SEEN", tooDeep)
	checkReadQuery(t, "SEEN "+strings.Repeat("NOT ", maxQueryDeep-1)+"ALL", tooDeep)
	checkQuery(t, strings.Repeat("NOT ", maxQueryDeep-2)+"(ALL SEEN)", nots(maxQueryDeep-2, andKey(allKey, seen)))
	checkReadQuery(t, strings.Repeat("NOT ", maxQueryDeep-1)+"(ALL SEEN)", tooDeep)
	checkQuery(t, "OR SEEN "+strings.Repeat("NOT ", maxQueryDeep-2)+"ALL", orKey(seen, nots(maxQueryDeep-2, allKey)))
	checkReadQuery(t, "OR SEEN "+strings.Repeat("NOT ", maxQueryDeep-1)+"ALL", tooDeep)
	checkReadQuery(t, "OR "+strings.Repeat("NOT ", maxQueryDeep-1)+"ALL SEEN", tooDeep)
	ands := strings.Repeat("(SEEN ", maxQueryDeep-1) + "ALL" + strings.Repeat(")", maxQueryDeep-1)
	want := allKey
	for range maxQueryDeep - 1 {
		want = andKey(seen, want)
	}
	checkQuery(t, ands, want)
	checkReadQuery(t, "SEEN "+ands, tooDeep)
	checkReadQuery(t, "NOT "+ands, tooDeep)
	checkIllQuery(t, strings.Repeat("NOT ", 400)+"FOO", 1600)
	// A node that is not on the way does not count.
	checkQuery(t, "OR "+strings.Repeat("NOT ", 8)+"ALL "+strings.Repeat("NOT ", 8)+"ALL", orKey(nots(8, allKey), nots(8, allKey)))
}

// wholeQueries have each thing of the grammar in them.
var wholeQueries = some(
	`ALL SEEN unseen FLAGGED Unflagged DELETED UNDELETED ANSWERED UNANSWERED`,
	`KEYWORD a UNKEYWORD \Draft (FROM "x y" (TO "(" CC z))`,
	`SUBJECT "\"\\" BODY )" NOT (TEXT "" HEADER X-Y "b")`,
	`OR (SINCE 1-Jan-1970 BEFORE 29-feb-2000) ON 31-Dec-9999`,
	`OR LARGER 5 OR SMALLER 07 MODSEQ 9999999999 UID 1,*:5`,
	`((NOT NOT ALL)) OR (UID 7) (OR ALL (ALL ALL))`,
)

// queryWords are words of all kinds, and some that are none.
var queryWords = some("ALL", "seen", "KEYWORD", "unkeyword", "FROM", "Text", "HEADER", "SINCE", "on", "LARGER", "MODSEQ", "UID", "NOT", "OR", "(", ")",
	"a", `\Seen`, `\Other`, `"a"`, `""`, `"a b"`, `"ALL"`, `"`, `"a`, "X:Y", "1-Jan-1970", "30-Feb-2000", "1", "0", "12345678901", "1:2,*", "1,", "*", "\x80", "\x00", "FOO", "'", "\\", " ", "()", "(ALL)")

func TestReadQueryOfTurnedBytes(t *testing.T) {
	right := 0
	check := func(text string) {
		want := slowReadQuery(text)
		checkReadQuery(t, text, want)
		if want.Code == impl.OK {
			right++
		}
	}
	for _, whole := range wholeQueries {
		for at := range len(whole) + 1 {
			check(whole[:at])
			for _, sign := range some(" ", `"`, "(", ")", `\`, "A", "1", "\x80", ",", "-") {
				check(whole[:at] + sign + whole[at:])
				if at < len(whole) {
					check(whole[:at] + sign + whole[at+1:])
				}
			}
			if at < len(whole) {
				check(whole[:at] + whole[at+1:])
			}
		}
	}
	if right < 300 {
		t.Errorf("only %d queries were right", right)
	}
}

func TestReadQueryOfAnyWords(t *testing.T) {
	d := dice{state: 1501}
	right := 0
	for range 30000 {
		var out strings.Builder
		for range 1 + d.below(3) {
			words, _ := slowQueryWords(wholeQueries[d.below(len(wholeQueries))])
			from := d.below(len(words))
			end := from + 1 + d.below(min(8, len(words)-from))
			for _, one := range words[from:end] {
				text := one.text
				if d.below(8) == 0 {
					text = queryWords[d.below(len(queryWords))]
				}
				ended := out.String()
				if ended != "" && !strings.HasSuffix(ended, "(") && text != ")" || d.below(60) == 0 {
					out.WriteString(" ")
				}
				out.WriteString(text)
			}
		}
		text := out.String()
		want := slowReadQuery(text)
		checkReadQuery(t, text, want)
		if want.Code == impl.OK {
			right++
		}
	}
	if right < 2000 {
		t.Errorf("only %d queries were right", right)
	}
}

// queryPostOrder are the numbers of the nodes below one and its own, kids ahead of their node; nothing if that goes wrong.
func queryPostOrder(nodes []impl.QueryNode, at int64, room int) []int64 {
	var numbers []int64
	for _, kid := range nodes[at].Kids {
		if kid < 0 || kid >= at || room <= 0 {
			return nil
		}
		below := queryPostOrder(nodes, kid, room-1-len(numbers))
		if below == nil {
			return nil
		}
		numbers = append(numbers, below...)
	}
	return append(numbers, at)
}

// withoutOwn is a node without what its kind may have, if that is right.
func withoutOwn(node impl.QueryNode) (rest impl.QueryNode, right bool) {
	rest = node
	rest.Kind = 0
	switch node.Kind {
	case impl.SkAll:
		right = true
	case impl.SkFlag, impl.SkNoFlag:
		rest.Name, right = "", flagForm.MatchString(node.Name)
	case impl.SkField:
		rest.Name, rest.Text = "", ""
		right = queryForms["NAME"].MatchString(latinRunes(node.Name)) && len(node.Text) <= maxQueryText
	case impl.SkBody, impl.SkText:
		rest.Text, right = "", len(node.Text) <= maxQueryText
	case impl.SkSince, impl.SkBefore, impl.SkOn:
		rest.Num, right = 0, node.Num >= 0 && node.Num <= maxQueryDay
	case impl.SkLarger, impl.SkSmaller, impl.SkMod:
		rest.Num, right = 0, node.Num >= 0 && node.Num <= maxQueryNumber
	case impl.SkUids:
		rest.Uids, right = nil, impl.WriteRanges(node.Uids) != ""
	case impl.SkNot:
		rest.Kids, right = nil, len(node.Kids) == 1
	case impl.SkOr:
		rest.Kids, right = nil, len(node.Kids) == 2
	case impl.SkAnd:
		rest.Kids, right = nil, len(node.Kids) >= 2
	}
	return rest, right
}

func slowQueryFault(nodes []impl.QueryNode) int64 {
	if len(nodes) < 1 || len(nodes) > maxQueryNodes {
		return impl.ErrForm
	}
	whole := int64(len(nodes) - 1)
	if !slices.Equal(queryPostOrder(nodes, whole, maxQueryNodes), upTo(0, whole)) || slowDepth(nodes, whole) > maxQueryDeep {
		return impl.ErrForm
	}
	for _, node := range nodes {
		if rest, right := withoutOwn(node); !right || !sameQueryNode(rest, impl.QueryNode{}) {
			return impl.ErrForm
		}
	}
	return impl.OK
}

func checkQueryFault(t *testing.T, what string, nodes []impl.QueryNode, want int64) {
	t.Helper()
	if got := impl.QueryFault(nodes); got != want {
		t.Errorf("%s: QueryFault of %s: %d, want %d", what, short(shown(nodes)), got, want)
	}
	if slow := slowQueryFault(nodes); slow != want {
		t.Errorf("%s: %s is slowly %d, want %d", what, short(shown(nodes)), slow, want)
	}
	written := impl.WriteQuery(nodes)
	if want != impl.OK {
		if written != "" {
			t.Errorf("%s: WriteQuery of %s: %s", what, short(shown(nodes)), short(written))
		}
		if found := impl.Search(impl.Mailbox{Mails: manyMails(2, "")}, nodes); len(found) != 0 {
			t.Errorf("%s: Search of %s: %v", what, short(shown(nodes)), found)
		}
	}
}

func checkQueryKinds(t *testing.T, what string, one asking, want int64) {
	t.Helper()
	checkQueryFault(t, what, queryNodes(one), want)
	checkQueryFault(t, what+" below NOT", queryNodes(notKey(one)), want)
	checkQueryFault(t, what+" below OR", queryNodes(orKey(allKey, one)), want)
	checkQueryFault(t, what+" ahead of others", queryNodes(andKey(one, allKey)), want)
}

// withNode is a query whose whole is a node that was changed.
func withNode(q asking, change func(node *impl.QueryNode)) asking {
	q.node.Uids = slices.Clone(q.node.Uids)
	change(&q.node)
	return q
}

func TestQueryFaultKinds(t *testing.T) {
	checkQueryFault(t, "none", nil, impl.ErrForm)
	checkQueryFault(t, "none", []impl.QueryNode{}, impl.ErrForm)
	checkQueryFault(t, "a zero node", make([]impl.QueryNode, 1), impl.ErrForm)
	for _, c := range keyCases() {
		checkQueryKinds(t, c.key, c.read, impl.OK)
		for _, kind := range ids(0, 17, -1, 18, 100, math.MaxInt64, math.MinInt64) {
			checkQueryKinds(t, "another kind than "+c.key, withNode(c.read, func(node *impl.QueryNode) { node.Kind = kind }), impl.ErrForm)
		}
		// All other kinds that there are, with what this one has.
		for kind := int64(1); kind <= 16; kind++ {
			turned := withNode(c.read, func(node *impl.QueryNode) { node.Kind = kind })
			checkQueryKinds(t, c.key+" as another kind", turned, slowQueryFault(queryNodes(turned)))
		}
	}
}

func TestQueryFaultFields(t *testing.T) {
	filled := map[string]func(node *impl.QueryNode){
		"Name": func(node *impl.QueryNode) { node.Name = "x" },
		"Text": func(node *impl.QueryNode) { node.Text = "x" },
		"Num":  func(node *impl.QueryNode) { node.Num = 1 },
		"Uids": func(node *impl.QueryNode) { node.Uids = []impl.Range{just(1)} },
	}
	own := map[int64]string{
		impl.SkFlag: "Name", impl.SkNoFlag: "Name", impl.SkField: "Name Text", impl.SkBody: "Text", impl.SkText: "Text", impl.SkSince: "Num", impl.SkBefore: "Num",
		impl.SkOn: "Num", impl.SkLarger: "Num", impl.SkSmaller: "Num", impl.SkMod: "Num", impl.SkUids: "Uids",
	}
	cases := append(keyCases(), keyCase{"several keys", nil, andKey(allKey, allKey)})
	for _, c := range cases {
		for field, fill := range filled {
			want := int64(impl.ErrForm)
			if strings.Contains(own[c.read.node.Kind], field) {
				want = impl.OK
			}
			checkQueryKinds(t, c.key+" with a "+field, withNode(c.read, fill), want)
		}
		for number := range maxQueryDeep {
			more := c.read
			more.kids = append(slices.Clone(c.read.kids), slices.Repeat([]asking{allKey}, number)...)
			want := int64(impl.OK)
			if number > 0 && c.read.node.Kind != impl.SkAnd {
				want = impl.ErrForm
			}
			checkQueryKinds(t, c.key+" with more kids", more, want)
		}
	}
}

func TestQueryFaultBounds(t *testing.T) {
	for _, kind := range ids(impl.SkSince, impl.SkBefore, impl.SkOn) {
		for num, want := range map[int64]int64{-1: impl.ErrForm, 0: 0, 1: 0, maxQueryDay - 1: 0, maxQueryDay: 0, maxQueryDay + 1: impl.ErrForm, maxQueryNumber: impl.ErrForm, math.MinInt64: impl.ErrForm, math.MaxInt64: impl.ErrForm} {
			checkQueryKinds(t, "a day", numKey(kind, num), want)
		}
	}
	for _, kind := range ids(impl.SkLarger, impl.SkSmaller, impl.SkMod) {
		for num, want := range map[int64]int64{-1: impl.ErrForm, 0: 0, 1: 0, maxQueryDay + 1: 0, maxNumber + 1: 0, maxQueryNumber - 1: 0, maxQueryNumber: 0, maxQueryNumber + 1: impl.ErrForm, math.MinInt64: impl.ErrForm, math.MaxInt64: impl.ErrForm} {
			checkQueryKinds(t, "a number", numKey(kind, num), want)
		}
	}
	for size, want := range map[int]int64{0: 0, 1: 0, maxQueryText - 1: 0, maxQueryText: 0, maxQueryText + 1: impl.ErrForm, maxText: impl.ErrForm, maxText + 1: impl.ErrForm} {
		checkQueryKinds(t, "a text", fieldKey("X", xs(size)), want)
		checkQueryKinds(t, "a text", textKey(impl.SkBody, xs(size)), want)
		checkQueryKinds(t, "a text", textKey(impl.SkText, strings.Repeat("\x00", size)), want)
	}
	for size, want := range map[int]int64{0: impl.ErrForm, 1: 0, 69: 0, 70: 0, 71: impl.ErrForm, maxText + 1: impl.ErrForm} {
		checkQueryKinds(t, "a name", fieldKey(xs(size), ""), want)
	}
	for size, want := range map[int]int64{0: impl.ErrForm, 1: 0, 30: 0, 31: impl.ErrForm, maxText + 1: impl.ErrForm} {
		checkQueryKinds(t, "a flag", flagKey(impl.SkFlag, xs(size)), want)
		checkQueryKinds(t, "a flag", flagKey(impl.SkNoFlag, xs(size)), want)
	}
	for b := range 256 {
		sign := string([]byte{byte(b)})
		want := int64(impl.ErrForm)
		if b >= 33 && b <= 126 && !strings.Contains(`:"()`, sign) {
			want = impl.OK
		}
		checkQueryFault(t, "a name's byte", queryNodes(fieldKey(sign, "")), want)
		checkQueryFault(t, "a name's byte", queryNodes(fieldKey("a"+sign+"b", "")), want)
		checkQueryFault(t, "a flag's byte", queryNodes(flagKey(impl.SkFlag, "a"+sign)), impl.FlagFault("a"+sign))
		checkQueryFault(t, "a flag's byte", queryNodes(flagKey(impl.SkNoFlag, sign)), impl.FlagFault(sign))
		checkQueryFault(t, "a text's byte", queryNodes(textKey(impl.SkText, sign)), impl.OK)
	}
	for _, name := range some(`\Seen`, `\Answered`, `\Flagged`, `\Deleted`, `\Draft`) {
		checkQueryKinds(t, "a flag", flagKey(impl.SkFlag, name), impl.OK)
		checkQueryKinds(t, "a flag", flagKey(impl.SkNoFlag, strings.ToLower(name)), impl.ErrForm)
	}
	for _, list := range [][]impl.Range{nil, {just(0)}, {fromTo(2, 1)}, {just(1), just(maxNumber + 1)}, slices.Repeat([]impl.Range{just(1)}, maxRangeCount+1)} {
		checkQueryKinds(t, "ranges", uidKey(list...), impl.ErrForm)
	}
	for _, list := range [][]impl.Range{{just(1)}, {just(maxNumber)}, {fromTo(1, maxNumber), just(1)}, slices.Repeat([]impl.Range{just(1)}, maxRangeCount)} {
		checkQueryKinds(t, "ranges", uidKey(list...), impl.OK)
	}
}

func TestQueryFaultKids(t *testing.T) {
	all := impl.QueryNode{Kind: impl.SkAll}
	not := func(kids ...int64) impl.QueryNode { return impl.QueryNode{Kind: impl.SkNot, Kids: kids} }
	or := func(kids ...int64) impl.QueryNode { return impl.QueryNode{Kind: impl.SkOr, Kids: kids} }
	and := func(kids ...int64) impl.QueryNode { return impl.QueryNode{Kind: impl.SkAnd, Kids: kids} }
	for what, nodes := range map[string][]impl.QueryNode{
		"one":           {all},
		"NOT":           {all, not(0)},
		"OR":            {all, all, or(0, 1)},
		"two keys":      {all, all, and(0, 1)},
		"three keys":    {all, all, all, and(0, 1, 2)},
		"a tree":        {all, not(0), all, or(1, 2), all, not(4), and(3, 5)},
		"keys in keys":  {all, all, all, and(1, 2), and(0, 3)},
		"keys in first": {all, all, and(0, 1), all, and(2, 3)},
		"keys in NOT":   {all, all, and(0, 1), not(2)},
		"keys in OR":    {all, all, and(0, 1), all, all, and(3, 4), or(2, 5)},
	} {
		checkQueryFault(t, what, nodes, impl.OK)
	}
	for what, nodes := range map[string][]impl.QueryNode{
		"two wholes":             {all, all},
		"not taken":              {all, all, not(1)},
		"not taken, first":       {all, all, not(0)},
		"not taken behind":       {all, not(0), all},
		"twice taken":            {all, or(0, 0)},
		"twice taken by two":     {all, not(0), not(0), or(1, 2)},
		"twice in keys":          {all, all, and(0, 1, 0)},
		"itself":                 {all, not(1)},
		"itself alone":           {not(0)},
		"behind it":              {not(1), all},
		"round":                  {not(1), not(0)},
		"out of the list":        {all, not(2)},
		"far out":                {all, not(math.MaxInt64)},
		"below 0":                {all, not(-1)},
		"far below 0":            {all, not(math.MinInt64)},
		"in another order":       {all, all, or(1, 0)},
		"in another order, too":  {all, all, and(1, 0)},
		"kids of others between": {all, all, not(0), or(1, 2)},
		"crossed":                {all, all, not(0), not(1), or(2, 3)},
		"NOT of none":            {not()},
		"NOT of two":             {all, all, not(0, 1)},
		"OR of none":             {or()},
		"OR of one":              {all, or(0)},
		"OR of three":            {all, all, all, or(0, 1, 2)},
		"no keys":                {and()},
		"one key":                {all, and(0)},
		"ALL of one":             {all, {Kind: impl.SkAll, Kids: ids(0)}},
		"too many kids":          {all, {Kind: impl.SkAnd, Kids: make([]int64, 1000)}},
	} {
		checkQueryFault(t, what, nodes, impl.ErrForm)
	}
}

func TestQueryFaultGreat(t *testing.T) {
	several := func(count int) asking { return andKey(slices.Repeat([]asking{allKey}, count)...) }
	checkQueryFault(t, "nodes", queryNodes(several(maxQueryNodes-1)), impl.OK)
	checkQueryFault(t, "nodes", queryNodes(several(maxQueryNodes)), impl.ErrForm)
	checkQueryFault(t, "nodes", queryNodes(notKey(several(maxQueryNodes-2))), impl.OK)
	checkQueryFault(t, "nodes", queryNodes(notKey(several(maxQueryNodes-1))), impl.ErrForm)
	checkQueryFault(t, "nodes", queryNodes(several(10000)), impl.ErrForm)
	for kind := range int64(17) {
		checkQueryFault(t, "nodes of one kind", slices.Repeat([]impl.QueryNode{{Kind: kind}}, maxQueryNodes), impl.ErrForm)
	}
	checkQueryFault(t, "deep", queryNodes(nots(maxQueryDeep-1, allKey)), impl.OK)
	checkQueryFault(t, "deep", queryNodes(nots(maxQueryDeep, allKey)), impl.ErrForm)
	checkQueryFault(t, "deep", queryNodes(nots(maxQueryNodes-1, allKey)), impl.ErrForm)
	checkQueryFault(t, "deep in keys", queryNodes(andKey(allKey, nots(maxQueryDeep-2, allKey))), impl.OK)
	checkQueryFault(t, "deep in keys", queryNodes(andKey(nots(maxQueryDeep-1, allKey), allKey)), impl.ErrForm)
	checkQueryFault(t, "deep in OR", queryNodes(orKey(nots(maxQueryDeep-2, allKey), allKey)), impl.OK)
	checkQueryFault(t, "deep in OR", queryNodes(orKey(allKey, nots(maxQueryDeep-1, allKey))), impl.ErrForm)
}

var slowKeys = map[int64]string{
	impl.SkAll: "ALL", impl.SkBody: "BODY", impl.SkText: "TEXT", impl.SkSince: "SINCE", impl.SkBefore: "BEFORE", impl.SkOn: "ON", impl.SkLarger: "LARGER",
	impl.SkSmaller: "SMALLER", impl.SkMod: "MODSEQ", impl.SkUids: "UID", impl.SkNot: "NOT", impl.SkOr: "OR", impl.SkFlag: "KEYWORD", impl.SkNoFlag: "UNKEYWORD", impl.SkField: "HEADER",
}

var slowNames = map[int64]map[string]string{
	impl.SkFlag:   {`\Seen`: "SEEN", `\Flagged`: "FLAGGED", `\Deleted`: "DELETED", `\Answered`: "ANSWERED"},
	impl.SkNoFlag: {`\Seen`: "UNSEEN", `\Flagged`: "UNFLAGGED", `\Deleted`: "UNDELETED", `\Answered`: "UNANSWERED"},
	impl.SkField:  {"From": "FROM", "To": "TO", "Cc": "CC", "Subject": "SUBJECT"},
}

// slowWritten is what is written of a node of a right query.
func slowWritten(nodes []impl.QueryNode, at int) string {
	node := nodes[at]
	var out string
	if key := slowNames[node.Kind][node.Name]; key != "" {
		out = key
	} else {
		out = strings.TrimSuffix(slowKeys[node.Kind]+" "+node.Name, " ")
	}
	switch node.Kind {
	case impl.SkField, impl.SkBody, impl.SkText:
		out += " " + slowQuoted(node.Text)
	case impl.SkSince, impl.SkBefore, impl.SkOn:
		out += " " + time.Unix(node.Num*86400, 0).UTC().Format("02-Jan-2006")
	case impl.SkLarger, impl.SkSmaller, impl.SkMod:
		out += fmt.Sprintf(" %d", node.Num)
	case impl.SkUids:
		out += " " + impl.WriteRanges(node.Uids)
	}
	for _, kid := range node.Kids {
		out += " " + slowWritten(nodes, int(kid))
	}
	if node.Kind != impl.SkAnd {
		return out
	}
	out = strings.TrimPrefix(out, " ")
	if at == len(nodes)-1 {
		return out
	}
	return "(" + out + ")"
}

func checkWrittenQuery(t *testing.T, q asking, want string) {
	t.Helper()
	nodes := queryNodes(q)
	wantText(t, "WriteQuery", shown(nodes), impl.WriteQuery(nodes), want)
	if slow := slowWritten(nodes, len(nodes)-1); len(slow) <= maxQuery && slow != want {
		t.Errorf("%s is slowly written as %s, want %s", short(shown(nodes)), short(slow), short(want))
	}
	if want != "" {
		checkQuery(t, want, q)
	}
}

func TestWriteQuery(t *testing.T) {
	seen := flagKey(impl.SkFlag, `\Seen`)
	for _, c := range []struct {
		q    asking
		want string
	}{
		{allKey, "ALL"},
		{seen, "SEEN"},
		{flagKey(impl.SkNoFlag, `\Seen`), "UNSEEN"},
		{flagKey(impl.SkFlag, `\Flagged`), "FLAGGED"},
		{flagKey(impl.SkNoFlag, `\Flagged`), "UNFLAGGED"},
		{flagKey(impl.SkFlag, `\Deleted`), "DELETED"},
		{flagKey(impl.SkNoFlag, `\Deleted`), "UNDELETED"},
		{flagKey(impl.SkFlag, `\Answered`), "ANSWERED"},
		{flagKey(impl.SkNoFlag, `\Answered`), "UNANSWERED"},
		{flagKey(impl.SkFlag, `\Draft`), `KEYWORD \Draft`},
		{flagKey(impl.SkNoFlag, `\Draft`), `UNKEYWORD \Draft`},
		{flagKey(impl.SkFlag, "Seen"), "KEYWORD Seen"},
		{flagKey(impl.SkNoFlag, "SEEN"), "UNKEYWORD SEEN"},
		{fieldKey("From", "a"), `FROM "a"`},
		{fieldKey("To", ""), `TO ""`},
		{fieldKey("Cc", "a b"), `CC "a b"`},
		{fieldKey("Subject", `\"`), `SUBJECT "\\\""`},
		{fieldKey("from", "a"), `HEADER from "a"`},
		{fieldKey("FROM", "a"), `HEADER FROM "a"`},
		{fieldKey("CC", "a"), `HEADER CC "a"`},
		{fieldKey("Bcc", "a"), `HEADER Bcc "a"`},
		{fieldKey(`\`, "("), `HEADER \ "("`},
		{textKey(impl.SkBody, "\x00\xff\r\n"), "BODY \"\x00\xff\r\n\""},
		{textKey(impl.SkText, "ALL"), `TEXT "ALL"`},
		{numKey(impl.SkSince, 0), "SINCE 01-Jan-1970"},
		{numKey(impl.SkBefore, 11016), "BEFORE 29-Feb-2000"},
		{numKey(impl.SkOn, maxQueryDay), "ON 31-Dec-9999"},
		{numKey(impl.SkLarger, 0), "LARGER 0"},
		{numKey(impl.SkSmaller, 70), "SMALLER 70"},
		{numKey(impl.SkMod, maxQueryNumber), "MODSEQ 9999999999"},
		{uidKey(just(3), fromTo(7, 9), fromTo(2, maxNumber), just(maxNumber)), "UID 3,7:9,2:*,*"},
		{notKey(allKey), "NOT ALL"},
		{notKey(notKey(seen)), "NOT NOT SEEN"},
		{orKey(allKey, seen), "OR ALL SEEN"},
		{orKey(orKey(allKey, seen), notKey(seen)), "OR OR ALL SEEN NOT SEEN"},
		{andKey(allKey, seen), "ALL SEEN"},
		{andKey(allKey, seen, allKey), "ALL SEEN ALL"},
		{andKey(andKey(allKey, seen), allKey), "(ALL SEEN) ALL"},
		{andKey(allKey, andKey(seen, andKey(allKey, seen))), "ALL (SEEN (ALL SEEN))"},
		{notKey(andKey(allKey, seen)), "NOT (ALL SEEN)"},
		{orKey(andKey(allKey, seen), andKey(seen, allKey)), "OR (ALL SEEN) (SEEN ALL)"},
		{notKey(orKey(seen, notKey(andKey(allKey, allKey, allKey)))), "NOT OR SEEN NOT (ALL ALL ALL)"},
	} {
		checkWrittenQuery(t, c.q, c.want)
	}
	for days := range int64(800) {
		checkWrittenQuery(t, numKey(impl.SkOn, days*3667), "ON "+time.Unix(days*3667*86400, 0).UTC().Format("02-Jan-2006"))
	}
}

func TestWriteQuerySizes(t *testing.T) {
	// Nine texts of at most 200 bytes fill it up nearly.
	for _, size := range []int{maxQuery - 1, maxQuery, maxQuery + 1, maxQuery + 2} {
		kids := slices.Repeat([]asking{textKey(impl.SkBody, xs(maxQueryText))}, 9)
		left := size - 9*(len(`BODY "" `)+maxQueryText) - len(`BODY ""`)
		kids = append(kids, textKey(impl.SkBody, xs(left)))
		nodes := queryNodes(andKey(kids...))
		checkQueryFault(t, "a long query", nodes, impl.OK)
		written := impl.WriteQuery(nodes)
		want := slowWritten(nodes, len(nodes)-1)
		if len(want) != size {
			t.Fatalf("%d bytes, want %d", len(want), size)
		}
		if size > maxQuery {
			want = ""
		}
		wantText(t, "WriteQuery", shown(nodes), written, want)
		if size <= maxQuery {
			checkQuery(t, written, andKey(kids...))
		}
		// It can be asked all the same.
		if found := impl.Search(impl.Mailbox{Mails: []impl.Mail{{Uid: 7, Message: "\r\n" + xs(maxQueryText)}}}, nodes); !slices.Equal(found, ids(7)) {
			t.Errorf("Search of %s: %v", short(want), found)
		}
	}
	// Bytes 92 count.
	checkWrittenQuery(t, andKey(slices.Repeat([]asking{textKey(impl.SkText, strings.Repeat(`"`, maxQueryText))}, 5)...), "")
	checkWrittenQuery(t, uidKey(slices.Repeat([]impl.Range{fromTo(1000000000, 1000000001)}, maxRangeCount)...), "")
}

var queryTexts = some("a", "B", "é", "hello", " ", "(", ")", `"`, `\`, "\r\n", "x", "ALL", "re:", "\xff", "<1>", "2")

// query is one of at most so many nodes on one way.
func (d *dice) query(deep int) asking {
	if deep > 1 && d.below(3) > 0 {
		switch d.below(3) {
		case 0:
			return notKey(d.query(deep - 1))
		case 1:
			return orKey(d.query(deep-1), d.query(deep-1))
		}
		var kids []asking
		for range 2 + d.below(2) {
			kids = append(kids, d.query(deep-1))
		}
		return andKey(kids...)
	}
	switch d.below(7) {
	case 0:
		return allKey
	case 1:
		return flagKey(int64(impl.SkFlag+d.below(2)), d.pick(`\Seen`, `\Deleted`, `\Draft`, "x", "X", "$1", `\Flagged`, `\Answered`))
	case 2:
		return fieldKey(d.pick("From", "To", "Cc", "Subject", "subject", "X-Y", "Message-ID"), d.text(d.below(3), queryTexts))
	case 3:
		return textKey(int64(impl.SkBody+d.below(2)), d.text(d.below(3), queryTexts))
	case 4:
		return numKey(int64(impl.SkSince+d.below(3)), int64(d.below(4)))
	case 5:
		kind := ids(impl.SkLarger, impl.SkSmaller, impl.SkMod)[d.below(3)]
		return numKey(kind, int64(d.below(1+60*d.below(2)))+int64(d.below(8)))
	}
	var ranges []impl.Range
	for range 1 + d.below(3) {
		from := int64(1 + d.below(8))
		ranges = append(ranges, fromTo(from, from+int64(d.below(4)*d.below(2))))
	}
	return uidKey(ranges...)
}

func queryCopy(nodes []impl.QueryNode) []impl.QueryNode {
	nodes = slices.Clone(nodes)
	for at := range nodes {
		nodes[at].Uids, nodes[at].Kids = slices.Clone(nodes[at].Uids), slices.Clone(nodes[at].Kids)
	}
	return nodes
}

// turnedQuery has one thing changed, which may be right all the same.
func (d *dice) turnedQuery(nodes []impl.QueryNode) []impl.QueryNode {
	nodes = queryCopy(nodes)
	at := d.below(len(nodes))
	node := &nodes[at]
	switch d.below(9) {
	case 0:
		node.Kind = int64(d.below(19) - 1)
	case 1:
		node.Name = d.pick("", "x", `\Seen`, "a:b", `"`, "(", xs(71), `\x`, "a b")
	case 2:
		node.Text = d.pick("", "y", xs(maxQueryText), xs(maxQueryText+1))
	case 3:
		node.Num = ids(-1, 0, 1, maxQueryDay, maxQueryDay+1, maxQueryNumber, maxQueryNumber+1)[d.below(7)]
	case 4:
		node.Uids = [][]impl.Range{nil, {just(1)}, {just(0)}, {fromTo(5, 4)}}[d.below(4)]
	case 5:
		node.Kids = append(node.Kids, int64(d.below(len(nodes)+2)-1))
	case 6:
		if len(node.Kids) > 0 {
			node.Kids[d.below(len(node.Kids))] += int64(d.below(3) - 1)
		}
	case 7:
		other := d.below(len(nodes))
		nodes[at], nodes[other] = nodes[other], nodes[at]
	case 8:
		nodes = slices.Delete(nodes, at, at+1)
	}
	return nodes
}

func TestQueryFaultOfTurnedNodes(t *testing.T) {
	d := dice{state: 1502}
	codes := map[int64]int{}
	for range 30000 {
		nodes := queryNodes(d.query(1 + d.below(5)))
		checkQueryFault(t, "made up", nodes, slowQueryFault(nodes))
		turned := d.turnedQuery(nodes)
		want := slowQueryFault(turned)
		checkQueryFault(t, "turned", turned, want)
		codes[want]++
	}
	if codes[impl.OK] < 3000 || codes[impl.ErrForm] < 3000 {
		t.Errorf("%v", codes)
	}
}

// TestPromise18Reads: ReadQuery of WriteQuery gives a query back, where it has at most MaxQuery bytes.
func TestPromise18Reads(t *testing.T) {
	d := dice{state: 1503}
	tooLong := 0
	for at := range 20000 {
		q := d.query(1 + at%maxQueryDeep)
		nodes := queryNodes(q)
		if len(nodes) > maxQueryNodes {
			continue
		}
		if at%5 == 0 {
			nodes = d.turnedQuery(nodes)
			if slowQueryFault(nodes) != impl.OK {
				continue
			}
		}
		written := impl.WriteQuery(nodes)
		want := slowWritten(nodes, len(nodes)-1)
		if len(want) > maxQuery {
			tooLong++
			want = ""
		}
		wantText(t, "WriteQuery", shown(nodes), written, want)
		if want == "" {
			continue
		}
		if again := impl.ReadQuery(written); again.Code != impl.OK || !sameQueryNodes(again.Nodes, nodes) {
			t.Errorf("ReadQuery of WriteQuery of %s: %s", short(shown(nodes)), short(shown(again)))
		}
	}
	t.Log(tooLong, "were too long")
	// Each byte in a text, a name and a flag.
	for b := range 256 {
		sign := string([]byte{byte(b)})
		for _, q := range []asking{textKey(impl.SkBody, sign), textKey(impl.SkText, "a"+sign+"b"), fieldKey("Subject", sign+sign), fieldKey("x"+sign, "b"), flagKey(impl.SkFlag, sign), flagKey(impl.SkNoFlag, "a"+sign)} {
			nodes := queryNodes(q)
			if slowQueryFault(nodes) != impl.OK {
				continue
			}
			if again := impl.ReadQuery(impl.WriteQuery(nodes)); !sameQuery(again, impl.Query{Nodes: nodes}) {
				t.Errorf("ReadQuery of WriteQuery of %s: %s", short(shown(nodes)), short(shown(again)))
			}
		}
	}
}

// boxOfMessages has mails of these messages with the Uids and Mods from 1 on.
func boxOfMessages(messages ...string) impl.Mailbox {
	b := impl.Mailbox{Name: "INBOX", Validity: 1, NextUid: int64(len(messages)) + 1, TopMod: int64(len(messages))}
	for at, message := range messages {
		b.Mails = append(b.Mails, stored(int64(at)+1, int64(at)+1, message))
	}
	return b
}

func checkSearch(t *testing.T, b impl.Mailbox, query string, want ...int64) {
	t.Helper()
	q := impl.ReadQuery(query)
	if q.Code != impl.OK {
		t.Errorf("ReadQuery of %s: %s", short(query), shown(q))
		return
	}
	wantNumbers(t, "Search", query, impl.Search(b, q.Nodes), want)
	wantNumbers(t, "a slow Search", query, slowSearch(b, q.Nodes), want)
}

func slowSearch(b impl.Mailbox, nodes []impl.QueryNode) []int64 {
	var uids []int64
	for _, mail := range b.Mails {
		if slowFits(mail, nodes, len(nodes)-1) {
			uids = append(uids, mail.Uid)
		}
	}
	return uids
}

func slowFits(mail impl.Mail, nodes []impl.QueryNode, at int) bool {
	node := nodes[at]
	size, day := int64(len(mail.Message)), impl.DayOf(mail.Time)
	switch node.Kind {
	case impl.SkAll:
		return true
	case impl.SkFlag:
		return slices.Index(mail.Flags, node.Name) >= 0
	case impl.SkNoFlag:
		return slices.Index(mail.Flags, node.Name) < 0
	case impl.SkField:
		for _, value := range impl.FindField(impl.ReadHead(mail.Message).Fields, node.Name) {
			var said []rune
			for _, point := range impl.ReadWords(impl.Unfold(value)) {
				said = append(said, rune(point))
			}
			if slowHolds(string(said), node.Text) {
				return true
			}
		}
		return false
	case impl.SkBody:
		head := impl.ReadHead(mail.Message)
		return head.Code == impl.OK && slowHolds(mail.Message[head.Body:], node.Text)
	case impl.SkText:
		return slowHolds(mail.Message, node.Text)
	case impl.SkSince:
		return day >= node.Num
	case impl.SkBefore:
		return day < node.Num
	case impl.SkOn:
		return day == node.Num
	case impl.SkLarger:
		return size > node.Num
	case impl.SkSmaller:
		return size < node.Num
	case impl.SkMod:
		return mail.Mod >= node.Num
	case impl.SkUids:
		for _, one := range node.Uids {
			if one.From <= mail.Uid && mail.Uid <= one.To {
				return true
			}
		}
		return false
	case impl.SkNot:
		return !slowFits(mail, nodes, int(node.Kids[0]))
	case impl.SkOr:
		return slowFits(mail, nodes, int(node.Kids[0])) || slowFits(mail, nodes, int(node.Kids[1]))
	}
	for _, kid := range node.Kids {
		if !slowFits(mail, nodes, int(kid)) {
			return false
		}
	}
	return true
}

// slowHolds tells whether a text stands in another, caseless.
func slowHolds(text, part string) bool {
	for at := 0; at+len(part) <= len(text); at++ {
		if slowSame(text[at:at+len(part)], part) {
			return true
		}
	}
	return false
}

func TestSearchFlags(t *testing.T) {
	b := impl.Mailbox{Mails: []impl.Mail{
		stored(1, 1, ""), stored(2, 2, "", `\Seen`), stored(3, 3, "", `\Deleted`, `\Draft`, "x"), stored(4, 4, "", `\Answered`, `\Flagged`, `\Seen`, "X"), stored(5, 5, "", "Seen", "later"),
	}}
	checkSearch(t, b, "ALL", 1, 2, 3, 4, 5)
	checkSearch(t, b, "SEEN", 2, 4)
	checkSearch(t, b, "UNSEEN", 1, 3, 5)
	checkSearch(t, b, "FLAGGED", 4)
	checkSearch(t, b, "UNFLAGGED", 1, 2, 3, 5)
	checkSearch(t, b, "DELETED", 3)
	checkSearch(t, b, "UNDELETED", 1, 2, 4, 5)
	checkSearch(t, b, "ANSWERED", 4)
	checkSearch(t, b, "UNANSWERED", 1, 2, 3, 5)
	checkSearch(t, b, `KEYWORD \Draft`, 3)
	checkSearch(t, b, `UNKEYWORD \Draft`, 1, 2, 4, 5)
	checkSearch(t, b, `KEYWORD \Seen`, 2, 4)
	// Flags are compared as they stand.
	checkSearch(t, b, "KEYWORD x", 3)
	checkSearch(t, b, "KEYWORD X", 4)
	checkSearch(t, b, "UNKEYWORD x", 1, 2, 4, 5)
	checkSearch(t, b, "KEYWORD Seen", 5)
	checkSearch(t, b, "KEYWORD late")
	checkSearch(t, b, "KEYWORD Later")
	checkSearch(t, b, "UNKEYWORD none", 1, 2, 3, 4, 5)
}

func TestSearchFields(t *testing.T) {
	b := boxOfMessages(
		"From: Bob <bob@b>\r\nTo: ann@a\r\nCc: carl@c\r\nSubject: Re: Plans\r\n\r\nfrom the body",
		"from : ANN@A\r\nSUBJECT: a\r\n b\r\n\tc\r\nX-Y: one\r\nx-y: Two\r\n\r\n",
		"Subject: =?utf-8?Q?caf=C3=A9?= =?utf-8?B?w6k=?= ok\r\nTo:\r\n\r\n",
		"Subject: caf\xe9 =?none?Q?x?=\r\nFrom-: bob\r\nXFrom: bob\r\n\r\n",
		"no field\r\nSubject: plans\r\n\r\nSubject: plans",
		"",
		"\r\nSubject: plans",
		"Subject: plans",
	)
	checkSearch(t, b, "FROM bob", 1)
	checkSearch(t, b, "FROM BOB", 1)
	checkSearch(t, b, `FROM "<bob@B>"`, 1)
	checkSearch(t, b, "FROM ann", 2)
	checkSearch(t, b, `FROM ""`, 1, 2)
	checkSearch(t, b, "TO ann", 1)
	checkSearch(t, b, "TO bob")
	// A field that is there holds nothing, too.
	checkSearch(t, b, `TO ""`, 1, 3)
	checkSearch(t, b, "CC carl", 1)
	checkSearch(t, b, "CC ann")
	checkSearch(t, b, "SUBJECT plans", 1, 8)
	checkSearch(t, b, `SUBJECT "Re: plans"`, 1)
	checkSearch(t, b, `SUBJECT " re"`, 1)
	checkSearch(t, b, `SUBJECT ":"`, 1)
	checkSearch(t, b, `SUBJECT "subject"`)
	// Folded: the line ends are gone, the blanks stay.
	checkSearch(t, b, `SUBJECT "a b"`, 2)
	checkSearch(t, b, "SUBJECT \"B\tc\"", 2)
	checkSearch(t, b, "SUBJECT \"a\r\n b\"")
	checkSearch(t, b, "SUBJECT \"\r\"")
	// Fields that come twice.
	checkSearch(t, b, "HEADER X-Y one", 2)
	checkSearch(t, b, "HEADER x-Y two", 2)
	checkSearch(t, b, "HEADER X-Y onet")
	checkSearch(t, b, "HEADER X-Y one HEADER X-Y two", 2)
	checkSearch(t, b, `HEADER X-Z ""`)
	checkSearch(t, b, `HEADER X ""`)
	// Encoded words are asked for what they say.
	checkSearch(t, b, "SUBJECT \"caf\xc3\xa9\"", 3)
	checkSearch(t, b, "SUBJECT \"CAF\xc3\xa9\xc3\xa9 OK\"", 3)
	checkSearch(t, b, "SUBJECT \"\xc3\x89\"")
	checkSearch(t, b, "SUBJECT \"\xc3\"", 3)
	checkSearch(t, b, "SUBJECT =?utf-8")
	checkSearch(t, b, "TEXT =?UTF-8", 3)
	checkSearch(t, b, "SUBJECT =?none?q?x?=", 4)
	checkSearch(t, b, "SUBJECT \"\xe9\"")
	checkSearch(t, b, "SUBJECT \"caf\xef\xbf\xbd\"", 4)
	// Letters beyond A-Z are as they are.
	checkSearch(t, boxOfMessages("Subject: =?utf-8?B?w4k=?=\r\n\r\n"), "SUBJECT \"\xc3\xa9\"")
	checkSearch(t, boxOfMessages("Subject: [\r\n\r\n"), "SUBJECT {")
	checkSearch(t, boxOfMessages("Subject: @\r\n\r\n"), "SUBJECT `")
	checkSearch(t, boxOfMessages("Subject: AZ\r\n\r\n"), "SUBJECT az", 1)
	checkSearch(t, boxOfMessages("Subject: az\r\n\r\n"), "SUBJECT AZ", 1)
}

func TestSearchBodies(t *testing.T) {
	b := boxOfMessages(
		"A: head\r\n\r\nBody text",
		"A: head\r\n\r\n",
		"A: head",
		"\r\nbody",
		"",
		"ill head\r\n\r\nbody",
		"A: b\r\n\r\nhead\x00\xff\xc3\xa9",
	)
	checkSearch(t, b, "BODY body", 1, 4)
	checkSearch(t, b, "BODY BODY", 1, 4)
	checkSearch(t, b, `BODY "y t"`, 1)
	checkSearch(t, b, "BODY head", 7)
	checkSearch(t, b, `BODY ""`, 1, 2, 3, 4, 5, 7)
	checkSearch(t, b, `NOT BODY ""`, 6)
	checkSearch(t, b, "TEXT body", 1, 4, 6)
	checkSearch(t, b, "TEXT HEAD", 1, 2, 3, 6, 7)
	checkSearch(t, b, `TEXT ""`, 1, 2, 3, 4, 5, 6, 7)
	checkSearch(t, b, "BODY \"\x00\xff\"", 7)
	checkSearch(t, b, "BODY \"\xc3\xa9\"", 7)
	checkSearch(t, b, "BODY \"\xc3\x89\"")
	// Across the end of a head, and right at it.
	checkSearch(t, b, "TEXT \"head\r\n\r\nbody\"", 1, 6)
	checkSearch(t, b, "BODY \"head\r\n\r\nbody\"")
	checkSearch(t, b, "BODY \"\r\nbody\"")
	checkSearch(t, b, "TEXT \"\r\nbody\"", 1, 4, 6)
	checkSearch(t, b, "TEXT \"a: head\"", 1, 2, 3)
	checkSearch(t, b, `BODY "body text"`, 1)
	checkSearch(t, b, `BODY "body texts"`)
	checkSearch(t, boxOfMessages("\r\n[@Z"), `BODY "{"`)
	checkSearch(t, boxOfMessages("\r\n[@Z"), "TEXT `")
	checkSearch(t, boxOfMessages("\r\n[@Z"), "BODY @z", 1)
	// Heads that cannot be read in any way.
	for _, ill := range some(" a\r\n\r\nbody", ":\r\n\r\nbody", "A: b\rc\r\n\r\nbody", strings.Repeat("A:\r\n", 201)+"\r\nbody") {
		checkSearch(t, boxOfMessages(ill), "OR BODY body BODY \"\"")
		checkSearch(t, boxOfMessages(ill), "HEADER A \"\"")
		checkSearch(t, boxOfMessages(ill), "TEXT body NOT BODY body NOT HEADER A \"\" ALL LARGER 5", 1)
	}
	checkSearch(t, boxOfMessages(strings.Repeat("A:\r\n", 200)+"\r\nbody"), "BODY body HEADER A \"\"", 1)
}

func TestSearchDays(t *testing.T) {
	b := impl.Mailbox{}
	for at, when := range ids(0, 86399, 86400, 172799, 172800, 951782400, 951868799, 951868800, maxTime-86400, maxTime-86399, maxTime) {
		b.Mails = append(b.Mails, impl.Mail{Uid: int64(at) + 1, Time: when})
	}
	checkSearch(t, b, "ON 1-Jan-1970", 1, 2)
	checkSearch(t, b, "ON 2-Jan-1970", 3, 4)
	checkSearch(t, b, "ON 3-Jan-1970", 5)
	checkSearch(t, b, "ON 4-Jan-1970")
	checkSearch(t, b, "BEFORE 1-Jan-1970")
	checkSearch(t, b, "BEFORE 2-Jan-1970", 1, 2)
	checkSearch(t, b, "BEFORE 3-Jan-1970", 1, 2, 3, 4)
	checkSearch(t, b, "SINCE 1-Jan-1970", upTo(1, 11)...)
	checkSearch(t, b, "SINCE 2-Jan-1970", upTo(3, 11)...)
	checkSearch(t, b, "SINCE 3-Jan-1970", upTo(5, 11)...)
	checkSearch(t, b, "SINCE 4-Jan-1970", upTo(6, 11)...)
	checkSearch(t, b, "ON 29-Feb-2000", 6, 7)
	checkSearch(t, b, "BEFORE 29-Feb-2000", 1, 2, 3, 4, 5)
	checkSearch(t, b, "SINCE 1-Mar-2000", 8, 9, 10, 11)
	checkSearch(t, b, "ON 31-Dec-9999", 10, 11)
	checkSearch(t, b, "BEFORE 31-Dec-9999", upTo(1, 9)...)
	checkSearch(t, b, "SINCE 31-Dec-9999", 10, 11)
	// A time that is none is told by DayOf.
	odd := impl.Mailbox{Mails: []impl.Mail{{Uid: 1, Time: -1}, {Uid: 2, Time: maxTime + 1}, {Uid: 3, Time: math.MinInt64}}}
	checkSearch(t, odd, "ON 1-Jan-1970", 1, 2, 3)
	checkSearch(t, odd, "SINCE 2-Jan-1970")
}

func TestSearchNumbers(t *testing.T) {
	b := impl.Mailbox{}
	for _, uid := range ids(2, 3, 7, maxNumber-1, maxNumber) {
		b.Mails = append(b.Mails, impl.Mail{Uid: uid, Mod: uid, Message: xs(int(min(uid, 9)))})
	}
	checkSearch(t, b, "LARGER 2", 3, 7, maxNumber-1, maxNumber)
	checkSearch(t, b, "LARGER 3", 7, maxNumber-1, maxNumber)
	checkSearch(t, b, "LARGER 9")
	checkSearch(t, b, "LARGER 0", 2, 3, 7, maxNumber-1, maxNumber)
	checkSearch(t, b, "LARGER 9999999999")
	checkSearch(t, b, "SMALLER 2")
	checkSearch(t, b, "SMALLER 3", 2)
	checkSearch(t, b, "SMALLER 4", 2, 3)
	checkSearch(t, b, "SMALLER 0")
	checkSearch(t, b, "SMALLER 9999999999", 2, 3, 7, maxNumber-1, maxNumber)
	checkSearch(t, b, "MODSEQ 0", 2, 3, 7, maxNumber-1, maxNumber)
	checkSearch(t, b, "MODSEQ 2", 2, 3, 7, maxNumber-1, maxNumber)
	checkSearch(t, b, "MODSEQ 3", 3, 7, maxNumber-1, maxNumber)
	checkSearch(t, b, "MODSEQ 8", maxNumber-1, maxNumber)
	checkSearch(t, b, "MODSEQ 4294967295", maxNumber)
	checkSearch(t, b, "MODSEQ 4294967296")
	checkSearch(t, b, "UID 1")
	checkSearch(t, b, "UID 2", 2)
	checkSearch(t, b, "UID 2:3", 2, 3)
	checkSearch(t, b, "UID 3:6", 3)
	checkSearch(t, b, "UID 4:6")
	checkSearch(t, b, "UID 7:8,1:2", 2, 7)
	checkSearch(t, b, "UID 2,2,2", 2)
	// The star is the greatest number, not the last mail's.
	checkSearch(t, b, "UID *", maxNumber)
	checkSearch(t, b, "UID 4:*", 7, maxNumber-1, maxNumber)
	checkSearch(t, boxOfMessages("a", "b"), "UID *")
	checkSearch(t, impl.Mailbox{Mails: []impl.Mail{{Message: "x"}}}, "LARGER 0", 0)
	checkSearch(t, impl.Mailbox{Mails: []impl.Mail{{}}}, "LARGER 0")
	checkSearch(t, impl.Mailbox{Mails: []impl.Mail{{}}}, "SMALLER 1", 0)
}

func TestSearchSeveral(t *testing.T) {
	b := boxOfMessages("", "a", "ab", "abc", "c")
	b.Mails[2].Flags = some(`\Seen`)
	checkSearch(t, b, "NOT UID 2", 1, 3, 4, 5)
	checkSearch(t, b, "NOT NOT UID 2", 2)
	checkSearch(t, b, "NOT ALL")
	checkSearch(t, b, "OR UID 5 UID 1", 1, 5)
	checkSearch(t, b, "OR UID 1 NOT UID 1", 1, 2, 3, 4, 5)
	checkSearch(t, b, "OR NOT ALL NOT ALL")
	checkSearch(t, b, "TEXT a TEXT b", 3, 4)
	checkSearch(t, b, "TEXT a TEXT b TEXT c", 4)
	checkSearch(t, b, "TEXT a (TEXT b NOT SEEN)", 4)
	checkSearch(t, b, "OR SEEN (TEXT c NOT TEXT a)", 3, 5)
	checkSearch(t, b, "NOT (TEXT a TEXT b)", 1, 2, 5)
	checkSearch(t, b, "NOT TEXT a TEXT c", 5)
	// In the order of the box, whatever the numbers are.
	odd := impl.Mailbox{Mails: []impl.Mail{{Uid: 5}, {Uid: 1}, {Uid: 5}, {Uid: -3}}}
	checkSearch(t, odd, "ALL", 5, 1, 5, -3)
	checkSearch(t, odd, "UID 5", 5, 5)
}

func TestSearchSizes(t *testing.T) {
	checkSearch(t, impl.Mailbox{}, "ALL")
	checkSearch(t, impl.Mailbox{}, "NOT ALL")
	all, none := queryNodes(allKey), queryNodes(notKey(allKey))
	full := impl.Mailbox{Mails: manyMails(maxMails, "x")}
	wantNumbers(t, "Search", "of MaxMails", impl.Search(full, all), upTo(1, maxMails))
	wantNumbers(t, "Search", "of MaxMails", impl.Search(full, none), nil)
	over := impl.Mailbox{Mails: manyMails(maxMails+1, "x")}
	wantNumbers(t, "Search", "of one more", impl.Search(over, all), nil)
	wantNumbers(t, "Search", "of one more", impl.Search(over, queryNodes(uidKey(just(1)))), nil)
	// The Gones play no part.
	full.Gones = manyGones(1, 2*maxMails, 1)
	wantNumbers(t, "Search", "of many Gones", impl.Search(full, all), upTo(1, maxMails))

	long := boxOfMessages("a", "A: b\r\n\r\n"+xs(maxText-8))
	checkSearch(t, long, "BODY xx", 2)
	checkSearch(t, long, "LARGER 99999", 2)
	checkSearch(t, long, "HEADER A b", 2)
	checkSearch(t, boxOfMessages("A: "+xs(maxText-6)+"yz"+"\r"), "TEXT xyz", 1)
	checkSearch(t, boxOfMessages("A: "+xs(maxText-5)+"yz"), "HEADER A xyz", 1)
	for what, b := range storesTooLong() {
		b.Mails = append(b.Mails, stored(2, 2, "x"))
		wantNumbers(t, "Search", what, impl.Search(b, all), nil)
		wantNumbers(t, "Search", what, impl.Search(b, queryNodes(uidKey(just(2)))), nil)
		wantNumbers(t, "SortBox", what, impl.SortBox(b, nil), nil)
		wantNumbers(t, "SortBox", what, impl.SortBox(b, some("DATE")), nil)
		wantNumbers(t, "Threads", what, impl.Threads(b), nil)
		wantText(t, "ShowThreads", what, impl.ShowThreads(b), "")
	}
	wantNumbers(t, "Search", "a long message", impl.Search(boxOfMessages("a", xs(maxText+1)), all), nil)
}

var (
	searchNames  = some("From", "from", "To", "Cc", "Subject", "SUBJECT", "Date", "Message-ID", "References", "In-Reply-To", "X-Y", "Bcc")
	searchValues = some(" a", " ann@a", " Bob <bob@b>", " B", "\r\n x", " =?utf-8?Q?h=C3=A9llo?=", " \xe9", " Re: hello", " <1>", " <2> <3>", " <4>", " Tue, 29 Feb 2000 01:30 +0130", " 1 Jan 1970 00:00 GMT", "", " grp: Zed@z, a@b;")
	searchBodies = some("hello", "HELLO", "\r\n", "x", "é", "(", `\`, `"`, "a B", " ", "\xff", "2")
)

// searchMail has a message with whatever can be asked for.
func (d *dice) searchMail(uid int64) impl.Mail {
	var out strings.Builder
	for range d.below(5) {
		out.WriteString(d.pick(searchNames...) + ":" + d.text(d.below(3), searchValues) + "\r\n")
	}
	if d.below(8) == 0 {
		out.WriteString(d.pick("ill\r\n", "", ":", " "))
	}
	if d.below(8) > 0 {
		out.WriteString("\r\n")
	}
	out.WriteString(d.text(d.below(4), searchBodies))
	mail := impl.Mail{Uid: uid, Mod: int64(1 + d.below(60)), Time: int64(d.below(4))*86400 - int64(d.below(2)), Message: out.String()}
	mail.Time = max(mail.Time, 0)
	for _, one := range some(`\Answered`, `\Deleted`, `\Draft`, `\Flagged`, `\Seen`, "X", "x") {
		if d.below(3) == 0 {
			mail.Flags = append(mail.Flags, one)
		}
	}
	return mail
}

func (d *dice) searchBox(most int) impl.Mailbox {
	b := impl.Mailbox{Name: "INBOX", Validity: 1, TopMod: 60}
	uid := int64(0)
	for range d.below(most + 1) {
		uid += int64(1 + d.below(2))
		b.Mails = append(b.Mails, d.searchMail(uid))
	}
	b.NextUid = uid + 1
	return b
}

func TestSearchOfAnyQueries(t *testing.T) {
	d := dice{state: 1504}
	found, missed := 0, 0
	for range 4000 {
		b := d.searchBox(9)
		for range 4 {
			nodes := queryNodes(d.query(1 + d.below(4)))
			got := impl.Search(b, nodes)
			wantNumbers(t, "Search", impl.WriteQuery(nodes), got, slowSearch(b, nodes))
			found += len(got)
			missed += len(b.Mails) - len(got)
		}
	}
	if found < 5000 || missed < 5000 {
		t.Errorf("%d fit, %d do not", found, missed)
	}
}

// TestPromise18Searches: Search of NOT is the complement, of OR the union, of several keys the intersection.
func TestPromise18Searches(t *testing.T) {
	d := dice{state: 1505}
	for range 3000 {
		b := d.searchBox(8)
		var kids []asking
		var found []map[int64]bool
		for range 2 + d.below(3) {
			kid := d.query(1 + d.below(3))
			uids := map[int64]bool{}
			for _, uid := range impl.Search(b, queryNodes(kid)) {
				uids[uid] = true
			}
			kids, found = append(kids, kid), append(found, uids)
		}
		var complement, union, intersection []int64
		for _, mail := range b.Mails {
			in := func(uids map[int64]bool) bool { return uids[mail.Uid] }
			out := func(uids map[int64]bool) bool { return !uids[mail.Uid] }
			if out(found[0]) {
				complement = append(complement, mail.Uid)
			}
			if slices.ContainsFunc(found[:2], in) {
				union = append(union, mail.Uid)
			}
			if !slices.ContainsFunc(found, out) {
				intersection = append(intersection, mail.Uid)
			}
		}
		for _, c := range []struct {
			q    asking
			want []int64
		}{{notKey(kids[0]), complement}, {orKey(kids[0], kids[1]), union}, {andKey(kids...), intersection}, {notKey(notKey(andKey(kids...))), intersection}} {
			nodes := queryNodes(c.q)
			wantNumbers(t, "Search", impl.WriteQuery(nodes), impl.Search(b, nodes), c.want)
		}
	}
}

// sortValue is what a mail is sorted by: a number or a text, as the key says.
type sortValue struct {
	number int64
	text   string
}

func slowSortValue(mail impl.Mail, key string) sortValue {
	fields := impl.ReadHead(mail.Message).Fields
	value := func(name string) string { return strings.Join(firstTexts(impl.FindField(fields, name), 1), "") }
	local := func(name string) string {
		boxes := impl.Boxes(impl.ReadAddresses(value(name)).Entries)
		if len(boxes) == 0 {
			return ""
		}
		return slowLow(boxes[0].Local)
	}
	switch key {
	case "ARRIVAL":
		return sortValue{number: mail.Time}
	case "DATE":
		if read := impl.ReadDate(value("Date")); read.Good {
			return sortValue{number: read.Time}
		}
		return sortValue{number: mail.Time}
	case "FROM":
		return sortValue{text: local("From")}
	case "TO":
		return sortValue{text: local("To")}
	case "SIZE":
		return sortValue{number: int64(len(mail.Message))}
	}
	return sortValue{text: impl.SubjectOf(mail.Message)}
}

func firstTexts(texts []string, count int) []string { return texts[:min(len(texts), count)] }

// slowCompare is below 0 if a mail stands ahead of another by keys, above 0 if behind, and 0 if they are equal.
func slowCompare(a, b impl.Mail, keys []string) int {
	for _, key := range keys {
		plainKey, turned := strings.CutPrefix(key, "REVERSE ")
		one, other := slowSortValue(a, plainKey), slowSortValue(b, plainKey)
		if turned {
			one, other = other, one
		}
		if one.number != other.number {
			return cmp.Compare(one.number, other.number)
		}
		if one.text != other.text {
			return strings.Compare(one.text, other.text)
		}
	}
	return 0
}

// slowSort takes the first of the least mails again and again.
func slowSort(b impl.Mailbox, keys []string) []int64 {
	left := slices.Clone(b.Mails)
	var uids []int64
	for len(left) > 0 {
		least := 0
		for at := range left {
			if slowCompare(left[at], left[least], keys) < 0 {
				least = at
			}
		}
		uids = append(uids, left[least].Uid)
		left = slices.Delete(left, least, least+1)
	}
	return uids
}

func checkSort(t *testing.T, b impl.Mailbox, keys []string, want ...int64) {
	t.Helper()
	given := strings.Join(keys, ", ")
	wantNumbers(t, "SortBox", given, impl.SortBox(b, keys), want)
	wantNumbers(t, "a slow SortBox", given, slowSort(b, keys), want)
}

func checkNoSort(t *testing.T, b impl.Mailbox, keys ...string) {
	t.Helper()
	wantNumbers(t, "SortBox", strings.Join(keys, ", "), impl.SortBox(b, keys), nil)
}

// sortedBox has mails that differ by each key in another way.
func sortedBox() impl.Mailbox {
	return impl.Mailbox{Mails: []impl.Mail{
		{Uid: 1, Time: 500, Message: "From: Dora <D@x>\r\nTo: e@x\r\nSubject: Re: lunch\r\nDate: 1 Jan 1970 00:00:03 GMT\r\n\r\n"},
		{Uid: 2, Time: 300, Message: "From: a@z\r\nTo: b@x\r\nSubject: Zoo\r\nDate: 1 Jan 1970 00:00:01 GMT\r\n\r\n" + xs(50)},
		{Uid: 3, Time: 500, Message: "From: c@a\r\nTo: E@q\r\nSubject: lunch (fwd)\r\nDate: 1 Jan 1970 01:00:02 +0100\r\n\r\n"},
		{Uid: 4, Time: 100, Message: "From: d@w\r\nTo: a@x\r\nSubject: apple\r\nDate: none\r\n\r\n"},
		{Uid: 5, Time: 2, Message: "\r\n"},
	}}
}

func TestSortBoxKeys(t *testing.T) {
	b := sortedBox()
	checkSort(t, b, nil, 1, 2, 3, 4, 5)
	checkSort(t, b, []string{}, 1, 2, 3, 4, 5)
	checkSort(t, b, some("ARRIVAL"), 5, 4, 2, 1, 3)
	checkSort(t, b, some("REVERSE ARRIVAL"), 1, 3, 2, 4, 5)
	// The fourth's date cannot be read and the fifth has none, so they stand by their times.
	checkSort(t, b, some("DATE"), 2, 3, 5, 1, 4)
	checkSort(t, b, some("REVERSE DATE"), 4, 1, 3, 5, 2)
	checkSort(t, b, some("FROM"), 5, 2, 3, 1, 4)
	checkSort(t, b, some("REVERSE FROM"), 1, 4, 3, 2, 5)
	checkSort(t, b, some("TO"), 5, 4, 2, 1, 3)
	checkSort(t, b, some("REVERSE TO"), 1, 3, 2, 4, 5)
	checkSort(t, b, some("SIZE"), 5, 4, 3, 1, 2)
	checkSort(t, b, some("REVERSE SIZE"), 2, 1, 3, 4, 5)
	checkSort(t, b, some("SUBJECT"), 5, 4, 1, 3, 2)
	checkSort(t, b, some("REVERSE SUBJECT"), 2, 1, 3, 4, 5)
	// Several: a later key tells where those ahead of it do not.
	checkSort(t, b, some("SUBJECT", "DATE"), 5, 4, 3, 1, 2)
	checkSort(t, b, some("SUBJECT", "REVERSE DATE"), 5, 4, 1, 3, 2)
	checkSort(t, b, some("REVERSE SUBJECT", "FROM"), 2, 3, 1, 4, 5)
	checkSort(t, b, some("TO", "FROM"), 5, 4, 2, 3, 1)
	checkSort(t, b, some("ARRIVAL", "SUBJECT", "SIZE"), 5, 4, 2, 3, 1)
	checkSort(t, b, some("ARRIVAL", "SUBJECT", "REVERSE SIZE"), 5, 4, 2, 1, 3)
	checkSort(t, b, some("ARRIVAL", "ARRIVAL"), 5, 4, 2, 1, 3)
	// The first of two that contradict each other tells.
	checkSort(t, b, some("ARRIVAL", "REVERSE ARRIVAL"), 5, 4, 2, 1, 3)
	checkSort(t, b, some("REVERSE ARRIVAL", "ARRIVAL"), 1, 3, 2, 4, 5)
}

func TestSortBoxOtherKeys(t *testing.T) {
	b := sortedBox()
	for _, key := range some("", " ", "x", "CC", "UID", "arrival", "Arrival", "aRRIVAL", "date", "REVERSE", "REVERSE ", "REVERSE  DATE", "REVERSE REVERSE DATE", "REVERSE REVERSE ", "reverse DATE",
		"Reverse DATE", "REVERSE date", "REVERSE x", "REVERSEDATE", "REVERSE\tDATE", "DATE ", " DATE", "DATE REVERSE", "DATES", "DAT", "FROM,TO", "FROM TO", "ARRIVAL\x00", xs(maxText), xs(maxText+1), "REVERSE "+xs(maxText)) {
		checkNoSort(t, b, key)
		checkNoSort(t, b, "DATE", key)
		checkNoSort(t, b, key, "DATE")
		checkNoSort(t, impl.Mailbox{}, key)
	}
}

func TestSortBoxManyKeys(t *testing.T) {
	b := sortedBox()
	for _, key := range some("ARRIVAL", "DATE", "FROM", "TO", "SIZE", "SUBJECT", "REVERSE SIZE") {
		want := slowSort(b, some(key))
		checkSort(t, b, slices.Repeat(some(key), maxSortKeys-1), want...)
		checkSort(t, b, slices.Repeat(some(key), maxSortKeys), want...)
		checkNoSort(t, b, slices.Repeat(some(key), maxSortKeys+1)...)
		checkNoSort(t, b, append(slices.Repeat(some(key), maxSortKeys-1), "x")...)
	}
	// The tenth key counts.
	checkSort(t, b, append(slices.Repeat(some("SUBJECT"), maxSortKeys-1), "SIZE"), 5, 4, 3, 1, 2)
}

func TestSortBoxFields(t *testing.T) {
	// What comes first by a key, of a mail with these fields and one with others.
	first := func(key, head, other string) int64 {
		b := impl.Mailbox{Mails: []impl.Mail{{Uid: 1, Time: 50, Message: other}, {Uid: 2, Time: 50, Message: head}}}
		sorted := impl.SortBox(b, some(key))
		wantNumbers(t, "SortBox", key+" of "+head+" and "+other, sorted, slowSort(b, some(key)))
		return sorted[0]
	}
	ahead := func(key, head, other string) {
		t.Helper()
		if first(key, head, other) != 2 {
			t.Errorf("%s: %s does not stand ahead of %s", key, short(head), short(other))
		}
		if first("REVERSE "+key, other, head) != 2 {
			t.Errorf("REVERSE %s: %s does not stand ahead of %s", key, short(other), short(head))
		}
	}
	equal := func(key, head, other string) {
		t.Helper()
		if first(key, head, other) != 1 || first(key, other, head) != 1 || first("REVERSE "+key, head, other) != 1 || first("REVERSE "+key, other, head) != 1 {
			t.Errorf("%s: %s and %s are not equal", key, short(head), short(other))
		}
	}
	for _, name := range some("From", "To") {
		key := strings.ToUpper(name)
		ahead(key, name+": a@z", name+": b@a")
		ahead(key, name+": Zed <a@z>", name+": Ann <b@a>")
		ahead(key, name+": A@z", name+": b@a")
		equal(key, name+": AB@x", name+": ab@y")
		equal(key, strings.ToLower(name)+" : a@x", name+":\r\n a@x")
		ahead(key, name+": a@x", name+": ab@x")
		ahead(key, name+": Z@x", name+": {@x")
		ahead(key, name+": [@x, a@x", name+": a@x")
		// Of two fields the first, of several boxes the first, be it in a group.
		equal(key, name+": b@x\r\n"+name+": a@x", name+": b@x")
		equal(key, name+": b@x, a@x", name+": b@x")
		equal(key, name+": grp: b@x, a@x;, c@x", name+": b@x")
		equal(key, name+": none:;, b@x", name+": b@x")
		// Nothing that is a box: as if the field was not there.
		for _, none := range some(name+":", name+": none:;", name+": a", name+": b@x, a", name+": b@x c", name+": (b@x)", "", "X: b@x", name+"-X: b@x", name+":\r\n"+name+": b@x", "ill\r\n"+name+": b@x") {
			equal(key, none, "")
			ahead(key, none, name+": \"\x80\"@x")
		}
	}
	ahead("SUBJECT", "Subject: a", "Subject: b")
	ahead("SUBJECT", "", "Subject: b")
	equal("SUBJECT", "Subject:", "")
	equal("SUBJECT", "Subject: re: FWD: a (fwd)", "Subject: A")
	equal("SUBJECT", "Subject: =?utf-8?Q?a?=", "Subject: A")
	equal("SUBJECT", "Subject: b\r\nSubject: a", "Subject: b")
	equal("SUBJECT", "ill\r\nSubject: b", "")
	ahead("SUBJECT", "Subject: [", "Subject: a")
	ahead("SIZE", "", "\r")
	equal("SIZE", "ab", "\r\n")
	early, late := "Date: 1 Jan 1970 00:00:10 +0000", "Date: Thu, 1 Jan 1970 00:01:30 +0000"
	ahead("DATE", early, late)
	ahead("DATE", early, "")
	ahead("DATE", "", late)
	equal("DATE", "Date: 1 Jan 1970 00:00:50 GMT", "")
	equal("DATE", "Date: 1 Jan 1970 00:59:50 +0059", "Date: 31 Dec 1969 19:00:50 EST")
	equal("DATE", "Date: 1 Jan\r\n 1970 00:00:50 GMT", "Date: 1 Jan 1970 (c) 00:00:50 GMT")
	equal("DATE", early+"\r\n"+late, early)
	for _, ill := range some("Date:", "Date: 30 Feb 2000 00:00 GMT", "Date: none", "Date: 31 Dec 1969 23:59:59 GMT", "Date: none\r\n"+early, "ill\r\n"+early, "X-Date: x", "Date: 1 Jan 1970 00:00:10 +0000 x") {
		equal("DATE", ill, "")
		ahead("DATE", early, ill)
		ahead("DATE", ill, late)
	}
	times := impl.Mailbox{Mails: []impl.Mail{{Uid: 1, Time: maxTime}, {Uid: 2, Time: 0}, {Uid: 3, Time: maxTime + 1}, {Uid: 4, Time: -1}, {Uid: 5, Time: math.MinInt64}, {Uid: 6, Time: math.MaxInt64}}}
	checkSort(t, times, some("ARRIVAL"), 5, 4, 2, 1, 3, 6)
	checkSort(t, times, some("REVERSE DATE"), 6, 3, 1, 2, 4, 5)
}

func TestSortBoxSizes(t *testing.T) {
	checkSort(t, impl.Mailbox{}, nil)
	checkSort(t, impl.Mailbox{}, some("DATE"))
	// Nothing is said of a box that has too many mails, so it is sorted like any other.
	for _, size := range []int{1, 2, maxMails - 1, maxMails, maxMails + 1} {
		b := impl.Mailbox{Mails: manyMails(size, "")}
		for at := range b.Mails {
			b.Mails[at].Time = int64(at * 7919 % 100)
			b.Mails[at].Message = xs(at % 3)
		}
		checkSort(t, b, nil, upTo(1, int64(size))...)
		checkSort(t, b, some("SUBJECT", "FROM", "TO"), upTo(1, int64(size))...)
		for _, keys := range [][]string{some("ARRIVAL"), some("REVERSE DATE"), some("SIZE", "REVERSE ARRIVAL"), some("REVERSE SIZE")} {
			checkSort(t, b, keys, slowSort(b, keys)...)
		}
	}
	long := boxOfMessages("Subject: b\r\n\r\n", "Subject: a\r\n\r\n"+xs(maxText-14), "")
	checkSort(t, long, some("SIZE"), 3, 1, 2)
	checkSort(t, long, some("SUBJECT"), 3, 2, 1)
	// Uids are told as they are, also those that are none or come twice.
	odd := impl.Mailbox{Mails: []impl.Mail{{Uid: 5, Time: 2}, {Uid: 5, Time: 1}, {Uid: -1, Time: 3}, {Uid: 0}}}
	checkSort(t, odd, some("ARRIVAL"), 0, 5, 5, -1)
}

// sortKeys are some keys, turned round or not.
func (d *dice) sortKeys() []string {
	var keys []string
	for range d.below(4) {
		keys = append(keys, d.pick("", "", "REVERSE ")+d.pick("ARRIVAL", "DATE", "FROM", "TO", "SIZE", "SUBJECT"))
	}
	return keys
}

// TestPromise19: SortBox tells each mail once, in the order of the keys, and is stable.
func TestPromise19(t *testing.T) {
	d := dice{state: 1506}
	equals := 0
	for range 3000 {
		b := d.searchBox(12)
		keys := d.sortKeys()
		sorted := impl.SortBox(b, keys)
		wantNumbers(t, "SortBox", strings.Join(keys, ", "), sorted, slowSort(b, keys))
		if !slices.Equal(slices.Sorted(slices.Values(sorted)), uidsIn(b)) {
			t.Fatalf("%v has not each of %v once", sorted, uidsIn(b))
		}
		for at := 1; at < len(sorted); at++ {
			one, next := mailOf(b, sorted[at-1]), mailOf(b, sorted[at])
			difference := slowCompare(one, next, keys)
			if difference > 0 || difference == 0 && one.Uid >= next.Uid {
				t.Fatalf("%v: %d stands ahead of %d", keys, one.Uid, next.Uid)
			}
			if difference == 0 {
				equals++
			}
		}
	}
	if equals < 3000 {
		t.Errorf("only %d were equal", equals)
	}
}

func uidsIn(b impl.Mailbox) []int64 {
	var uids []int64
	for _, mail := range b.Mails {
		uids = append(uids, mail.Uid)
	}
	return uids
}

func mailOf(b impl.Mailbox, uid int64) impl.Mail {
	return b.Mails[slices.IndexFunc(b.Mails, func(mail impl.Mail) bool { return mail.Uid == uid })]
}

var anglesForm = regexp.MustCompile(`(?s)<([^>]*)>`)

// slowAngles are the texts in angles in the first field of a name.
func slowAngles(message, name string) []string {
	var texts []string
	for _, value := range firstTexts(impl.FindField(impl.ReadHead(message).Fields, name), 1) {
		for _, found := range anglesForm.FindAllString(latinRunes(value), -1) {
			texts = append(texts, found)
		}
	}
	return texts
}

func slowReferences(message string) []string {
	if texts := slowAngles(message, "References"); len(texts) > 0 {
		return texts
	}
	return firstTexts(slowAngles(message, "In-Reply-To"), 1)
}

func slowThreads(b impl.Mailbox) []int64 {
	parents := slices.Repeat(ids(-1), len(b.Mails))
	hasNumber := func(at int, number string) bool {
		return slices.Equal(firstTexts(slowAngles(b.Mails[at].Message, "Message-ID"), 1), some(number))
	}
	isAbove := func(upper, lower int64) bool {
		for ; lower >= 0; lower = parents[lower] {
			if lower == upper {
				return true
			}
		}
		return false
	}
	for at, mail := range b.Mails {
		for _, reference := range slices.Backward(slowReferences(mail.Message)) {
			first := slices.IndexFunc(upTo(0, int64(len(b.Mails)-1)), func(place int64) bool { return hasNumber(int(place), reference) })
			if first >= 0 && !isAbove(int64(at), int64(first)) {
				parents[at] = int64(first)
				break
			}
		}
	}
	return parents
}

// slowShow shows the mails with a parent, in order, each in brackets behind a text.
func slowShow(b impl.Mailbox, parents []int64, parent int64, ahead string) string {
	out := ""
	for at, mail := range b.Mails {
		if parents[at] == parent {
			out += fmt.Sprintf("%s(%d%s)", ahead, mail.Uid, slowShow(b, parents, int64(at), " "))
		}
	}
	return out
}

func checkThreads(t *testing.T, b impl.Mailbox, show string, want ...int64) {
	t.Helper()
	given := shown(b.Mails)
	wantNumbers(t, "Threads", given, impl.Threads(b), want)
	wantNumbers(t, "slow Threads", given, slowThreads(b), want)
	wantText(t, "ShowThreads", given, impl.ShowThreads(b), show)
	wantText(t, "slow ShowThreads", given, slowShow(b, want, -1, ""), show)
}

// letter is a message with a number and references, as far as they are not empty.
func letter(number, references string) string {
	out := "Subject: x\r\n"
	if number != "" {
		out += "Message-ID: " + number + "\r\n"
	}
	if references != "" {
		out += "References: " + references + "\r\n"
	}
	return out + "\r\nbody <1> <2>"
}

func TestThreads(t *testing.T) {
	checkThreads(t, impl.Mailbox{}, "")
	checkThreads(t, boxOfMessages(""), "(1)", -1)
	checkThreads(t, boxOfMessages("", "", ""), "(1)(2)(3)", -1, -1, -1)
	checkThreads(t, boxOfMessages(letter("<1>", ""), letter("<2>", "<1>")), "(1 (2))", -1, 0)
	checkThreads(t, boxOfMessages(letter("<1>", "<2>"), letter("<2>", "")), "(2 (1))", 1, -1)
	checkThreads(t, boxOfMessages(letter("<1>", ""), letter("<2>", "<1>"), letter("<3>", "<1>"), letter("", "<2>"), letter("<5>", "<1> <3>")), "(1 (2 (4)) (3 (5)))", -1, 0, 0, 1, 2)
	checkThreads(t, boxOfMessages(letter("", "<1>"), letter("", "<1>"), letter("<1>", ""), letter("", "<1>")), "(3 (1) (2) (4))", 2, 2, -1, 2)
	// Two threads, one of which goes on behind the other.
	checkThreads(t, boxOfMessages(letter("<a>", ""), letter("<b>", ""), letter("<c>", "<a>"), letter("<d>", "<b>"), letter("<e>", "<c>")), "(1 (3 (5)))(2 (4))", -1, -1, 0, 1, 2)
	// Uids are shown as they are.
	odd := boxOfMessages(letter("<1>", ""), letter("", "<1>"))
	odd.Mails[0].Uid, odd.Mails[1].Uid = maxNumber, -7
	checkThreads(t, odd, "(4294967295 (-7))", -1, 0)
}

func TestThreadsReferences(t *testing.T) {
	head := letter("<1>", "")
	answers := func(message, show string, parent int64) {
		t.Helper()
		checkThreads(t, boxOfMessages(head, letter("<2>", ""), message), show, -1, -1, parent)
	}
	toFirst, toSecond, alone := "(1 (3))(2)", "(1)(2 (3))", "(1)(2)(3)"
	// From the last one on: the first that there is.
	answers(letter("<3>", "<1> <2>"), toSecond, 1)
	answers(letter("<3>", "<2> <1>"), toFirst, 0)
	answers(letter("<3>", "<1> <9>"), toFirst, 0)
	answers(letter("<3>", "<9> <1>"), toFirst, 0)
	answers(letter("<3>", "<2> <8> <9>"), toSecond, 1)
	answers(letter("<3>", "<9> <8> <2>"), toSecond, 1)
	answers(letter("<3>", "<8> <1> <9> <2> <7>"), toSecond, 1)
	answers(letter("<3>", "<8> <9>"), alone, -1)
	answers(letter("<3>", ""), alone, -1)
	// What stands between them does not matter.
	answers(letter("<3>", "<2><1>"), toFirst, 0)
	answers(letter("<3>", "x<1>y,z"), toFirst, 0)
	answers(letter("<3>", "<2>\r\n <1>"), toFirst, 0)
	answers(letter("<3>", "> <1>"), toFirst, 0)
	answers(letter("<3>", "<1> >"), toFirst, 0)
	answers(letter("<3>", "<1> <2"), toFirst, 0)
	answers(letter("<3>", "<2 <1>"), alone, -1)
	answers(letter("<3>", "<<1>"), alone, -1)
	answers(letter("<3>", "<1>>"), toFirst, 0)
	answers(letter("<3>", "< 1>"), alone, -1)
	answers(letter("<3>", "<1 >"), alone, -1)
	answers(letter("<3>", "1 2"), alone, -1)
	answers(letter("<3>", "<1"), alone, -1)
	answers(letter("<3>", "1>"), alone, -1)
	answers(letter("<3>", ">1<"), alone, -1)
	answers(letter("<3>", "(<1>)"), toFirst, 0)
	answers(letter("<3>", `"<1>"`), toFirst, 0)
	// In-Reply-To, if the first References has none, and its first one alone.
	reply := func(text string) string { return "In-Reply-To: " + text + "\r\n" + letter("<3>", "") }
	answers(reply("<1>"), toFirst, 0)
	answers(reply("<1> <2>"), toFirst, 0)
	answers(reply("<9> <1>"), alone, -1)
	answers(reply("1 <2>"), toSecond, 1)
	answers(reply("<1"), alone, -1)
	answers(reply(""), alone, -1)
	answers("References:\r\n"+reply("<1>"), toFirst, 0)
	answers("References: <1\r\n"+reply("<2>"), toSecond, 1)
	answers("References: 1\r\n"+reply("<2>"), toSecond, 1)
	answers("References: <9>\r\n"+reply("<2>"), alone, -1)
	answers("References: <>\r\n"+reply("<2>"), alone, -1)
	answers("References: <1>\r\n"+reply("<2>"), toFirst, 0)
	answers("In-Reply-To: <2>\r\nREFERENCES : <1>\r\n\r\n", toFirst, 0)
	// Of fields that come twice the first.
	answers("References: <9>\r\nReferences: <1>\r\n\r\n", alone, -1)
	answers("References: <1>\r\nReferences: <2>\r\n\r\n", toFirst, 0)
	answers("References:\r\nReferences: <1>\r\nIn-Reply-To: <2>\r\n\r\n", toSecond, 1)
	answers("In-Reply-To: <1>\r\nIn-Reply-To: <2>\r\n\r\n", toFirst, 0)
	answers("In-Reply-To: x\r\nIn-Reply-To: <2>\r\n\r\n", alone, -1)
	answers("In-reply-to: <1>", toFirst, 0)
	// A head that cannot be read has nothing.
	answers("ill\r\nReferences: <1>\r\n\r\n", alone, -1)
	answers("\r\nReferences: <1>\r\n\r\n", alone, -1)
}

func TestThreadsNumbers(t *testing.T) {
	numbered := func(head string, want int64) {
		t.Helper()
		show := "(1)(2)"
		if want == 0 {
			show = "(1 (2))"
		}
		checkThreads(t, boxOfMessages(head, letter("", "<1>")), show, -1, want)
	}
	numbered("Message-ID: <1>\r\n\r\n", 0)
	numbered("message-id : x <1> y\r\n\r\n", 0)
	numbered("Message-ID: <1> <2>\r\n\r\n", 0)
	numbered("Message-ID: <2> <1>\r\n\r\n", -1)
	numbered("Message-ID: 1\r\n\r\n", -1)
	numbered("Message-ID: <1\r\n\r\n", -1)
	numbered("Message-ID: 1>\r\n\r\n", -1)
	numbered("Message-ID: > <1>\r\n\r\n", 0)
	numbered("Message-ID: <<1>\r\n\r\n", -1)
	numbered("Message-ID:\r\n\r\n", -1)
	numbered("Message-ID:\r\n <1>\r\n\r\n", 0)
	numbered("Message-ID:\r\nMessage-ID: <1>\r\n\r\n", -1)
	numbered("Message-ID: <1>\r\nMessage-ID: <2>\r\n\r\n", 0)
	numbered("Message-ID: <2>\r\nMessage-ID: <1>\r\n\r\n", -1)
	numbered("ill\r\nMessage-ID: <1>\r\n\r\n", -1)
	numbered("\r\nMessage-ID: <1>\r\n\r\n", -1)
	numbered("Resent-Message-ID: <1>\r\n\r\n", -1)
	// Numbers are compared as they stand.
	checkThreads(t, boxOfMessages(letter("<a@B>", ""), letter("", "<A@B>"), letter("", "<a@b>"), letter("", "<a@B>")), "(1 (4))(2)(3)", -1, -1, -1, 0)
	// A number may be empty: no number is not that.
	checkThreads(t, boxOfMessages(letter("<>", ""), letter("", "<>")), "(1 (2))", -1, 0)
	checkThreads(t, boxOfMessages(letter("", ""), letter("", "<>")), "(1)(2)", -1, -1)
	checkThreads(t, boxOfMessages(letter("1", ""), letter("", "<> <1>")), "(1)(2)", -1, -1)
	checkThreads(t, boxOfMessages(letter("", ""), letter("<>", ""), letter("", "<x> <>")), "(1)(2 (3))", -1, -1, 1)
	// Two with one number: the first is meant, even where it cannot be.
	checkThreads(t, boxOfMessages(letter("<1>", ""), letter("<1>", ""), letter("", "<1>")), "(1 (3))(2)", -1, -1, 0)
	checkThreads(t, boxOfMessages(letter("<1>", ""), letter("<1>", "<1>"), letter("", "<1>")), "(1 (2) (3))", -1, 0, 0)
	checkThreads(t, boxOfMessages(letter("<1>", "<1>"), letter("<1>", "")), "(1)(2)", -1, -1)
	checkThreads(t, boxOfMessages(letter("<1>", "<2> <1>"), letter("<1>", ""), letter("<2>", "")), "(2)(3 (1))", 2, -1, -1)
	checkThreads(t, boxOfMessages(letter("<1>", ""), letter("<2>", "<1>"), letter("<1>", "<2>")), "(1 (2 (3)))", -1, 0, 1)
}

func TestThreadsCircles(t *testing.T) {
	// A reference to itself, alone and among others.
	checkThreads(t, boxOfMessages(letter("<1>", "<1>")), "(1)", -1)
	checkThreads(t, boxOfMessages(letter("<1>", "<2> <1>"), letter("<2>", "")), "(2 (1))", 1, -1)
	checkThreads(t, boxOfMessages(letter("<1>", "<1> <2>"), letter("<2>", "")), "(2 (1))", 1, -1)
	// Circles of two and of three: the last one that would close it is left out.
	checkThreads(t, boxOfMessages(letter("<1>", "<2>"), letter("<2>", "<1>")), "(2 (1))", 1, -1)
	checkThreads(t, boxOfMessages(letter("<1>", "<2>"), letter("<2>", "<3>"), letter("<3>", "<1>")), "(3 (2 (1)))", 1, 2, -1)
	checkThreads(t, boxOfMessages(letter("<1>", "<3>"), letter("<2>", "<1>"), letter("<3>", "<2>")), "(3 (1 (2)))", 2, 0, -1)
	// Another reference is taken then.
	checkThreads(t, boxOfMessages(letter("<1>", "<2>"), letter("<2>", "<3> <1>"), letter("<3>", "")), "(3 (2 (1)))", 1, 2, -1)
	checkThreads(t, boxOfMessages(letter("<1>", "<2>"), letter("<2>", "<3>"), letter("<3>", "<4> <2> <1> <3>"), letter("<4>", "")), "(4 (3 (2 (1))))", 1, 2, 3, -1)
	// What comes later is not looked at: by the parents so far.
	checkThreads(t, boxOfMessages(letter("<1>", "<3> <2>"), letter("<2>", "<3> <1>"), letter("<3>", "<2> <1>")), "(3 (2 (1)))", 1, 2, -1)
	checkThreads(t, boxOfMessages(letter("<1>", ""), letter("<2>", "<1> <3>"), letter("<3>", "<1> <2>")), "(1 (3 (2)))", -1, 2, 0)
	// One below the mail, not on the way to it.
	checkThreads(t, boxOfMessages(letter("<1>", "<3>"), letter("<2>", "<3>"), letter("<3>", "<9> <2>")), "(3 (1) (2))", 2, 2, -1)
	checkThreads(t, boxOfMessages(letter("<1>", "<2>"), letter("<2>", "<4>"), letter("<3>", "<2>"), letter("<4>", "<3>")), "(4 (2 (1) (3)))", 1, 3, 1, -1)
}

func TestThreadsLong(t *testing.T) {
	// Nothing is said of a box that has too many mails, so its threads are told like any other's.
	for _, size := range []int{maxMails - 1, maxMails, maxMails + 1} {
		var down, up, star []string
		var downs, ups, stars []int64
		for at := range size {
			own := fmt.Sprintf("<%d>", at)
			down = append(down, letter(own, fmt.Sprintf("<%d>", at-1)))
			up = append(up, letter(own, fmt.Sprintf("<%d>", at+1)))
			star = append(star, letter(own, "<0>"))
			downs = append(downs, int64(at-1))
			ups = append(ups, int64(at+1))
			stars = append(stars, 0)
		}
		ups[size-1], stars[0] = -1, -1
		show := ""
		for at := range size {
			show += fmt.Sprintf(" (%d", at+1)
		}
		checkThreads(t, boxOfMessages(down...), strings.TrimPrefix(show, " ")+strings.Repeat(")", size), downs...)
		show = ""
		for at := range size {
			show = fmt.Sprintf(" (%d", at+1) + show
		}
		checkThreads(t, boxOfMessages(up...), strings.TrimPrefix(show, " ")+strings.Repeat(")", size), ups...)
		checkThreads(t, boxOfMessages(star...), slowShow(boxOfMessages(star...), stars, -1, ""), stars...)
		// The last one would close the circle.
		up[size-1] = letter(fmt.Sprintf("<%d>", size-1), "<0>")
		checkThreads(t, boxOfMessages(up...), strings.TrimPrefix(show, " ")+strings.Repeat(")", size), ups...)
	}
	wantNumbers(t, "Threads", "many alone", impl.Threads(impl.Mailbox{Mails: manyMails(maxMails+1, "")}), slices.Repeat(ids(-1), maxMails+1))
	room := maxText - len(letter("<2>", "<1>"))
	full := letter("<2>", "<1>"+strings.Repeat("<>", room/2)+xs(room%2))
	wantNumbers(t, "Threads", "a long message", impl.Threads(boxOfMessages(letter("<1>", ""), full)), ids(-1, 0))
	wantText(t, "ShowThreads", "a long message", impl.ShowThreads(boxOfMessages(letter("<1>", ""), full)), "(1 (2))")
	wantNumbers(t, "Threads", "a message too long", impl.Threads(boxOfMessages(letter("<1>", ""), full+"x")), nil)
	wantText(t, "ShowThreads", "a message too long", impl.ShowThreads(boxOfMessages(letter("<1>", ""), full+"x")), "")
}

// TestThreadsOfManyReferences has mails all of whose many references are below themselves: it has to end, too.
func TestThreadsOfManyReferences(t *testing.T) {
	var messages []string
	for at := range maxMails {
		messages = append(messages, letter(fmt.Sprintf("<%d>", at), fmt.Sprintf("<%d>", at+1)+strings.Repeat("<0>", 20000)))
	}
	got := impl.Threads(impl.Mailbox{Mails: boxOfMessages(messages...).Mails})
	// The first one's last references are to itself, the others' to the first.
	want := append(upTo(1, maxMails-1), -1)
	wantNumbers(t, "Threads", "of many references", got, want)
}

// TestPromise20: Threads have no circle; each parent is one that the mail itself names.
func TestPromise20(t *testing.T) {
	d := dice{state: 1507}
	children := 0
	for range 6000 {
		var messages []string
		size := d.below(9)
		for range size {
			number := fmt.Sprintf("<%d>", d.below(size))
			references := ""
			for range d.below(4) {
				references += fmt.Sprintf("<%d>", d.below(size+1))
			}
			message := letter(d.pick(number, number, number, "", "<>"), d.pick(references, references, references+"<", "<"+references, ""))
			if d.below(3) == 0 {
				message = fmt.Sprintf("In-Reply-To: %s<%d>\r\n", d.pick("", "x", "<"), d.below(size)) + message
			}
			messages = append(messages, d.pick(message, message, message, message, "ill\r\n"+message))
		}
		b := boxOfMessages(messages...)
		parents := impl.Threads(b)
		if len(parents) != size {
			t.Fatalf("%d parents of %d mails", len(parents), size)
		}
		checkThreads(t, b, slowShow(b, slowThreads(b), -1, ""), slowThreads(b)...)
		for at, parent := range parents {
			steps := 0
			for up := int64(at); up >= 0; up = parents[up] {
				if steps++; steps > size {
					t.Fatalf("%v goes round", parents)
				}
			}
			if parent < 0 {
				continue
			}
			children++
			number := slowAngles(b.Mails[parent].Message, "Message-ID")
			if len(number) == 0 || !slices.Contains(slowReferences(b.Mails[at].Message), number[0]) {
				t.Fatalf("%s does not name %s", short(b.Mails[at].Message), short(b.Mails[parent].Message))
			}
		}
		// Each mail is shown once.
		for _, mail := range b.Mails {
			if strings.Count(impl.ShowThreads(b)+" ", fmt.Sprintf("(%d", mail.Uid)) != 1 {
				t.Fatalf("%s does not show %d once", impl.ShowThreads(b), mail.Uid)
			}
		}
	}
	if children < 3000 {
		t.Errorf("only %d have a parent", children)
	}
}

// roomyQuery has room behind its lists, with something in it.
func roomyQuery(nodes []impl.QueryNode) []impl.QueryNode {
	var out []impl.QueryNode
	for _, node := range nodes {
		node.Name, node.Text = strings.Clone(node.Name), strings.Clone(node.Text)
		node.Uids = append(slices.Clone(node.Uids), just(7), just(8))[:len(node.Uids)]
		node.Kids = append(slices.Clone(node.Kids), 77, 77)[:len(node.Kids)]
		out = append(out, node)
	}
	return append(out, impl.QueryNode{Text: "room"}, impl.QueryNode{Text: "room"})[:len(out)]
}

// queryWithRoom is nodes, and what stands in the room behind each list of them.
func queryWithRoom(nodes []impl.QueryNode) []impl.QueryNode {
	all := queryCopy(nodes[:len(nodes)+2])
	for at, node := range nodes {
		all[at].Uids = slices.Clone(node.Uids[:len(node.Uids)+2])
		all[at].Kids = slices.Clone(node.Kids[:len(node.Kids)+2])
	}
	return all
}

func querySpans(nodes []impl.QueryNode) (lists, texts []span) {
	lists = append(lists, spanOf(nodes))
	for _, node := range nodes {
		lists = append(lists, spanOf(node.Uids), spanOf(node.Kids))
		texts = append(texts, textSpan(node.Name), textSpan(node.Text))
	}
	return lists, texts
}

func TestQueriesShareNothing(t *testing.T) {
	text := `OR (UID 1:3,7 HEADER abc "def") (KEYWORD ghi NOT (BODY jkl UID 5)) UID 9 FROM mno`
	got := impl.ReadQuery(text)
	if got.Code != impl.OK {
		t.Fatal(got)
	}
	lists, texts := querySpans(got.Nodes)
	wantEachApart(t, "the lists of a query", lists)
	wantApartFrom(t, "the texts of a query", texts, []span{textSpan(text)})
	before := queryCopy(got.Nodes)
	for at := range got.Nodes {
		clear(got.Nodes[at].Uids)
		clear(got.Nodes[at].Kids)
		got.Nodes[at].Name = "other"
	}
	if again := impl.ReadQuery(text); !sameQueryNodes(again.Nodes, before) {
		t.Error("an answer was kept")
	}
	nodes := roomyQuery(before)
	written := impl.WriteQuery(nodes)
	_, texts = querySpans(nodes)
	wantApartFrom(t, "what is written", []span{textSpan(written)}, texts)
}

func TestSearchesChangeNothing(t *testing.T) {
	d := dice{state: 1508}
	for range 400 {
		store := roomyStore(impl.Store{Boxes: []impl.Mailbox{d.searchBox(6)}})
		seenStore := seenWithRoom(store)
		b := store.Boxes[0]
		nodes := roomyQuery(queryNodes(d.query(1 + d.below(4))))
		seenNodes := queryWithRoom(nodes)
		keys := append(d.sortKeys(), "room", "room")
		seenKeys := slices.Clone(keys)
		ask := func() [][]int64 {
			return [][]int64{impl.Search(b, nodes), impl.SortBox(b, keys[:len(keys)-2]), impl.Threads(b)}
		}
		first := ask()
		impl.ShowThreads(b)
		impl.QueryFault(nodes)
		impl.WriteQuery(nodes)
		impl.WriteQuery(d.turnedQuery(nodes))
		if !reflect.DeepEqual(queryWithRoom(nodes), seenNodes) || !reflect.DeepEqual(seenWithRoom(store), seenStore) || !slices.Equal(keys, seenKeys) {
			t.Fatal("an argument was changed")
		}
		lists, _ := querySpans(nodes)
		mails, _ := storeSpans(store)
		var kept [][]int64
		for _, answer := range first {
			wantApartFrom(t, "answers", []span{spanOf(answer)}, append(slices.Clone(lists), mails...))
			kept = append(kept, slices.Clone(answer))
			clear(answer)
		}
		for at, answer := range ask() {
			wantNumbers(t, "an answer", "a second time", answer, kept[at])
		}
	}
}
