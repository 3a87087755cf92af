package tests

import (
	"math"
	"reflect"
	"regexp"
	"slices"
	"strconv"
	"strings"
	"testing"
	"time"

	"loop.example/g00013/impl"
)

const (
	maxScript      = 10000
	maxFilterDeep  = 20
	maxFilterNodes = 2000
	maxFilterSteps = 5000
	maxVars        = 32
	maxVarBytes    = 1000
	maxActions     = 32
	maxPattern     = 200
	maxWildText    = 2000
	maxTexts       = 100
	maxSize        = 999999999
)

func TestFilterConstants(t *testing.T) {
	limits := []int64{impl.MaxScript, impl.MaxFilterDeep, impl.MaxFilterNodes, impl.MaxFilterSteps, impl.MaxVars, impl.MaxVarBytes, impl.MaxActions}
	wantNumbers(t, "limits", "", limits, []int64{10000, 20, 2000, 5000, 32, 1000, 32})
	commands := []int64{impl.FlBlock, impl.FlIf, impl.FlRepeat, impl.FlKeep, impl.FlDiscard, impl.FlStop, impl.FlFile, impl.FlRedirect, impl.FlReject, impl.FlFlag, impl.FlSet}
	wantNumbers(t, "commands", "", commands, []int64{1, 2, 3, 4, 5, 6, 7, 8, 9, 10, 11})
	tests := []int64{impl.FlTrue, impl.FlFalse, impl.FlNot, impl.FlAll, impl.FlAny, impl.FlHeader, impl.FlAddress, impl.FlEnvelope, impl.FlExists, impl.FlOver, impl.FlUnder, impl.FlString}
	wantNumbers(t, "tests", "", tests, []int64{20, 21, 22, 23, 24, 25, 26, 27, 28, 29, 30, 31})
	wantNumbers(t, "matches", "", []int64{impl.MatchIs, impl.MatchContains, impl.MatchMatches}, []int64{0, 1, 2})
}

func checkWild(t *testing.T, pattern, text string, want ...string) {
	t.Helper()
	got := impl.Wild(pattern, text)
	if !slices.Equal(got, want) {
		t.Errorf("Wild of %s, %s: %s, want %s", short(pattern), short(text), short(strings.Join(got, "|")), short(strings.Join(want, "|")))
	}
	wantOwnMemory(t, "Wild", text, got...)
	wantOwnMemory(t, "Wild", pattern, got...)
}

func checkNoWild(t *testing.T, pattern, text string) {
	t.Helper()
	checkWild(t, pattern, text)
}

func TestWildPatterns(t *testing.T) {
	for _, c := range []struct {
		pattern, text string
		marks         []string
	}{
		{"", "", nil},
		{"a", "a", nil},
		{"abc", "abc", nil},
		{"*", "", []string{""}},
		{"*", "abc", []string{"abc"}},
		{"?", "a", []string{"a"}},
		{"*a", "a", []string{""}},
		{"*a", "bca", []string{"bc"}},
		{"*a", "aaa", []string{"aa"}},
		{"a*", "a", []string{""}},
		{"a*", "aaa", []string{"aa"}},
		{"*a*", "a", []string{"", ""}},
		{"*a*", "bab", []string{"b", "b"}},
		{"?a", "xa", []string{"x"}},
		{"a?", "ax", []string{"x"}},
		{"?a?", "xay", []string{"x", "y"}},
		{"**", "", []string{"", ""}},
		{"**", "abc", []string{"", "abc"}},
		{"***", "abc", []string{"", "", "abc"}},
		{"??", "ab", []string{"a", "b"}},
		{"*?", "abc", []string{"ab", "c"}},
		{"?*", "abc", []string{"a", "bc"}},
		{"?*", "a", []string{"a", ""}},
		{"*?*", "abc", []string{"", "a", "bc"}},
		{"**?", "abc", []string{"", "ab", "c"}},
		{"*??", "abc", []string{"a", "b", "c"}},
		{"a*b*c", "abc", []string{"", ""}},
		{"a*b*c", "axbyc", []string{"x", "y"}},
		{"a*b*c", "abbcc", []string{"", "bc"}},
		{"*a*a*", "aaaa", []string{"", "", "aa"}},
		{"*ab*ab", "ababab", []string{"", "ab"}},
		{"*ab", "aab", []string{"a"}},
		{"*aab*", "aaab", []string{"a", ""}},
		{"*a?c*", "abaacx", []string{"ab", "a", "x"}},
		{"*b?", "abbb", []string{"ab", "b"}},
		{"* *", "a b c", []string{"a", "b c"}},
		{"\r*\n", "\r\x00\n", []string{"\x00"}},
	} {
		checkWild(t, c.pattern, c.text, append([]string{c.text}, c.marks...)...)
	}
	for _, c := range [][2]string{
		{"", "a"}, {"a", ""}, {"a", "b"}, {"a", "aa"}, {"aa", "a"}, {"?", ""}, {"?", "ab"}, {"??", "a"}, {"*?", ""}, {"?*", ""},
		{"a*", "ba"}, {"*a", "ab"}, {"*a*", "bcd"}, {"a*a", "a"}, {"a*b*c", "acb"}, {"*ab", "abc"}, {"*a?c", "ac"}, {"a", "*"}, {"a", "?"},
		{"*??", "a"}, {"a?b", "ab"}, {" a", "a"}, {"a ", "a"},
	} {
		checkNoWild(t, c[0], c[1])
	}
}

func TestWildItself(t *testing.T) {
	// Ahead of each byte, those that stand for others too.
	for b := range 256 {
		sign := string([]byte{byte(b)})
		checkWild(t, `\`+sign, sign, sign)
		checkWild(t, `*\`+sign+`?`, "x"+sign+"y", "x"+sign+"y", "x", "y")
		checkNoWild(t, `\`+sign, "")
		checkNoWild(t, `\`+sign, `\`+sign)
		checkNoWild(t, `\`+sign, sign+"x")
		if sign != "x" && sign != "X" {
			checkNoWild(t, `\`+sign, "x")
		}
	}
	checkWild(t, `\`, `\`, `\`)
	checkWild(t, `a\`, `a\`, `a\`)
	checkWild(t, `*\`, `a\\`, `a\\`, `a\`)
	checkWild(t, `\\`, `\`, `\`)
	checkWild(t, `\\\`, `\\`, `\\`)
	checkWild(t, `\\*`, `\abc`, `\abc`, "abc")
	checkWild(t, `\*\?\\*`, `*?\`, `*?\`, "")
	checkWild(t, `?\*`, "x*", "x*", "x")
	checkNoWild(t, `\`, "")
	checkNoWild(t, `\`, `\\`)
	checkNoWild(t, `\\`, `\\`)
	checkNoWild(t, `\*`, "a")
	checkNoWild(t, `\*`, `\*`)
	checkNoWild(t, `\?`, "a")
}

func TestWildCases(t *testing.T) {
	letters := "abcdefghijklmnopqrstuvwxyz"
	capitals := "ABCDEFGHIJKLMNOPQRSTUVWXYZ"
	checkWild(t, letters, capitals, capitals)
	checkWild(t, capitals, letters, letters)
	// Marks are as the text has them.
	checkWild(t, "A*c?", "aBbCD", "aBbCD", "Bb", "D")
	checkWild(t, `\A\b`, "aB", "aB")
	checkWild(t, "*B*", "aAbB", "aAbB", "aA", "B")
	// No other byte is the same as another one, though it has the same bits but one, or is a letter elsewhere.
	for b := range 256 {
		for c := range 256 {
			pattern, text := `\`+string([]byte{byte(b)}), string([]byte{byte(c)})
			same := b == c || b|32 == c|32 && 'a' <= b|32 && b|32 <= 'z'
			if fits := len(impl.Wild(pattern, text)) == 1; fits != same {
				t.Errorf("Wild of %q, %q: %v", pattern, text, fits)
			}
		}
	}
	checkNoWild(t, "\xc3\xa9", "\xc3\x89")
	checkNoWild(t, "k", "\xe2\x84\xaa")
	checkNoWild(t, "s", "\xc5\xbf")
	// Bytes, not characters.
	checkWild(t, "?*", "\xc3\xa9", "\xc3\xa9", "\xc3", "\xa9")
	checkNoWild(t, "?", "\xc3\xa9")
	checkWild(t, "\xff*\x80", "\xff\x00\x80", "\xff\x00\x80", "\x00")
}

func TestWildMarks(t *testing.T) {
	for count := range 15 {
		digits := "abcdefghijklmnop"[:count]
		want := []string{digits}
		for _, digit := range digits[:min(count, 9)] {
			want = append(want, string(digit))
		}
		checkWild(t, strings.Repeat("?", count), digits, want...)
		// A star behind so many points is a mark more.
		if count < 9 {
			checkWild(t, strings.Repeat("?", count)+"*", digits+"xy", append(append([]string{digits + "xy"}, want[1:]...), "xy")...)
		} else {
			checkWild(t, strings.Repeat("?", count)+"*", digits+"xy", append([]string{digits + "xy"}, want[1:]...)...)
		}
		stars := []string{digits}
		for at := range min(count, 9) {
			stars = append(stars, "")
			if at == count-1 {
				stars[at+1] = digits
			}
		}
		if count > 0 {
			checkWild(t, strings.Repeat("*", count), digits, stars...)
		}
	}
	// What does not fit behind the last mark that is told does not fit at all.
	checkNoWild(t, strings.Repeat("?", 12)+"x", "abcdefghijkly")
	checkWild(t, strings.Repeat("?", 11)+"*x", "abcdefghijklyx", "abcdefghijklyx", "a", "b", "c", "d", "e", "f", "g", "h", "i")
}

func TestWildLimits(t *testing.T) {
	text := xs(maxPattern)
	checkWild(t, text, text, text)
	checkNoWild(t, text+"x", text+"x")
	checkNoWild(t, strings.Repeat("*", maxPattern+1), "")
	checkWild(t, strings.Repeat("*", maxPattern), "", slices.Repeat([]string{""}, 10)...)
	// Bytes of the pattern count, not what they stand for.
	checkWild(t, strings.Repeat(`\x`, maxPattern/2), xs(maxPattern/2), xs(maxPattern/2))
	checkNoWild(t, strings.Repeat(`\x`, maxPattern/2)+"*", xs(maxPattern/2))
	text = xs(maxWildText)
	checkWild(t, "*", text, text, text)
	checkWild(t, "x*x", text, text, text[2:])
	checkNoWild(t, "*", text+"x")
	checkNoWild(t, "*", xs(maxText))
	checkNoWild(t, "*", xs(maxText+1))
	checkNoWild(t, xs(maxText+1), xs(maxText+1))
	checkNoWild(t, xs(maxText+1), "")
	// Stars in rows must not be tried in all ways.
	for _, many := range []string{strings.Repeat("*x", 99) + "*y", strings.Repeat("*", 199) + "y", strings.Repeat("*x?", 66) + "y", "*" + xs(198) + "y"} {
		checkNoWild(t, many, text)
	}
	checkWild(t, "*"+xs(198)+"y", text[1:]+"y", text[1:]+"y", xs(maxWildText-199))
}

// slowWild tries all ways in the order of the stars' sizes, from the left, and is the first that fits.
func slowWild(pattern, text string) []string {
	ways := slowWays(pattern, text, map[[2]int]bool{})
	if ways == nil {
		return nil
	}
	ways = append([]string{text}, ways[1:]...)
	return ways[:min(len(ways), 10)]
}

// slowWays is nil, or an empty text and the marks behind it.
func slowWays(pattern, text string, dead map[[2]int]bool) []string {
	place := [2]int{len(pattern), len(text)}
	if dead[place] {
		return nil
	}
	if pattern == "" {
		if text == "" {
			return []string{""}
		}
		return nil
	}
	rest, least, most, mark := pattern[1:], 1, 1, true
	switch {
	case pattern[0] == '*':
		least, most = 0, len(text)
	case pattern[0] == '?':
	default:
		itself := pattern[:1]
		if itself == `\` && rest != "" {
			itself, rest = rest[:1], rest[1:]
		}
		mark = false
		if text == "" || !slowSame(itself, text[:1]) {
			most = 0
		}
	}
	for size := least; size <= most && size <= len(text); size++ {
		if ways := slowWays(rest, text[size:], dead); ways != nil {
			if mark {
				ways = slices.Insert(ways, 1, text[:size])
			}
			return ways
		}
	}
	dead[place] = true
	return nil
}

func slowSame(a, b string) bool { return slowLow(a) == slowLow(b) }

func slowLow(text string) string {
	out := []byte(text)
	for at, b := range out {
		if at2 := strings.IndexByte("ABCDEFGHIJKLMNOPQRSTUVWXYZ", b); at2 >= 0 {
			out[at] = "abcdefghijklmnopqrstuvwxyz"[at2]
		}
	}
	return string(out)
}

// putIn puts marks into the places of a pattern's stars and points.
func putIn(pattern string, marks []string) string {
	var out strings.Builder
	for at := 0; at < len(pattern); at++ {
		switch b := pattern[at]; {
		case b == '*' || b == '?':
			out.WriteString(marks[0])
			marks = marks[1:]
		case b == '\\' && at+1 < len(pattern):
			at++
			out.WriteByte(pattern[at])
		default:
			out.WriteByte(b)
		}
	}
	return out.String()
}

func TestWildOfAllWays(t *testing.T) {
	d := dice{state: 1101}
	fitted := 0
	for range 40000 {
		pattern := d.text(d.below(9), []string{"*", "?", "a", "b", "A", `\`, "\xff", "*"})
		text := d.text(d.below(9), []string{"a", "b", "B", "A", "*", "?", `\`, "\xff", "a", "a"})
		want := slowWild(pattern, text)
		checkWild(t, pattern, text, want...)
		if len(want) > 1 {
			fitted++
		}
	}
	if fitted < 2000 {
		t.Errorf("only %d patterns with marks fitted", fitted)
	}
}

// The third of promise 12.
func TestWildMarksMakeTheText(t *testing.T) {
	d := dice{state: 1102}
	for range 20000 {
		pattern := d.text(d.below(14), []string{"*", "?", "a", "b", "A", `\*`, `\?`, `\\`, `\a`, "\xff", "*"}) + d.pick("", "", `\`)
		places := strings.Count(strings.NewReplacer(`\*`, "", `\?`, "", `\\`, "").Replace(pattern), "*") + strings.Count(strings.NewReplacer(`\*`, "", `\?`, "", `\\`, "").Replace(pattern), "?")
		if places > 9 {
			continue
		}
		var filling []string
		for range places {
			filling = append(filling, d.text(1, []string{"a", "b", "B", "*", `\`, "\xff"}))
		}
		text := putIn(pattern, filling)
		if d.below(2) == 0 {
			text = strings.NewReplacer("a", "A", "b", "B").Replace(text[:len(text)/2]) + text[len(text)/2:]
		}
		got := impl.Wild(pattern, text)
		if len(got) != places+1 || got[0] != text {
			t.Fatalf("Wild of %q, %q: %q", pattern, text, got)
		}
		if made := putIn(pattern, got[1:]); !slowSame(made, text) {
			t.Errorf("Wild of %q, %q: %q, which make %q", pattern, text, got, made)
		}
	}
}

// tree is a node with its kids in it.
type tree struct {
	node impl.FilterNode
	kids []tree
}

func thing(kind int64, kids ...tree) tree {
	return tree{node: impl.FilterNode{Kind: kind}, kids: kids}
}

func block(kids ...tree) tree { return thing(impl.FlBlock, kids...) }

func choice(kids ...tree) tree { return thing(impl.FlIf, kids...) }

func repeated(times int64, kids ...tree) tree {
	return tree{node: impl.FilterNode{Kind: impl.FlRepeat, Num: times}, kids: []tree{block(kids...)}}
}

func saying(kind int64, text string) tree {
	return tree{node: impl.FilterNode{Kind: kind, Text: text}}
}

func setting(name, text string) tree {
	return tree{node: impl.FilterNode{Kind: impl.FlSet, Names: []string{name}, Text: text}}
}

func comparison(kind, match int64, names, keys []string) tree {
	return tree{node: impl.FilterNode{Kind: kind, Match: match, Names: names, Keys: keys}}
}

func exists(names ...string) tree {
	return tree{node: impl.FilterNode{Kind: impl.FlExists, Names: names}}
}

func over(size int64) tree { return tree{node: impl.FilterNode{Kind: impl.FlOver, Num: size}} }

func under(size int64) tree { return tree{node: impl.FilterNode{Kind: impl.FlUnder, Num: size}} }

func some(texts ...string) []string { return texts }

var (
	keep  = thing(impl.FlKeep)
	drop  = thing(impl.FlDiscard)
	stop  = thing(impl.FlStop)
	yes   = thing(impl.FlTrue)
	no    = thing(impl.FlFalse)
	empty = block()
)

// nodesOf lists a tree, each node behind its kids.
func nodesOf(t tree) []impl.FilterNode { return appendNodes(nil, t) }

func appendNodes(nodes []impl.FilterNode, t tree) []impl.FilterNode {
	node := copied(t.node)
	for _, kid := range t.kids {
		nodes = appendNodes(nodes, kid)
		node.Kids = append(node.Kids, int64(len(nodes)-1))
	}
	return append(nodes, node)
}

// copied has lists of its own.
func copied(node impl.FilterNode) impl.FilterNode {
	node.Names, node.Keys, node.Kids = slices.Clone(node.Names), slices.Clone(node.Keys), slices.Clone(node.Kids)
	return node
}

func allCopied(nodes []impl.FilterNode) []impl.FilterNode {
	var out []impl.FilterNode
	for _, node := range nodes {
		out = append(out, copied(node))
	}
	return out
}

func sameNode(a, b impl.FilterNode) bool {
	return a.Kind == b.Kind && a.Num == b.Num && a.Match == b.Match && a.Text == b.Text &&
		slices.Equal(a.Names, b.Names) && slices.Equal(a.Keys, b.Keys) && slices.Equal(a.Kids, b.Kids)
}

func sameNodes(a, b []impl.FilterNode) bool { return slices.EqualFunc(a, b, sameNode) }

func checkFilter(t *testing.T, script string, want tree) {
	t.Helper()
	got := impl.ReadFilter(script)
	nodes := nodesOf(want)
	if got.Code != impl.OK || got.Line != 0 || !sameNodes(got.Nodes, nodes) {
		t.Errorf("ReadFilter of %s: %s, want %s", short(script), short(shown(got)), short(shown(nodes)))
	}
	if code := impl.FilterFault(got.Nodes); code != impl.OK {
		t.Errorf("FilterFault of what is read of %s: %d", short(script), code)
	}
}

func checkNoFilter(t *testing.T, script string, code, line int64) {
	t.Helper()
	got := impl.ReadFilter(script)
	if got.Code != code || got.Line != line || len(got.Nodes) != 0 {
		t.Errorf("ReadFilter of %s: %s, want code %d, line %d", short(script), short(shown(got)), code, line)
	}
}

func checkIllScript(t *testing.T, script string, line int64) {
	t.Helper()
	checkNoFilter(t, script, impl.ErrSyntax, line)
}

// oneTest is a script that does nothing but test.
func oneTest(test tree) tree { return block(choice(test, empty)) }

func TestReadFilterCommands(t *testing.T) {
	checkFilter(t, "", empty)
	for _, gap := range []string{" ", "\t", "\r", "\n", "\r\n", " \t\r\n\n\r ", "#", "# keep;", "#\"", "#\n", "#\r\n # two\n", "# x\n\n#y\r"} {
		checkFilter(t, gap, empty)
	}
	checkFilter(t, "keep;", block(keep))
	checkFilter(t, "discard;", block(drop))
	checkFilter(t, "stop;", block(stop))
	checkFilter(t, `fileinto "a";`, block(saying(impl.FlFile, "a")))
	checkFilter(t, `redirect "a@b";`, block(saying(impl.FlRedirect, "a@b")))
	checkFilter(t, `reject "no";`, block(saying(impl.FlReject, "no")))
	checkFilter(t, `addflag "seen";`, block(saying(impl.FlFlag, "seen")))
	checkFilter(t, `set "a" "b";`, block(setting("a", "b")))
	checkFilter(t, `fileinto "";redirect "";reject "";addflag "";set "z" "";`, block(
		saying(impl.FlFile, ""), saying(impl.FlRedirect, ""), saying(impl.FlReject, ""), saying(impl.FlFlag, ""), setting("z", "")))
	checkFilter(t, "keep;keep;stop;keep;", block(keep, keep, stop, keep))
	checkFilter(t, "repeat 7 {}", block(repeated(7)))
	checkFilter(t, "repeat 7 { keep; stop; }", block(repeated(7, keep, stop)))
	checkFilter(t, "repeat 1 { repeat 2 { keep; } stop; } discard;", block(repeated(1, repeated(2, keep), stop), drop))
	checkFilter(t, "if true {}", oneTest(yes))
	checkFilter(t, "if true { keep; } discard;", block(choice(yes, block(keep)), drop))
	checkFilter(t, "if true { keep; } else { stop; }", block(choice(yes, block(keep), block(stop))))
	checkFilter(t, "if true {} else {} if false {}", block(choice(yes, empty, empty), choice(no, empty)))
	checkFilter(t, "if true { if false {} else {} } else { if true {} }",
		block(choice(yes, block(choice(no, empty, empty)), block(choice(yes, empty)))))
}

func TestReadFilterElsif(t *testing.T) {
	checkFilter(t, "if true {} elsif false {}", block(choice(yes, empty, choice(no, empty))))
	checkFilter(t, "if true { keep; } elsif false { stop; } else { discard; }",
		block(choice(yes, block(keep), choice(no, block(stop), block(drop)))))
	checkFilter(t, "if true {} elsif false { } elsif true {stop;}",
		block(choice(yes, empty, choice(no, empty, choice(yes, block(stop))))))
	checkFilter(t, "if true {} elsif false { } elsif true {stop;} else {keep;} keep;",
		block(choice(yes, empty, choice(no, empty, choice(yes, block(stop), block(keep)))), keep))
	checkFilter(t, "if true {} elsif false {} if true {}", block(choice(yes, empty, choice(no, empty)), choice(yes, empty)))
	// What comes else is no elsif, if it is a block with an if in it.
	checkFilter(t, "if true {} else { if false {} }", block(choice(yes, empty, block(choice(no, empty)))))
	kinds := []int64{}
	for _, node := range impl.ReadFilter("if true { keep; } elsif false { stop; } else { discard; }").Nodes {
		kinds = append(kinds, node.Kind)
	}
	wantNumbers(t, "kinds", "", kinds, []int64{impl.FlTrue, impl.FlKeep, impl.FlBlock, impl.FlFalse, impl.FlStop, impl.FlBlock, impl.FlDiscard, impl.FlBlock, impl.FlIf, impl.FlIf, impl.FlBlock})
	for _, ill := range []string{"else {}", "elsif true {}", "if true {} else {} else {}", "if true {} else {} elsif true {}", "if true {} keep; else {}", "if true {} else if true {}", "if true {} elsif {}", "if true {} else true {}"} {
		checkIllScript(t, ill, 1)
	}
}

func TestReadFilterTests(t *testing.T) {
	for script, want := range map[string]tree{
		"true":                   yes,
		"false":                  no,
		"not true":               thing(impl.FlNot, yes),
		"not not false":          thing(impl.FlNot, thing(impl.FlNot, no)),
		"allof(true)":            thing(impl.FlAll, yes),
		"anyof(false)":           thing(impl.FlAny, no),
		"allof ( true , false )": thing(impl.FlAll, yes, no),
		"anyof(true,false,true)": thing(impl.FlAny, yes, no, yes),
		"not anyof(true)":        thing(impl.FlNot, thing(impl.FlAny, yes)),
		"allof(anyof(true),not\ntrue,allof(allof(false)))": thing(impl.FlAll, thing(impl.FlAny, yes), thing(impl.FlNot, yes), thing(impl.FlAll, thing(impl.FlAll, no))),
		`header :is "a" "b"`:                  comparison(impl.FlHeader, 0, some("a"), some("b")),
		`header :contains "a" "b"`:            comparison(impl.FlHeader, 1, some("a"), some("b")),
		`header :matches "a" "b"`:             comparison(impl.FlHeader, 2, some("a"), some("b")),
		`header:is"a""b"`:                     comparison(impl.FlHeader, 0, some("a"), some("b")),
		`header :is [ "a" ] ["b"]`:            comparison(impl.FlHeader, 0, some("a"), some("b")),
		`header :is ["a","b"] "c"`:            comparison(impl.FlHeader, 0, some("a", "b"), some("c")),
		`header :is "a" ["b", "c" ,"a"]`:      comparison(impl.FlHeader, 0, some("a"), some("b", "c", "a")),
		`header :is ["a","a"] ["",""]`:        comparison(impl.FlHeader, 0, some("a", "a"), some("", "")),
		`address :matches "to" "*"`:           comparison(impl.FlAddress, 2, some("to"), some("*")),
		`address :is ["to","cc"] ["a@b"]`:     comparison(impl.FlAddress, 0, some("to", "cc"), some("a@b")),
		`envelope :contains "from" "x"`:       comparison(impl.FlEnvelope, 1, some("from"), some("x")),
		`string :is "${a}" "b"`:               comparison(impl.FlString, 0, some("${a}"), some("b")),
		`string :matches ["x","y"] ["?","*"]`: comparison(impl.FlString, 2, some("x", "y"), some("?", "*")),
		`exists "a"`:                          exists("a"),
		`exists ["a"]`:                        exists("a"),
		`exists ["a", "b", ""]`:               exists("a", "b", ""),
		"size :over 0":                        over(0),
		"size :under 0":                       under(0),
		"size :over 9":                        over(9),
		"size :under 123456789":               under(123456789),
		"size:over 999999999":                 over(maxSize),
		"size :under 999999999":               under(maxSize),
		"size :over 000000000":                over(0),
		"size :over 007":                      over(7),
	} {
		checkFilter(t, "if "+script+" {}", oneTest(want))
		checkFilter(t, "if true {} elsif "+script+"{}", block(choice(yes, empty, choice(want, empty))))
		checkFilter(t, "if allof(true,"+script+",not "+script+") {}", oneTest(thing(impl.FlAll, yes, want, thing(impl.FlNot, want))))
	}
}

func TestReadFilterGaps(t *testing.T) {
	want := block(choice(thing(impl.FlAny, comparison(impl.FlHeader, 1, some("a", "b"), some("c")), over(5)), block(setting("v", "x"), repeated(3, keep)), block(stop)))
	tokens := strings.Fields(`if anyof ( header :contains [ "a" , "b" ] "c" , size :over 5 ) { set "v" "x" ; repeat 3 { keep ; } } else { stop ; }`)
	checkFilter(t, strings.Join(tokens, " "), want)
	for _, gap := range []string{"\t", "\r", "\n", "\r\n", "#\n", " # ; } \" \\\n", "#a\n#b\r\n", "\n\n#\r\n\t"} {
		checkFilter(t, gap+strings.Join(tokens, gap)+gap, want)
	}
	checkFilter(t, strings.Join(tokens, " ")+"# the end", want)
	checkFilter(t, `if anyof(header:contains["a","b"]"c",size:over 5){set"v""x";repeat 3{keep;}}else{stop;}`, want)
	// A word goes as far as its letters, and so does a number.
	checkFilter(t, `if anyof(header:contains["a","b"]"c",size:over5){set"v""x";repeat3{keep;}}else{stop;}`, want)
	for _, script := range []string{"keepkeep;", "iftrue {}", "kee p;", "repeat 1 0 {}", "keep\x00;", "keep\x0b;", "keep\x0c;", "keep\xa0;", "keep\xc2\xa0;", "ke#\nep;", "size : over 5 {}", "if size :ov er 5 {}"} {
		checkIllScript(t, script, 1)
	}
}

func TestReadFilterNumbers(t *testing.T) {
	for times := range 101 {
		checkFilter(t, "repeat "+strconv.Itoa(times)+"{}", block(repeated(int64(times))))
	}
	checkFilter(t, "repeat 000000100 {}", block(repeated(100)))
	checkFilter(t, "repeat 00 {}", block(repeated(0)))
	for _, digits := range []string{"101", "102", "200", "256", "999999999", "000000101", "0000000100", "0000000000", "1000000000", "4294967296", "18446744073709551616", "99999999999999999999999999", "-1", "+1", "1.0", "0x1", "1e1", `"1"`, ":one", "one"} {
		checkIllScript(t, "repeat "+digits+" {}", 1)
	}
	for _, digits := range []string{"1000000000", "0000000001", "9999999999", "-1", "", `"5"`} {
		checkIllScript(t, "if size :over "+digits+" {}", 1)
		checkIllScript(t, "if size :under\n"+digits+" {}", 2)
	}
	// The line of the number, not of what stands behind it.
	checkIllScript(t, "\nrepeat\n101\n\x00", 3)
	checkIllScript(t, "repeat\n1234567890\n{}", 2)
}

func TestReadFilterTexts(t *testing.T) {
	for b := range 256 {
		sign := string([]byte{byte(b)})
		checkFilter(t, `fileinto "\`+sign+`";`, block(saying(impl.FlFile, sign)))
		checkFilter(t, `fileinto "x\`+sign+sign[:0]+`y\\";`, block(saying(impl.FlFile, "x"+sign+`y\`)))
		if sign != `"` && sign != `\` {
			checkFilter(t, `fileinto "`+sign+`";`, block(saying(impl.FlFile, sign)))
			checkFilter(t, `fileinto "`+sign+sign+`x";`, block(saying(impl.FlFile, sign+sign+"x")))
		}
	}
	checkFilter(t, `fileinto "\\\"";`, block(saying(impl.FlFile, `\"`)))
	checkFilter(t, `fileinto "\\\\";`, block(saying(impl.FlFile, `\\`)))
	checkFilter(t, `fileinto "# no comment";`, block(saying(impl.FlFile, "# no comment")))
	checkFilter(t, "fileinto \"a\r\nb\";", block(saying(impl.FlFile, "a\r\nb")))
	for _, text := range []string{`"`, `"a`, `"a\`, `"a\"`, `"a\";`, `"a;`, `"\\\"`, `"a#"` + `"`} {
		checkIllScript(t, "fileinto "+text, 1)
	}
	// Without an end it is told of where it begins.
	checkIllScript(t, "keep;\nfileinto\n\"a\nb\n\nc", 3)
	checkIllScript(t, "\n\n\"a\n\n", 3)
	checkIllScript(t, "fileinto \"a\nb\" keep", 2)
}

func TestReadFilterLongTexts(t *testing.T) {
	for _, size := range []int{maxVarBytes - 1, maxVarBytes} {
		checkFilter(t, `fileinto "`+xs(size)+`";`, block(saying(impl.FlFile, xs(size))))
		checkFilter(t, `set "a" "`+xs(size)+`";`, block(setting("a", xs(size))))
		// What it says counts, not how it is written.
		checkFilter(t, `reject "`+strings.Repeat(`\"`, size)+`";`, block(saying(impl.FlReject, strings.Repeat(`"`, size))))
		checkFilter(t, `if string :is "`+xs(size)+`" ["`+xs(size)+`"] {}`, oneTest(comparison(impl.FlString, 0, some(xs(size)), some(xs(size)))))
		checkFilter(t, `if exists ["","`+xs(size)+`"] {}`, oneTest(exists("", xs(size))))
	}
	long := xs(maxVarBytes + 1)
	for _, script := range []string{`fileinto X;`, `redirect X;`, `reject X;`, `addflag X;`, `set "a" X;`, `set X "a";`, `if exists X {}`, `if exists ["a",X] {}`, `if header :is X "a" {}`, `if header :is "a" X {}`, `if string :is "a" ["b",X] {}`} {
		checkIllScript(t, strings.ReplaceAll(script, "X", `"`+long+`"`), 1)
		checkIllScript(t, "\n"+strings.ReplaceAll(script, "X", "\n\""+long+"\"\n"), 3)
	}
	checkIllScript(t, `reject "`+strings.Repeat(`\\`, maxVarBytes+1)+`";`, 1)
	// It is told ahead of what stands behind it, and behind what stands ahead of it.
	checkIllScript(t, "fileinto\n\""+long+"\"\n\x00", 2)
	checkIllScript(t, "\x00\n\""+long+"\"", 1)
}

func TestReadFilterNames(t *testing.T) {
	letters := "abcdefghijklmnopqrstuvwxyz"
	for _, name := range []string{"a", "z", "az", letters[:19], letters[:20], letters[6:], "if", "keep"} {
		checkFilter(t, `set "`+name+`" "";`, block(setting(name, "")))
	}
	for _, name := range []string{"", letters[:21], letters, "A", "Z", "aB", "a1", "1", "a-", "-a", "a ", " a", "a_b", "`", "{", "\xe1", "a\x00", "é"} {
		checkIllScript(t, `set "`+name+`" "";`, 1)
		checkIllScript(t, "set\n\""+name+"\"\n\"\";", 2)
		checkIllScript(t, "set\n\""+name+"\"\n\x00", 2)
	}
	checkFilter(t, `set "\a\b" "";`, block(setting("ab", "")))
	checkIllScript(t, `set a "";`, 1)
	checkIllScript(t, `set ["a"] "";`, 1)
	checkIllScript(t, `set "a" b;`, 1)
	checkIllScript(t, `set "a";`, 1)
}

// grammar is that of chapter 11: for each name its ways, each of which is tokens or other names.
var grammar = map[string][]string{
	"script":   {"", "command script"},
	"command":  {"if test block elsifs elses", "repeat NUMBER block", "keep ;", "discard ;", "stop ;", "fileinto TEXT ;", "redirect TEXT ;", "reject TEXT ;", "addflag TEXT ;", "set NAME TEXT ;"},
	"elsifs":   {"", "elsif test block elsifs"},
	"elses":    {"", "else block"},
	"block":    {"{ script }"},
	"test":     {"true", "false", "not test", "allof ( test tests )", "anyof ( test tests )", "header match texts texts", "address match texts texts", "envelope match texts texts", "exists texts", "size :over SIZE", "size :under SIZE", "string match texts texts"},
	"tests":    {"", ", test tests"},
	"match":    {":is", ":contains", ":matches"},
	"texts":    {"TEXT", "[ TEXT moretext ]"},
	"moretext": {"", ", TEXT moretext"},
}

// recognizer tells how far tokens are the beginning of something that a grammar has.
type recognizer struct {
	grammar map[string][]string
	isToken func(name, token string) bool
	tokens  []string
	far     int
	known   map[string][]int
}

// ends are all places at which something that begins at a place can end.
func (r *recognizer) ends(name string, at int) []int {
	ways, isName := r.grammar[name]
	if !isName {
		r.far = max(r.far, at)
		if at < len(r.tokens) && r.isToken(name, r.tokens[at]) {
			return []int{at + 1}
		}
		return nil
	}
	key := name + " " + strconv.Itoa(at)
	if found, known := r.known[key]; known {
		return found
	}
	var found []int
	for _, way := range ways {
		places := []int{at}
		for _, thing := range strings.Fields(way) {
			var next []int
			for _, place := range places {
				next = append(next, r.ends(thing, place)...)
			}
			slices.Sort(next)
			places = slices.Compact(next)
		}
		found = append(found, places...)
	}
	slices.Sort(found)
	found = slices.Compact(found)
	r.known[key] = found
	return found
}

func isToken(name, token string) bool {
	isText := strings.HasPrefix(token, `"`) && strings.HasSuffix(token, `"`) && len(token) > 1 && len(token) <= maxVarBytes+2
	number, err := strconv.Atoi(token)
	isNumber := err == nil && len(token) <= 9
	switch name {
	case "TEXT":
		return isText
	case "NAME":
		return isText && len(token) > 2 && len(token) <= 22 && strings.Trim(token[1:len(token)-1], "abcdefghijklmnopqrstuvwxyz") == ""
	case "NUMBER":
		return isNumber && number <= 100
	case "SIZE":
		return isNumber
	}
	return name == token
}

// firstIllOf is the number of the first token that cannot stand where it does, that of the end perhaps, or -1.
func (r *recognizer) firstIllOf(name string) int {
	r.known = map[string][]int{}
	if slices.Contains(r.ends(name, 0), len(r.tokens)) {
		return -1
	}
	// What was asked for furthest on was not there.
	return r.far
}

func firstIll(tokens []string) int {
	r := recognizer{grammar: grammar, isToken: isToken, tokens: tokens}
	return r.firstIllOf("script")
}

// checkTokensOf writes tokens with line ends among them, and looks at the line of the first ill one.
func checkTokensOf(t *testing.T, d *dice, tokens []string) {
	t.Helper()
	var script strings.Builder
	lines := []int64{}
	line := int64(1)
	gap := func() {
		between := d.pick(" ", "\n", "\r\n", " #x\n", "\t", "\n\n", "\r")
		line += int64(strings.Count(between, "\n"))
		script.WriteString(between)
	}
	for _, token := range tokens {
		gap()
		lines = append(lines, line)
		script.WriteString(token)
		line += int64(strings.Count(token, "\n"))
	}
	gap()
	lines = append(lines, line)
	got := impl.ReadFilter(script.String())
	ill := firstIll(tokens)
	if ill < 0 {
		if got.Code == impl.ErrSyntax || got.Line != 0 {
			t.Errorf("ReadFilter of %s: %s", short(script.String()), short(shown(got)))
		}
		return
	}
	if got.Code != impl.ErrSyntax || got.Line != lines[ill] || len(got.Nodes) != 0 {
		t.Errorf("ReadFilter of %s: %s, want line %d", short(script.String()), short(shown(got)), lines[ill])
	}
}

// scriptTokens are tokens of all kinds, and some that are none.
var scriptTokens = []string{
	"if", "elsif", "else", "repeat", "keep", "discard", "stop", "fileinto", "redirect", "reject", "addflag", "set", "{", "}", ";",
	"true", "false", "not", "allof", "anyof", "(", ")", ",", "header", "address", "envelope", "exists", "size", "string",
	":is", ":contains", ":matches", ":over", ":under", "[", "]", `"a"`, `""`, `"A"`, "\"a\nb\"", `"keep"`, `";"`, `":is"`, "0", "100", "101", "999999999", "1234567890",
	":", ":keep", ":IS", "IF", "foo", "script", "block", "\x00", "$", "=", "\xff", "'a'", "-", "*", "<", ">", ".", "|", "/", "\\", "\x0c", "@",
}

// wholeScripts have each thing of the grammar in them.
var wholeScripts = []string{
	`if true { keep ; } elsif false { } elsif not true { stop ; } else { discard ; }`,
	`repeat 5 { fileinto "a" ; repeat 0 { } } redirect "b" ; reject "c" ; addflag "d" ; set "e" "f" ;`,
	`if allof ( true , anyof ( false ) , size :over 5 ) { } if size :under 7 { } else { }`,
	`if header :is "a" "b" { } elsif address :contains [ "a" ] [ "b" , "c" ] { }`,
	`if envelope :matches [ "a" , "b" , "c" ] "d" { } if exists "x" { } if exists [ "x" , "y" ] { } if string :is "a" "b" { }`,
}

func TestReadFilterTokensInAllPlaces(t *testing.T) {
	d := dice{state: 1103}
	for _, script := range wholeScripts {
		tokens := strings.Fields(script)
		if ill := firstIll(tokens); ill >= 0 {
			t.Fatalf("%s: token %d", script, ill)
		}
		for at := range len(tokens) + 1 {
			// It ends too soon.
			checkTokensOf(t, &d, tokens[:at])
			for _, token := range scriptTokens {
				checkTokensOf(t, &d, slices.Concat(tokens[:at], []string{token}, tokens[at:]))
				if at < len(tokens) {
					checkTokensOf(t, &d, slices.Concat(tokens[:at], []string{token}, tokens[at+1:]))
				}
			}
			if at < len(tokens) {
				checkTokensOf(t, &d, slices.Concat(tokens[:at], tokens[at+1:]))
			}
		}
	}
}

func TestReadFilterOfAnyTokens(t *testing.T) {
	d := dice{state: 1104}
	right := 0
	for range 30000 {
		var tokens []string
		for range 1 + d.below(3) {
			piece := strings.Fields(wholeScripts[d.below(len(wholeScripts))])
			if d.below(2) == 0 {
				from := d.below(len(piece))
				piece = piece[from : from+1+d.below(len(piece)-from)]
			}
			tokens = append(tokens, piece...)
		}
		for range d.below(3) {
			tokens[d.below(len(tokens))] = scriptTokens[d.below(len(scriptTokens))]
		}
		checkTokensOf(t, &d, tokens)
		if firstIll(tokens) < 0 {
			right++
		}
	}
	if right < 300 {
		t.Errorf("only %d scripts were right", right)
	}
}

func TestReadFilterLines(t *testing.T) {
	for _, c := range []struct {
		script string
		line   int64
	}{
		{"keep", 1},
		{"keep\n", 2},
		{"keep\n\n", 3},
		{"keep\r\n", 2},
		{"keep\r\r", 1},
		{"keep # no end", 1},
		{"keep # an end\n", 2},
		{"keep # an end\n#", 2},
		{"\n\nfoo;", 3},
		{"# one\n# two\nfoo;", 3},
		{"\r\rfoo;", 1},
		{"if true\n{ keep }", 2},
		{"if\ntrue\n{\nkeep\n}\n", 5},
		{"if true {\n", 2},
		{"if true {", 1},
		{"if true {\n keep;\n} }", 3},
		{"}", 1},
		{"\n{ }", 2},
		{";", 1},
		{"keep;;", 1},
		{"keep;\n;", 2},
		{"if anyof(\n) {}", 2},
		{"if anyof(true\n,\n) {}", 3},
		{"if anyof(true\n,true\n{}", 3},
		{"if exists [\n] {}", 2},
		{"if exists [\"a\"\n\"b\"] {}", 2},
		{"if exists [\"a\",\n] {}", 2},
		{"if header \"a\"\n\"b\" {}", 1},
		{"if header :is\n[\"a\"\n] {}", 3},
		{"if header :over \"a\" \"b\" {}", 1},
		{"if size :is 5 {}", 1},
		{"if size\n5 {}", 2},
		{"set \"a\" \"\n\n\"\nkeep;", 4},
		{"\x00", 1},
		{"keep;\n\x7f", 2},
		{"KEEP;", 1},
		{"Keep;", 1},
		{"keep;\nkEEP;", 2},
	} {
		checkIllScript(t, c.script, c.line)
	}
	long := strings.Repeat("\n", maxScript-4)
	checkIllScript(t, long+"keep", maxScript-3)
	checkIllScript(t, "keep"+long, maxScript-3)
}

func TestReadFilterSize(t *testing.T) {
	for _, size := range []int{maxScript - 1, maxScript} {
		checkFilter(t, strings.Repeat(" ", size), empty)
		checkFilter(t, "#"+xs(size-1), empty)
		checkFilter(t, "keep;"+strings.Repeat("\n", size-5), block(keep))
	}
	for _, size := range []int{maxScript + 1, maxScript + 2, maxText, maxText + 1, 3 * maxText} {
		checkNoFilter(t, strings.Repeat(" ", size), impl.ErrSize, 0)
		checkNoFilter(t, xs(size), impl.ErrSize, 0)
		checkNoFilter(t, "keep;"+strings.Repeat("\n", size-5), impl.ErrSize, 0)
	}
}

func TestReadFilterNodeCount(t *testing.T) {
	many := slices.Repeat([]tree{keep}, maxFilterNodes-1)
	checkFilter(t, strings.Repeat("keep;", maxFilterNodes-1), block(many...))
	checkNoFilter(t, strings.Repeat("keep;", maxFilterNodes), impl.ErrCount, 0)
	// Three nodes each, and the script's.
	fits := slices.Repeat([]tree{choice(yes, empty)}, 666)
	checkFilter(t, strings.Repeat("if true{}", 666)+"keep;", block(append(fits, keep)...))
	checkNoFilter(t, strings.Repeat("if true{}", 666)+"keep;keep;", impl.ErrCount, 0)
	checkNoFilter(t, strings.Repeat("if true{}", 1111), impl.ErrCount, 0)
	tests := slices.Repeat([]tree{yes}, 1996)
	checkFilter(t, "if anyof("+strings.Repeat("true,", 1995)+"true){}", oneTest(thing(impl.FlAny, tests...)))
	checkNoFilter(t, "if anyof("+strings.Repeat("true,", 1996)+"true){}", impl.ErrCount, 0)
	// What is ill is told first, also far behind what is too much.
	checkIllScript(t, "\n"+strings.Repeat("keep;", maxFilterNodes-10)+strings.Repeat("stop;", 9)+"stop", 2)
	checkIllScript(t, strings.Repeat("if true{}", 1000)+"\n}", 2)
}

// deepTests is a test with so many nodes from it down.
func deepTests(count int) (script string, test tree) {
	script, test = "true", yes
	for at := range count - 1 {
		if at%2 == 0 {
			script, test = "not "+script, thing(impl.FlNot, test)
		} else {
			script, test = "allof("+script+")", thing(impl.FlAll, test)
		}
	}
	return script, test
}

func TestReadFilterDeep(t *testing.T) {
	script, test := deepTests(maxFilterDeep - 2)
	checkFilter(t, "if "+script+"{}", oneTest(test))
	script, _ = deepTests(maxFilterDeep - 1)
	checkNoFilter(t, "if "+script+"{}", impl.ErrCount, 0)
	// The deepest node may be any of them, a shallow one behind it or ahead of it.
	checkNoFilter(t, "keep; if anyof(true,"+script+",true) {} keep;", impl.ErrCount, 0)
	// A block and a command each.
	inner, want := "", block()
	for range (maxFilterDeep - 1) / 2 {
		inner, want = "repeat 1{"+inner+"}", block(tree{node: impl.FilterNode{Kind: impl.FlRepeat, Num: 1}, kids: []tree{want}})
	}
	checkFilter(t, inner, want)
	inner = strings.Replace(inner, "{}", "{keep;}", 1)
	if got := impl.ReadFilter(inner); got.Code != impl.OK || len(got.Nodes) != maxFilterDeep {
		t.Errorf("ReadFilter of %d deep: %s", maxFilterDeep, shown(got))
	}
	checkNoFilter(t, strings.Replace(inner, "keep;", "repeat 1{}", 1), impl.ErrCount, 0)
	checkNoFilter(t, strings.Replace(inner, "keep;", "if true{}", 1), impl.ErrCount, 0)
	// Each elsif is one deeper.
	for _, count := range []int{16, 17, 18, 19, 30} {
		row := "if true{}" + strings.Repeat("elsif true{}", count)
		tree := choice(yes, empty)
		for range count {
			tree = choice(yes, empty, tree)
		}
		if count <= 17 {
			checkFilter(t, row, block(tree))
		} else {
			checkNoFilter(t, row, impl.ErrCount, 0)
		}
	}
	for _, deep := range []string{strings.Repeat("not ", 2490) + "true", strings.Repeat("allof(", 1400) + "true" + strings.Repeat(")", 1400)} {
		checkNoFilter(t, "if "+deep+"{}", impl.ErrCount, 0)
		checkIllScript(t, "if "+deep+"\n", 2)
	}
	checkNoFilter(t, strings.Repeat("repeat 1{", 900)+strings.Repeat("}", 900), impl.ErrCount, 0)
	checkIllScript(t, strings.Repeat("repeat 1{", 900)+strings.Repeat("}", 899)+"\n", 2)
	checkIllScript(t, strings.Repeat("repeat 1{", 900)+strings.Repeat("}", 901)+"\n", 1)
}

func TestReadFilterTextCount(t *testing.T) {
	for _, script := range []string{"if exists X{}", `if header :is X "a"{}`, `if address :is "a" X{}`, `if envelope :is X X{}`, `if string :contains "a" X{}`} {
		for _, count := range []int{99, maxTexts} {
			got := impl.ReadFilter(strings.ReplaceAll(script, "X", `["x"`+strings.Repeat(`,"y"`, count-1)+"]"))
			if got.Code != impl.OK || max(len(got.Nodes[0].Names), len(got.Nodes[0].Keys)) != count {
				t.Errorf("ReadFilter of %s with %d texts: %s", script, count, short(shown(got)))
			}
		}
		for _, count := range []int{maxTexts + 1, 300} {
			many := strings.ReplaceAll(script, "X", `["x"`+strings.Repeat(`,"y"`, count-1)+"]")
			checkNoFilter(t, many, impl.ErrCount, 0)
			checkIllScript(t, many+"\n:", 2)
			checkIllScript(t, "else\n"+many, 1)
		}
	}
	// In one texts, not in both or in all.
	hundred := `["x"` + strings.Repeat(`,"x"`, maxTexts-1) + "]"
	checkFilter(t, strings.Repeat("if header :is "+hundred+" "+hundred+"{}", 2), block(slices.Repeat([]tree{
		choice(comparison(impl.FlHeader, 0, slices.Repeat(some("x"), maxTexts), slices.Repeat(some("x"), maxTexts)), empty)}, 2)...))
}

func TestReadFilterMemory(t *testing.T) {
	script := `if header :is ["abc","def"] ["ghi"] { fileinto "jkl"; set "mno" "pqr"; } if exists "stu" {}`
	nodes := impl.ReadFilter(script).Nodes
	for _, node := range nodes {
		wantOwnMemory(t, "ReadFilter", script, slices.Concat([]string{node.Text}, node.Names, node.Keys)...)
	}
	wantApart(t, nodes)
	// What is written into one answer changes no other.
	for at := range nodes {
		clear(nodes[at].Names)
		clear(nodes[at].Keys)
		clear(nodes[at].Kids)
	}
	again := impl.ReadFilter(script)
	if impl.FilterFault(again.Nodes) != impl.OK {
		t.Error("an answer was kept")
	}
}

// wantApart tells of lists of nodes that share memory, the room behind them too.
func wantApart(t *testing.T, nodes []impl.FilterNode) {
	t.Helper()
	before := allCopied(nodes)
	for at, node := range nodes {
		_ = append(node.Names, "other")
		_ = append(node.Keys, "other")
		_ = append(node.Kids, -7)
		for i := range node.Kids {
			node.Kids[i]++
		}
		for other := range nodes {
			if other != at && !sameNode(nodes[other], before[other]) {
				t.Errorf("nodes %d and %d share memory", at, other)
			}
		}
		copy(node.Kids, before[at].Kids)
	}
}

func checkFault(t *testing.T, nodes []impl.FilterNode, want int64) {
	t.Helper()
	if got := impl.FilterFault(nodes); got != want {
		t.Errorf("FilterFault of %s: %d, want %d", short(shown(nodes)), got, want)
	}
	if want != impl.OK {
		wantText(t, "WriteFilter", shown(nodes), impl.WriteFilter(nodes), "")
		env := impl.FilterEnv{From: "a", To: "b", Message: "A: b\r\n\r\n"}
		if got := impl.RunFilter(nodes, env); !sameAnswers(got, impl.FilterAnswer{Code: impl.ErrForm}) {
			t.Errorf("RunFilter of %s: %s", short(shown(nodes)), shown(got))
		}
	}
}

func sameAnswers(a, b impl.FilterAnswer) bool {
	return a.Code == b.Code && a.Steps == b.Steps && a.Keep == b.Keep && slices.Equal(a.Actions, b.Actions) && slices.Equal(a.Flags, b.Flags)
}

// kinds are all kinds of nodes with a tree in which the first node, or the one of a number, is of that kind.
type kindCase struct {
	script tree
	at     int
	// The fields that it has beside its Kids.
	has string
}

func kindCases() map[int64]kindCase {
	cases := map[int64]kindCase{
		impl.FlBlock:  {script: block(repeated(1)), at: 0},
		impl.FlIf:     {script: oneTest(yes), at: 2},
		impl.FlRepeat: {script: block(repeated(1)), at: 1, has: "Num"},
		impl.FlNot:    {script: oneTest(thing(impl.FlNot, yes)), at: 1},
		impl.FlAll:    {script: oneTest(thing(impl.FlAll, yes)), at: 1},
		impl.FlAny:    {script: oneTest(thing(impl.FlAny, yes)), at: 1},
		impl.FlSet:    {script: block(setting("a", "b")), has: "Names Text"},
		impl.FlExists: {script: oneTest(exists("a")), has: "Names"},
		impl.FlOver:   {script: oneTest(over(5)), has: "Num"},
		impl.FlUnder:  {script: oneTest(under(5)), has: "Num"},
	}
	for _, kind := range []int64{impl.FlKeep, impl.FlDiscard, impl.FlStop} {
		cases[kind] = kindCase{script: block(thing(kind))}
	}
	for _, kind := range []int64{impl.FlFile, impl.FlRedirect, impl.FlReject, impl.FlFlag} {
		cases[kind] = kindCase{script: block(saying(kind, "a")), has: "Text"}
	}
	for _, kind := range []int64{impl.FlTrue, impl.FlFalse} {
		cases[kind] = kindCase{script: oneTest(thing(kind))}
	}
	for _, kind := range []int64{impl.FlHeader, impl.FlAddress, impl.FlEnvelope, impl.FlString} {
		cases[kind] = kindCase{script: oneTest(comparison(kind, 1, some("a"), some("b"))), has: "Match Names Keys"}
	}
	return cases
}

func TestFilterFaultFields(t *testing.T) {
	cases := kindCases()
	if len(cases) != 23 {
		t.Fatalf("%d kinds", len(cases))
	}
	for kind, c := range cases {
		nodes := nodesOf(c.script)
		if nodes[c.at].Kind != kind {
			t.Fatalf("kind %d is not at %d", kind, c.at)
		}
		checkFault(t, nodes, impl.OK)
		with := func(change func(node *impl.FilterNode), want int64) {
			t.Helper()
			changed := allCopied(nodes)
			change(&changed[c.at])
			checkFault(t, changed, want)
		}
		if !strings.Contains(c.has, "Num") {
			for _, number := range []int64{1, -1, 1 << 32, math.MinInt64, math.MaxInt64} {
				with(func(node *impl.FilterNode) { node.Num = number }, impl.ErrForm)
			}
		}
		if !strings.Contains(c.has, "Match") {
			for _, number := range []int64{1, 2, -1, 1 << 32, math.MinInt64} {
				with(func(node *impl.FilterNode) { node.Match = number }, impl.ErrForm)
			}
		}
		if !strings.Contains(c.has, "Text") {
			with(func(node *impl.FilterNode) { node.Text = "a" }, impl.ErrForm)
			with(func(node *impl.FilterNode) { node.Text = xs(maxText + 1) }, impl.ErrForm)
		}
		if !strings.Contains(c.has, "Names") {
			with(func(node *impl.FilterNode) { node.Names = some("a") }, impl.ErrForm)
			with(func(node *impl.FilterNode) { node.Names = some("") }, impl.ErrForm)
		} else {
			with(func(node *impl.FilterNode) { node.Names = nil }, impl.ErrForm)
			with(func(node *impl.FilterNode) { node.Names = []string{} }, impl.ErrForm)
		}
		if !strings.Contains(c.has, "Keys") {
			with(func(node *impl.FilterNode) { node.Keys = some("a") }, impl.ErrForm)
			with(func(node *impl.FilterNode) { node.Keys = some("") }, impl.ErrForm)
		} else {
			with(func(node *impl.FilterNode) { node.Keys = nil }, impl.ErrForm)
			with(func(node *impl.FilterNode) { node.Keys = []string{} }, impl.ErrForm)
		}
		// A list that is empty and nil are the same.
		with(func(node *impl.FilterNode) {
			if node.Names == nil {
				node.Names = []string{}
			}
			if node.Keys == nil {
				node.Keys = []string{}
			}
			if node.Kids == nil {
				node.Kids = []int64{}
			}
		}, impl.OK)
		for _, wrong := range []int64{0, -1, 12, 13, 19, 32, 100, -kind, kind + 1<<32, math.MinInt64, math.MaxInt64} {
			with(func(node *impl.FilterNode) { node.Kind = wrong }, impl.ErrForm)
		}
	}
}

func TestFilterFaultBounds(t *testing.T) {
	for _, c := range []struct {
		num  int64
		want int64
	}{{0, impl.OK}, {1, impl.OK}, {100, impl.OK}, {101, impl.ErrForm}, {-1, impl.ErrForm}, {maxSize, impl.ErrForm}, {1 << 32, impl.ErrForm}, {math.MinInt64, impl.ErrForm}, {math.MaxInt64, impl.ErrForm}} {
		checkFault(t, nodesOf(block(repeated(c.num))), c.want)
	}
	for _, c := range []struct {
		num  int64
		want int64
	}{{0, impl.OK}, {101, impl.OK}, {maxSize, impl.OK}, {maxSize + 1, impl.ErrForm}, {-1, impl.ErrForm}, {1 << 32, impl.ErrForm}, {math.MinInt64, impl.ErrForm}, {math.MaxInt64, impl.ErrForm}} {
		checkFault(t, nodesOf(oneTest(over(c.num))), c.want)
		checkFault(t, nodesOf(oneTest(under(c.num))), c.want)
	}
	for _, kind := range []int64{impl.FlHeader, impl.FlAddress, impl.FlEnvelope, impl.FlString} {
		for match, want := range map[int64]int64{0: impl.OK, 1: impl.OK, 2: impl.OK, 3: impl.ErrForm, -1: impl.ErrForm, 1 << 32: impl.ErrForm, math.MinInt64: impl.ErrForm, math.MaxInt64: impl.ErrForm} {
			checkFault(t, nodesOf(oneTest(comparison(kind, match, some("a"), some("b")))), want)
		}
		for size, want := range map[int]int64{0: impl.OK, maxVarBytes: impl.OK, maxVarBytes + 1: impl.ErrForm, maxText + 1: impl.ErrForm} {
			checkFault(t, nodesOf(oneTest(comparison(kind, 0, some("a", xs(size)), some("b")))), want)
			checkFault(t, nodesOf(oneTest(comparison(kind, 0, some("a"), some(xs(size), "b")))), want)
		}
		for count, want := range map[int]int64{0: impl.ErrForm, 1: impl.OK, 2: impl.OK, maxTexts: impl.OK, maxTexts + 1: impl.ErrForm, 5000: impl.ErrForm} {
			checkFault(t, nodesOf(oneTest(comparison(kind, 0, slices.Repeat(some("a"), count), some("b")))), want)
			checkFault(t, nodesOf(oneTest(comparison(kind, 0, some("a"), slices.Repeat(some("b"), count)))), want)
		}
	}
	for size, want := range map[int]int64{0: impl.OK, maxVarBytes: impl.OK, maxVarBytes + 1: impl.ErrForm, maxText + 1: impl.ErrForm} {
		for _, kind := range []int64{impl.FlFile, impl.FlRedirect, impl.FlReject, impl.FlFlag} {
			checkFault(t, nodesOf(block(saying(kind, xs(size)))), want)
		}
		checkFault(t, nodesOf(block(setting("a", xs(size)))), want)
		checkFault(t, nodesOf(oneTest(exists("a", xs(size)))), want)
	}
	for count, want := range map[int]int64{0: impl.ErrForm, 1: impl.OK, 2: impl.OK, maxTexts: impl.OK, maxTexts + 1: impl.ErrForm} {
		checkFault(t, nodesOf(oneTest(exists(slices.Repeat(some("a"), count)...))), want)
	}
	for name, want := range map[string]int64{"a": impl.OK, "z": impl.OK, xs(20): impl.OK, xs(21): impl.ErrForm, "": impl.ErrForm, "A": impl.ErrForm, "a1": impl.ErrForm, "a ": impl.ErrForm, "`": impl.ErrForm, "{": impl.ErrForm, "\xe1": impl.ErrForm, xs(maxText + 1): impl.ErrForm} {
		checkFault(t, nodesOf(block(setting(name, "b"))), want)
	}
	two := nodesOf(block(setting("a", "b")))
	two[0].Names = some("a", "b")
	checkFault(t, two, impl.ErrForm)
}

func TestFilterFaultKids(t *testing.T) {
	checkFault(t, nil, impl.ErrForm)
	checkFault(t, []impl.FilterNode{}, impl.ErrForm)
	checkFault(t, []impl.FilterNode{{}}, impl.ErrForm)
	for kind := range int64(40) {
		// A last node that is no block.
		want := int64(impl.ErrForm)
		if kind == impl.FlBlock {
			want = impl.OK
		}
		checkFault(t, []impl.FilterNode{{Kind: kind}}, want)
	}
	for _, c := range kindCases() {
		nodes := nodesOf(c.script)
		checkFault(t, nodes[:len(nodes)-1], impl.ErrForm)
		// Nodes that are nobody's kids.
		checkFault(t, append(allCopied(nodes), impl.FilterNode{Kind: impl.FlBlock}), impl.ErrForm)
		checkFault(t, append(allCopied(nodes), impl.FilterNode{Kind: impl.FlKeep}), impl.ErrForm)
		without := allCopied(nodes)
		without[len(nodes)-1].Kids = nil
		checkFault(t, without, impl.ErrForm)
	}
	commands := []tree{keep, drop, stop, saying(impl.FlFile, "a"), saying(impl.FlRedirect, ""), saying(impl.FlReject, ""), saying(impl.FlFlag, ""), setting("a", "b"), repeated(2, keep), choice(yes, empty)}
	tests := []tree{yes, no, thing(impl.FlNot, yes), thing(impl.FlAll, yes), thing(impl.FlAny, no, yes), exists("a"), over(1), under(2)}
	for _, kind := range []int64{impl.FlHeader, impl.FlAddress, impl.FlEnvelope, impl.FlString} {
		tests = append(tests, comparison(kind, 0, some("a"), some("b")))
	}
	for _, command := range commands {
		checkFault(t, nodesOf(block(command)), impl.OK)
		checkFault(t, nodesOf(block(keep, command, keep)), impl.OK)
		checkFault(t, nodesOf(block(repeated(1, command))), impl.OK)
		checkFault(t, nodesOf(block(choice(yes, block(command), block(command)))), impl.OK)
		// In the place of a test, of a block and of what comes else.
		checkFault(t, nodesOf(oneTest(command)), impl.ErrForm)
		checkFault(t, nodesOf(block(choice(yes, command))), impl.ErrForm)
		if command.node.Kind != impl.FlIf {
			checkFault(t, nodesOf(block(choice(yes, empty, command))), impl.ErrForm)
		}
		checkFault(t, nodesOf(block(tree{node: impl.FilterNode{Kind: impl.FlRepeat}, kids: []tree{command}})), impl.ErrForm)
		for _, kind := range []int64{impl.FlNot, impl.FlAll, impl.FlAny} {
			checkFault(t, nodesOf(oneTest(thing(kind, command))), impl.ErrForm)
		}
		checkFault(t, nodesOf(command), impl.ErrForm)
	}
	for _, test := range tests {
		checkFault(t, nodesOf(oneTest(test)), impl.OK)
		for _, kind := range []int64{impl.FlNot, impl.FlAll, impl.FlAny} {
			checkFault(t, nodesOf(oneTest(thing(kind, test))), impl.OK)
		}
		for _, kind := range []int64{impl.FlAll, impl.FlAny} {
			checkFault(t, nodesOf(oneTest(thing(kind, test, yes, test))), impl.OK)
			checkFault(t, nodesOf(oneTest(thing(kind, test, keep, test))), impl.ErrForm)
		}
		checkFault(t, nodesOf(oneTest(thing(impl.FlNot, test, test))), impl.ErrForm)
		checkFault(t, nodesOf(block(test)), impl.ErrForm)
		checkFault(t, nodesOf(block(keep, test)), impl.ErrForm)
		checkFault(t, nodesOf(block(choice(yes, test))), impl.ErrForm)
		checkFault(t, nodesOf(block(choice(yes, empty, test))), impl.ErrForm)
		checkFault(t, nodesOf(block(choice(test, empty, empty))), impl.OK)
		checkFault(t, nodesOf(block(tree{node: impl.FilterNode{Kind: impl.FlRepeat}, kids: []tree{test}})), impl.ErrForm)
	}
	for _, kid := range append(slices.Concat(commands, tests), empty) {
		// Those that have none.
		for kind, c := range kindCases() {
			if len(nodesOf(c.script)[c.at].Kids) == 0 && kind != impl.FlBlock {
				isTest := kind >= impl.FlTrue
				node := tree{node: nodesOf(c.script)[c.at], kids: []tree{kid}}
				if isTest {
					checkFault(t, nodesOf(oneTest(node)), impl.ErrForm)
				} else {
					checkFault(t, nodesOf(block(node)), impl.ErrForm)
				}
			}
		}
	}
	for _, wrong := range []tree{
		block(empty), block(keep, empty), block(choice(empty, empty)), block(choice(yes)), block(choice()), block(choice(yes, yes)),
		block(choice(yes, empty, empty, empty)), block(choice(yes, empty, choice(yes, empty), empty)), block(choice(empty, yes)), block(choice(yes, empty, yes)),
		block(choice(yes, choice(yes, empty))), block(thing(impl.FlRepeat)), block(thing(impl.FlRepeat, empty, empty)), block(thing(impl.FlRepeat, keep)),
		oneTest(thing(impl.FlNot)), oneTest(thing(impl.FlAll)), oneTest(thing(impl.FlAny)), oneTest(thing(impl.FlNot, empty)), oneTest(thing(impl.FlAll, empty)), oneTest(thing(impl.FlAny, yes, empty)),
	} {
		checkFault(t, nodesOf(wrong), impl.ErrForm)
	}
	checkFault(t, nodesOf(block(choice(yes, empty, choice(no, empty, choice(no, empty, empty))))), impl.OK)
}

func TestFilterFaultNumbers(t *testing.T) {
	right := nodesOf(block(keep, choice(yes, block(stop), block(drop)), drop))
	checkFault(t, right, impl.OK)
	for at := range right {
		for kid := range right[at].Kids {
			for _, number := range []int64{-1, math.MinInt64, math.MaxInt64, 1 << 32, right[at].Kids[kid] + 1<<32, 0, 1, 2, 3, 4, 5, 6, 7, 8, 9, 10} {
				if number != right[at].Kids[kid] {
					// It stands twice, behind its node, is its node, is another one's kid or is not there.
					wrong := allCopied(right)
					wrong[at].Kids[kid] = number
					checkFault(t, wrong, impl.ErrForm)
				}
			}
			wrong := allCopied(right)
			wrong[at].Kids = slices.Delete(wrong[at].Kids, kid, kid+1)
			checkFault(t, wrong, impl.ErrForm)
			wrong = allCopied(right)
			wrong[at].Kids = slices.Insert(wrong[at].Kids, kid, wrong[at].Kids[kid])
			checkFault(t, wrong, impl.ErrForm)
			for other := range kid {
				wrong = allCopied(right)
				wrong[at].Kids[kid], wrong[at].Kids[other] = wrong[at].Kids[other], wrong[at].Kids[kid]
				checkFault(t, wrong, impl.ErrForm)
			}
		}
	}
	// Two kids in the other order, in the list and in their node, are no list of the text.
	checkFault(t, []impl.FilterNode{{Kind: impl.FlKeep}, {Kind: impl.FlStop}, {Kind: impl.FlBlock, Kids: []int64{0, 1}}}, impl.OK)
	checkFault(t, []impl.FilterNode{{Kind: impl.FlKeep}, {Kind: impl.FlStop}, {Kind: impl.FlBlock, Kids: []int64{1, 0}}}, impl.ErrForm)
	checkFault(t, []impl.FilterNode{{Kind: impl.FlBlock}, {Kind: impl.FlTrue}, {Kind: impl.FlIf, Kids: []int64{1, 0}}, {Kind: impl.FlBlock, Kids: []int64{2}}}, impl.ErrForm)
	// A kid that ends ahead of its node's other kids, but was put among theirs.
	checkFault(t, []impl.FilterNode{{Kind: impl.FlTrue}, {Kind: impl.FlBlock}, {Kind: impl.FlKeep}, {Kind: impl.FlIf, Kids: []int64{0, 1}}, {Kind: impl.FlBlock, Kids: []int64{2, 3}}}, impl.ErrForm)
	checkFault(t, []impl.FilterNode{{Kind: impl.FlBlock, Kids: []int64{0}}}, impl.ErrForm)
	checkFault(t, []impl.FilterNode{{Kind: impl.FlBlock, Kids: slices.Repeat([]int64{0}, 100000)}}, impl.ErrForm)
	checkFault(t, []impl.FilterNode{{Kind: impl.FlKeep}, {Kind: impl.FlBlock}}, impl.ErrForm)
	checkFault(t, []impl.FilterNode{{Kind: impl.FlKeep}, {Kind: impl.FlBlock, Kids: []int64{0}}, {Kind: impl.FlBlock, Kids: []int64{0}}}, impl.ErrForm)
}

func TestFilterFaultGreat(t *testing.T) {
	checkFault(t, nodesOf(block(slices.Repeat([]tree{keep}, maxFilterNodes-1)...)), impl.OK)
	checkFault(t, nodesOf(block(slices.Repeat([]tree{keep}, maxFilterNodes)...)), impl.ErrForm)
	checkFault(t, nodesOf(block(slices.Repeat([]tree{keep}, 50*maxFilterNodes)...)), impl.ErrForm)
	for count := 10; count < 25; count++ {
		_, test := deepTests(count)
		want := int64(impl.OK)
		if count+2 > maxFilterDeep {
			want = impl.ErrForm
		}
		checkFault(t, nodesOf(oneTest(test)), want)
		checkFault(t, nodesOf(block(keep, choice(thing(impl.FlAny, yes, thing(impl.FlFalse)), empty), choice(test, empty), keep)), want)
	}
	_, test := deepTests(1900)
	checkFault(t, nodesOf(oneTest(test)), impl.ErrForm)
	// Of whatever length its script is.
	texts := slices.Repeat(some(xs(maxVarBytes)), maxTexts)
	long := nodesOf(block(slices.Repeat([]tree{choice(comparison(impl.FlString, 2, texts, texts), empty)}, 600)...))
	if got := impl.FilterFault(long); got != impl.OK {
		t.Errorf("FilterFault of long texts: %d", got)
	}
	wantText(t, "WriteFilter", "long texts", impl.WriteFilter(long), "")
}

// slowTokens are the tokens of a node and of those below it, and an ill one where there is no such kid.
func slowTokens(nodes []impl.FilterNode, at int64) []string {
	node := nodes[at]
	kids := func(numbers []int64) (tokens []string) {
		for _, kid := range numbers {
			if kid < 0 || kid >= at {
				return []string{"\x00"}
			}
			tokens = append(tokens, slowTokens(nodes, kid)...)
		}
		return tokens
	}
	all := kids(node.Kids)
	number := strconv.FormatInt(node.Num, 10)
	match := ":none"
	if node.Match >= 0 && node.Match <= 2 {
		match = []string{":is", ":contains", ":matches"}[node.Match]
	}
	words := []string{0: "", 1: "", 2: "if", 3: "repeat", 4: "keep", 5: "discard", 6: "stop", 7: "fileinto", 8: "redirect", 9: "reject", 10: "addflag", 11: "set",
		20: "true", 21: "false", 22: "not", 23: "allof", 24: "anyof", 25: "header", 26: "address", 27: "envelope", 28: "exists", 29: "size", 30: "size", 31: "string"}
	word := "unknown"
	if node.Kind > 0 && node.Kind < int64(len(words)) {
		word = words[node.Kind]
	}
	switch node.Kind {
	case impl.FlBlock:
		return slices.Concat([]string{"{"}, all, []string{"}"})
	case impl.FlIf:
		if len(node.Kids) != 3 {
			return append([]string{word}, all...)
		}
		tokens := append([]string{word}, kids(node.Kids[:2])...)
		other := kids(node.Kids[2:])
		if len(other) > 0 && other[0] == "if" {
			return append(append(tokens, "elsif"), other[1:]...)
		}
		return append(append(tokens, "else"), other...)
	case impl.FlRepeat:
		return slices.Concat([]string{word, number}, all)
	case impl.FlFile, impl.FlRedirect, impl.FlReject, impl.FlFlag:
		return []string{word, slowQuoted(node.Text), ";"}
	case impl.FlSet:
		return []string{word, strings.Join(slowTexts(node.Names), " "), slowQuoted(node.Text), ";"}
	case impl.FlKeep, impl.FlDiscard, impl.FlStop:
		return []string{word, ";"}
	case impl.FlNot:
		return append([]string{word}, all...)
	case impl.FlAll, impl.FlAny:
		tokens := []string{word, "("}
		for at := range node.Kids {
			if at > 0 {
				tokens = append(tokens, ",")
			}
			tokens = append(tokens, kids(node.Kids[at:at+1])...)
		}
		return append(tokens, ")")
	case impl.FlHeader, impl.FlAddress, impl.FlEnvelope, impl.FlString:
		return slices.Concat([]string{word, match}, slowTexts(node.Names), slowTexts(node.Keys))
	case impl.FlExists:
		return append([]string{word}, slowTexts(node.Names)...)
	case impl.FlOver:
		return []string{word, ":over", number}
	case impl.FlUnder:
		return []string{word, ":under", number}
	}
	return []string{word}
}

// These are made once, since that takes longer than what they do.
var (
	escapes = strings.NewReplacer(`"`, `\"`, `\`, `\\`)
	unfolds = strings.NewReplacer("\r\n ", " ", "\r\n\t", "\t")
)

func slowQuoted(text string) string { return `"` + escapes.Replace(text) + `"` }

func slowTexts(texts []string) []string {
	if len(texts) == 1 {
		return []string{slowQuoted(texts[0])}
	}
	tokens := []string{"["}
	for at, text := range texts {
		if at > 0 {
			tokens = append(tokens, ",")
		}
		tokens = append(tokens, slowQuoted(text))
	}
	return append(tokens, "]")
}

// slowScript is what WriteFilter writes of a right filter.
func slowScript(nodes []impl.FilterNode) string {
	tokens := slowTokens(nodes, int64(len(nodes)-1))
	if tokens[0] != "{" {
		return "\x00"
	}
	return strings.Join(tokens[1:len(tokens)-1], " ")
}

var filterTexts = []string{"a", "b", "", "x", "ab", "A", `"`, `\`, "${a}", "${b}", "${0}", "${1}", "${2}", "${9}", "${", "}", "${10}", "${A}", "${}", "$", "*", "?", "subject", "to", "To", "from", "a@b", "\r\n", "\xff", " ", "*b*", "${long}", "keep", "ann@a", "?*", "#"}

func (d *dice) filterText() string { return d.text(d.below(4), filterTexts) }

func (d *dice) filterTexts() []string {
	var texts []string
	for range 1 + d.below(3) {
		texts = append(texts, d.filterText())
	}
	return texts
}

func (d *dice) filterBlock(deep int) tree {
	out := block()
	for range d.below(4) {
		out.kids = append(out.kids, d.filterCommand(deep))
	}
	return out
}

func (d *dice) filterCommand(deep int) tree {
	kind := int64(4 + d.below(8))
	if deep > 0 && d.below(2) == 0 {
		kind = int64(2 + d.below(2))
	}
	switch kind {
	case impl.FlIf:
		return d.filterChoice(deep)
	case impl.FlRepeat:
		return tree{node: impl.FilterNode{Kind: kind, Num: int64(d.below(4))}, kids: []tree{d.filterBlock(deep - 1)}}
	case impl.FlSet:
		return setting(d.pick("a", "b", "long", "to"), d.filterText())
	case impl.FlStop:
		if d.below(4) > 0 {
			return keep
		}
		return stop
	case impl.FlKeep, impl.FlDiscard:
		return thing(kind)
	}
	return saying(kind, d.filterText())
}

func (d *dice) filterChoice(deep int) tree {
	out := choice(d.filterTest(deep-1), d.filterBlock(deep-1))
	switch {
	case d.below(3) == 0 && deep > 2:
		out.kids = append(out.kids, d.filterChoice(deep-1))
	case d.below(2) == 0:
		out.kids = append(out.kids, d.filterBlock(deep-1))
	}
	return out
}

func (d *dice) filterTest(deep int) tree {
	kind := int64(25 + d.below(7))
	if d.below(3) == 0 {
		kind = int64(20 + d.below(5))
	}
	if deep <= 0 && impl.FlNot <= kind && kind <= impl.FlAny {
		kind = impl.FlString
	}
	switch kind {
	case impl.FlTrue, impl.FlFalse:
		return thing(kind)
	case impl.FlNot:
		return thing(kind, d.filterTest(deep-1))
	case impl.FlAll, impl.FlAny:
		out := thing(kind, d.filterTest(deep-1))
		for range d.below(3) {
			out.kids = append(out.kids, d.filterTest(deep-1))
		}
		return out
	case impl.FlExists:
		return exists(d.fieldNames()...)
	case impl.FlOver, impl.FlUnder:
		return tree{node: impl.FilterNode{Kind: kind, Num: int64(d.below(100))}}
	case impl.FlString:
		return comparison(kind, int64(d.below(3)), d.filterTexts(), d.filterTexts())
	}
	return comparison(kind, int64(d.below(3)), d.fieldNames(), d.filterTexts())
}

func (d *dice) fieldNames() []string {
	var names []string
	for range 1 + d.below(3) {
		names = append(names, d.pick("subject", "Subject", "to", "from", "TO", "cc", "x", "${to}", "sub${a}ject", ""))
	}
	return names
}

func (d *dice) filterEnv() impl.FilterEnv {
	var message strings.Builder
	for range d.below(5) {
		message.WriteString(d.pick("Subject", "subject", "To", "From", "Cc", "X"))
		message.WriteString(":")
		message.WriteString(d.pick(" ann@a", " Ann <ann@A>, team: bob@b;", " ab", "", " a b ", "\r\n x\r\n\ty ", " A", " <", " \xff"))
		message.WriteString("\r\n")
	}
	message.WriteString(d.pick("\r\nbody", "", "\r\n", " ill", "ill"))
	return impl.FilterEnv{From: d.pick("", "a@b", "ann@a", "B"), To: d.pick("", "a", "a@b", "AB"), Message: message.String()}
}

// The first of promise 12.
func TestFiltersThatAreWritten(t *testing.T) {
	d := dice{state: 1105}
	for range 6000 {
		nodes := nodesOf(d.filterBlock(1 + d.below(9)))
		before := allCopied(nodes)
		checkFault(t, nodes, impl.OK)
		script := impl.WriteFilter(nodes)
		wantText(t, "WriteFilter", "nodes", script, slowScript(nodes))
		got := impl.ReadFilter(script)
		if got.Code != impl.OK || got.Line != 0 || !sameNodes(got.Nodes, nodes) {
			t.Errorf("ReadFilter of WriteFilter of %s: %s", short(shown(nodes)), short(shown(got)))
		}
		if !sameNodes(nodes, before) {
			t.Errorf("%s was changed", short(shown(before)))
		}
	}
}

func TestFiltersOfEachByteAreWritten(t *testing.T) {
	for b := range 256 {
		sign := string([]byte{byte(b)})
		for _, text := range []string{sign, sign + sign, "a" + sign, sign + `"`, `\` + sign, sign + `\`} {
			nodes := nodesOf(block(saying(impl.FlFile, text), setting("a", text), choice(comparison(impl.FlString, 1, some(text), some(text, "", text)), empty)))
			if got := impl.ReadFilter(impl.WriteFilter(nodes)); !sameNodes(got.Nodes, nodes) {
				t.Errorf("ReadFilter of WriteFilter of %s: %s", shown(nodes), shown(got))
			}
		}
	}
}

func (d *dice) wrongNumber() int64 {
	numbers := []int64{-1, 0, 1, 2, 3, 11, 12, 19, 20, 31, 32, 100, 101, maxSize, maxSize + 1, math.MaxInt64, math.MinInt64}
	return numbers[d.below(len(numbers))]
}

// turned is nodes with something else in some place.
func (d *dice) turned(nodes []impl.FilterNode) []impl.FilterNode {
	nodes = allCopied(nodes)
	at, other := d.below(len(nodes)), d.below(len(nodes))
	node := &nodes[at]
	kid := d.below(max(1, len(node.Kids)))
	switch d.below(14) {
	case 0:
		node.Kind = int64(d.below(34))
	case 1:
		node.Num = d.wrongNumber()
	case 2:
		node.Match = d.wrongNumber()
	case 3:
		node.Text = d.filterText()
	case 4:
		node.Names = append(node.Names, d.pick("a", "", "x"))
	case 5:
		node.Keys = append(node.Keys, "")
	case 6:
		node.Names = node.Names[:len(node.Names)/2]
	case 7:
		node.Keys = node.Keys[:len(node.Keys)/2]
	case 8:
		node.Kids = append(node.Kids, int64(other))
	case 9:
		node.Kids = node.Kids[:len(node.Kids)/2]
	case 10:
		if len(node.Kids) > 0 {
			node.Kids[kid] = int64(d.below(len(nodes)+2)) - 1
		}
	case 11:
		nodes[at], nodes[other] = nodes[other], nodes[at]
	case 12:
		nodes = slices.Delete(nodes, at, at+1)
	case 13:
		nodes = slices.Insert(nodes, at, impl.FilterNode{Kind: int64(d.below(34))})
	}
	return nodes
}

func TestFilterFaultOfTurnedNodes(t *testing.T) {
	d := dice{state: 1106}
	right, wrong := 0, 0
	for range 20000 {
		nodes := nodesOf(d.filterBlock(d.below(4)))
		if len(nodes) > 25 {
			continue
		}
		for range 1 + d.below(2) {
			if len(nodes) > 0 {
				nodes = d.turned(nodes)
			}
		}
		// Right are those that are read of the script that would be theirs.
		isRight := len(nodes) > 0 && sameNodes(impl.ReadFilter(slowScript(nodes)).Nodes, nodes)
		if isRight {
			right++
			checkFault(t, nodes, impl.OK)
		} else {
			wrong++
			checkFault(t, nodes, impl.ErrForm)
		}
	}
	if right < 1000 || wrong < 5000 {
		t.Errorf("%d right, %d wrong", right, wrong)
	}
}

func checkWrittenFilter(t *testing.T, filter tree, want string) {
	t.Helper()
	nodes := nodesOf(filter)
	wantText(t, "WriteFilter", shown(nodes), impl.WriteFilter(nodes), want)
}

func TestWriteFilter(t *testing.T) {
	for want, filter := range map[string]tree{
		"":                        empty,
		"keep ;":                  block(keep),
		"discard ; stop ; keep ;": block(drop, stop, keep),
		`fileinto "a" ; redirect "b" ; reject "" ; addflag "d e" ;`: block(saying(impl.FlFile, "a"), saying(impl.FlRedirect, "b"), saying(impl.FlReject, ""), saying(impl.FlFlag, "d e")),
		`set "a" "b" ;`:                             block(setting("a", "b")),
		`fileinto "\"" ;`:                           block(saying(impl.FlFile, `"`)),
		`fileinto "\\" ;`:                           block(saying(impl.FlFile, `\`)),
		`fileinto "a\"\\\\\"b" ;`:                   block(saying(impl.FlFile, `a"\\"b`)),
		"reject \"a\r\n\x00\xff\t\" ;":              block(saying(impl.FlReject, "a\r\n\x00\xff\t")),
		"repeat 0 { }":                              block(repeated(0)),
		"repeat 100 { keep ; repeat 7 { } stop ; }": block(repeated(100, keep, repeated(7), stop)),
		"if true { }":                               oneTest(yes),
		"if false { keep ; } else { stop ; }":       block(choice(no, block(keep), block(stop))),
		"if true { } elsif false { keep ; } elsif true { } else { stop ; } keep ;": block(choice(yes, empty, choice(no, block(keep), choice(yes, empty, block(stop)))), keep),
		"if true { } elsif false { }":                                block(choice(yes, empty, choice(no, empty))),
		"if true { } else { if false { } }":                          block(choice(yes, empty, block(choice(no, empty)))),
		"if not not true { }":                                        oneTest(thing(impl.FlNot, thing(impl.FlNot, yes))),
		"if allof ( true ) { }":                                      oneTest(thing(impl.FlAll, yes)),
		"if anyof ( true , allof ( false , true ) , not false ) { }": oneTest(thing(impl.FlAny, yes, thing(impl.FlAll, no, yes), thing(impl.FlNot, no))),
		`if header :is "a" "b" { }`:                                  oneTest(comparison(impl.FlHeader, 0, some("a"), some("b"))),
		`if address :contains [ "a" , "" ] "b" { }`:                  oneTest(comparison(impl.FlAddress, 1, some("a", ""), some("b"))),
		`if envelope :matches "a" [ "b" , "c" , "d" ] { }`:           oneTest(comparison(impl.FlEnvelope, 2, some("a"), some("b", "c", "d"))),
		`if string :is [ "\"" , "\\" ] [ "," , "]" ] { }`:            oneTest(comparison(impl.FlString, 0, some(`"`, `\`), some(",", "]"))),
		`if exists "a" { }`:                                          oneTest(exists("a")),
		`if exists [ "a" , "b" ] { }`:                                oneTest(exists("a", "b")),
		"if size :over 0 { }":                                        oneTest(over(0)),
		"if size :under 999999999 { }":                               oneTest(under(maxSize)),
		"if allof ( size :over 7 , exists \"a\" ) { keep ; } else { repeat 1 { keep ; } }": block(choice(thing(impl.FlAll, over(7), exists("a")), block(keep), block(repeated(1, keep)))),
	} {
		checkWrittenFilter(t, filter, want)
		checkFilter(t, want, filter)
	}
}

func TestWriteFilterSize(t *testing.T) {
	// Nine texts of nearly the most bytes, and one that fills what is left.
	filter := func(last int) tree {
		kids := slices.Repeat([]tree{saying(impl.FlFile, xs(maxVarBytes-15))}, 9)
		return block(append(kids, saying(impl.FlFile, xs(last)))...)
	}
	used := len(impl.WriteFilter(nodesOf(filter(0))))
	left := maxScript - used
	if used == 0 || left > maxVarBytes {
		t.Fatalf("%d bytes are used", used)
	}
	for _, size := range []int{left - 1, left} {
		nodes := nodesOf(filter(size))
		script := impl.WriteFilter(nodes)
		if len(script) != maxScript-left+size || !sameNodes(impl.ReadFilter(script).Nodes, nodes) {
			t.Errorf("WriteFilter of %d bytes: %d", maxScript-left+size, len(script))
		}
	}
	checkWrittenFilter(t, filter(left+1), "")
	checkWrittenFilter(t, filter(left+2), "")
	// Bytes 92 count, and so does each space.
	checkWrittenFilter(t, filter(left-1), slowScript(nodesOf(filter(left-1))))
	quoted := filter(left - 1)
	quoted.kids[9].node.Text = `"` + xs(left-2)
	if got := len(impl.WriteFilter(nodesOf(quoted))); got != maxScript {
		t.Errorf("WriteFilter of a quote: %d bytes", got)
	}
	quoted.kids[9].node.Text = `"\` + xs(left-3)
	checkWrittenFilter(t, quoted, "")
	keeps := slices.Repeat([]tree{keep}, 1428)
	if got := impl.WriteFilter(nodesOf(block(keeps...))); got != strings.TrimSuffix(strings.Repeat("keep ; ", 1428), " ") {
		t.Errorf("WriteFilter of many: %d bytes", len(got))
	}
	// One sign more, at the end: ten times a thousand bytes and their signs.
	checkWrittenFilter(t, block(append(keeps, keep)...), "")
	exact := block(append(keeps, stop, stop)...)
	exact.kids = exact.kids[2:]
	if got := len(impl.WriteFilter(nodesOf(exact))); got != 9995 {
		t.Errorf("WriteFilter of many: %d bytes", got)
	}
}

func runScript(t *testing.T, script string, env impl.FilterEnv) impl.FilterAnswer {
	t.Helper()
	read := impl.ReadFilter(script)
	if read.Code != impl.OK {
		t.Fatalf("%s: %s", short(script), short(shown(read)))
	}
	checkSameAsCode(t, read.Nodes, env)
	return impl.RunFilter(read.Nodes, env)
}

func checkRun(t *testing.T, script string, env impl.FilterEnv, want impl.FilterAnswer) {
	t.Helper()
	if got := runScript(t, script, env); !sameAnswers(got, want) {
		t.Errorf("RunFilter of %s: %s, want %s", short(script), short(shown(got)), short(shown(want)))
	}
}

var plainEnv = impl.FilterEnv{From: "Bob@b", To: "ann@a", Message: "Subject: Buy now\r\nTo: Ann <ann@A>\r\n\r\nx"}

// checkSays looks at whether a test holds, and at how many steps it takes.
func checkSays(t *testing.T, test string, env impl.FilterEnv, want bool, steps int64) {
	t.Helper()
	got := runScript(t, "if "+test+" { discard; }", env)
	if want {
		steps++
	}
	if got.Code != impl.OK || got.Keep == want || got.Steps != steps+1 || len(got.Actions) != 0 || len(got.Flags) != 0 {
		t.Errorf("%s: %s, want %v", short(test), shown(got), want)
	}
}

// checkSaid looks at what a text is filled in with, behind some commands.
func checkSaid(t *testing.T, commands, text, want string, env impl.FilterEnv) {
	t.Helper()
	got := runScript(t, commands+" reject "+slowQuoted(text)+";", env)
	if got.Code != impl.OK || len(got.Actions) != 1 || got.Actions[0] != (impl.FilterAction{Kind: impl.FlReject, Text: want}) {
		t.Errorf("%s, then %s: %s, want %s", short(commands), short(text), short(shown(got)), short(want))
	}
}

func files(texts ...string) (actions []impl.FilterAction) {
	for _, text := range texts {
		actions = append(actions, impl.FilterAction{Kind: impl.FlFile, Text: text})
	}
	return actions
}

func TestRunFilterKeeps(t *testing.T) {
	for _, c := range []struct {
		script string
		keep   bool
		steps  int64
	}{
		{"", true, 0},
		{"keep;", true, 1},
		{"discard;", false, 1},
		{"discard; keep;", true, 2},
		{"keep; discard;", true, 2},
		{"discard; discard;", false, 2},
		{"stop;", true, 1},
		{"stop; discard;", true, 1},
		{"discard; stop;", false, 2},
		{"discard; stop; keep;", false, 2},
		{`set "a" "b";`, true, 1},
		{`set "a" "b"; discard;`, false, 2},
		{"if true {}", true, 2},
		{"if true { discard; }", false, 3},
		{"if false { discard; }", true, 2},
		{"if false { } else { discard; }", false, 3},
		{"repeat 0 { discard; }", true, 1},
		{"repeat 1 { discard; }", false, 2},
		{"repeat 3 { discard; }", false, 4},
		{"repeat 3 { keep; stop; }", true, 3},
		{"repeat 3 { }", true, 1},
	} {
		checkRun(t, c.script, plainEnv, impl.FilterAnswer{Keep: c.keep, Steps: c.steps})
	}
	for kind, word := range map[int64]string{impl.FlFile: "fileinto", impl.FlRedirect: "redirect", impl.FlReject: "reject"} {
		one := []impl.FilterAction{{Kind: kind, Text: "x"}}
		checkRun(t, word+` "x";`, plainEnv, impl.FilterAnswer{Steps: 1, Actions: one})
		checkRun(t, word+` "x"; keep;`, plainEnv, impl.FilterAnswer{Keep: true, Steps: 2, Actions: one})
		checkRun(t, `keep; `+word+` "x";`, plainEnv, impl.FilterAnswer{Keep: true, Steps: 2, Actions: one})
		checkRun(t, word+` "x"; discard;`, plainEnv, impl.FilterAnswer{Steps: 2, Actions: one})
		checkRun(t, word+` "x"; stop; keep;`, plainEnv, impl.FilterAnswer{Steps: 2, Actions: one})
		checkRun(t, word+` "";`, plainEnv, impl.FilterAnswer{Steps: 1, Actions: []impl.FilterAction{{Kind: kind}}})
	}
	// A flag is no reason to keep nothing.
	checkRun(t, `addflag "x";`, plainEnv, impl.FilterAnswer{Keep: true, Steps: 1, Flags: some("x")})
	checkRun(t, `addflag "x"; discard;`, plainEnv, impl.FilterAnswer{Steps: 2, Flags: some("x")})
	checkRun(t, `addflag "";`, plainEnv, impl.FilterAnswer{Keep: true, Steps: 1, Flags: some("")})
}

func TestRunFilterActions(t *testing.T) {
	checkRun(t, `fileinto "a"; fileinto "b"; fileinto "a";`, plainEnv, impl.FilterAnswer{Steps: 3, Actions: files("a", "b")})
	checkRun(t, `fileinto "b"; fileinto "a"; fileinto "b"; fileinto "B";`, plainEnv, impl.FilterAnswer{Steps: 4, Actions: files("b", "a", "B")})
	checkRun(t, `fileinto "a"; redirect "a"; reject "a"; addflag "a"; redirect "a"; fileinto "a"; reject "a"; addflag "a";`, plainEnv, impl.FilterAnswer{Steps: 8,
		Actions: []impl.FilterAction{{Kind: impl.FlFile, Text: "a"}, {Kind: impl.FlRedirect, Text: "a"}, {Kind: impl.FlReject, Text: "a"}}, Flags: some("a")})
	checkRun(t, `reject "z"; addflag "z"; addflag "y"; addflag "z"; addflag "Z"; redirect "y";`, plainEnv, impl.FilterAnswer{Steps: 6,
		Actions: []impl.FilterAction{{Kind: impl.FlReject, Text: "z"}, {Kind: impl.FlRedirect, Text: "y"}}, Flags: some("z", "y", "Z")})
	// Texts that are the same when they are filled in.
	checkRun(t, `set "v" "a"; fileinto "a"; fileinto "${v}"; addflag "${v}"; addflag "a"; set "v" "b"; fileinto "${v}"; addflag "${v}";`, plainEnv,
		impl.FilterAnswer{Steps: 8, Actions: files("a", "b"), Flags: some("a", "b")})
	checkRun(t, `fileinto "${"; repeat 5 { fileinto "x"; addflag "y"; }`, plainEnv, impl.FilterAnswer{Steps: 12, Actions: files("${", "x"), Flags: some("y")})
}

func TestRunFilterManyActions(t *testing.T) {
	for _, count := range []int{maxActions - 1, maxActions, maxActions + 1, maxActions + 20} {
		var script strings.Builder
		var texts []string
		for at := range count {
			text := "n" + strconv.Itoa(at)
			texts = append(texts, text)
			script.WriteString(`fileinto "` + text + `"; addflag "` + text + `";`)
		}
		told := texts[:min(count, maxActions)]
		checkRun(t, script.String(), plainEnv, impl.FilterAnswer{Steps: int64(2 * count), Actions: files(told...), Flags: told})
		// Those that are there already, and others.
		checkRun(t, script.String()+`fileinto "n0"; addflag "n30"; fileinto "n30"; keep;`, plainEnv,
			impl.FilterAnswer{Keep: true, Steps: int64(2*count + 4), Actions: files(told...), Flags: told})
		more := runScript(t, script.String()+`redirect "n0"; reject "n0"; addflag "z";`, plainEnv)
		if len(more.Actions) != min(count+2, maxActions) || len(more.Flags) != min(count+1, maxActions) {
			t.Errorf("%d actions and more: %s", count, short(shown(more)))
		}
	}
	// Flags are no actions, and actions no flags.
	checkRun(t, `repeat 40 { set "a" "${a}x"; addflag "${a}"; } fileinto "a";`, plainEnv, impl.FilterAnswer{Steps: 82, Actions: files("a"), Flags: rows(maxActions)})
	checkRun(t, `repeat 40 { set "a" "${a}x"; fileinto "${a}"; } addflag "a";`, plainEnv, impl.FilterAnswer{Steps: 82, Actions: files(rows(maxActions)...), Flags: some("a")})
}

// rows are x, xx and so on.
func rows(count int) (texts []string) {
	for at := range count {
		texts = append(texts, xs(at+1))
	}
	return texts
}

func TestRunFilterBlocks(t *testing.T) {
	for _, c := range []struct {
		script string
		files  []string
		steps  int64
	}{
		{`if true { fileinto "a"; } else { fileinto "b"; }`, some("a"), 3},
		{`if false { fileinto "a"; } else { fileinto "b"; }`, some("b"), 3},
		{`if false { fileinto "a"; } elsif true { fileinto "b"; } else { fileinto "c"; }`, some("b"), 5},
		{`if false { fileinto "a"; } elsif false { fileinto "b"; } else { fileinto "c"; }`, some("c"), 5},
		{`if true { fileinto "a"; } elsif true { fileinto "b"; } else { fileinto "c"; }`, some("a"), 3},
		{`if false { } elsif false { } elsif false { } else { fileinto "c"; }`, some("c"), 7},
		{`if false { } elsif false { } elsif true { fileinto "b"; } fileinto "d";`, some("b", "d"), 8},
		{`if false { fileinto "a"; } elsif false { fileinto "b"; } fileinto "d";`, some("d"), 5},
		{`if true { if false { } else { fileinto "a"; } fileinto "b"; }`, some("a", "b"), 6},
		{`fileinto "a"; stop; fileinto "b";`, some("a"), 2},
		{`if true { fileinto "a"; stop; } fileinto "b";`, some("a"), 4},
		{`if false { stop; } fileinto "b";`, some("b"), 3},
		{`repeat 5 { fileinto "a"; if true { repeat 2 { stop; } } } fileinto "b";`, some("a"), 6},
		{`repeat 3 { repeat 2 { set "a" "${a}x"; } } fileinto "${a}";`, some("xxxxxx"), 1 + 3 + 6 + 1},
		{`repeat 0 { stop; } fileinto "a";`, some("a"), 2},
		{`repeat 2 { repeat 0 { stop; } } fileinto "a";`, some("a"), 4},
		{`repeat 100 { set "a" "${a}x"; } fileinto "${a}";`, some(xs(100)), 102},
		{`repeat 4 { if string :is "${a}" "xx" { fileinto "two"; stop; } set "a" "${a}x"; } fileinto "b";`, some("two"), 1 + 3 + 3 + 4},
		{`if not true { } else { if not false { fileinto "a"; } }`, some("a"), 7},
	} {
		checkRun(t, c.script, plainEnv, impl.FilterAnswer{Steps: c.steps, Actions: files(c.files...)})
	}
}

func TestRunFilterSteps(t *testing.T) {
	loop := impl.FilterAnswer{Code: impl.ErrLoop, Keep: true, Steps: maxFilterSteps}
	// Three steps, 1 + 97 * 51 and 48.
	many := `discard; fileinto "a"; addflag "b"; `
	rest := "repeat 97 { repeat 50 { discard; } } repeat 47 { discard; }"
	fits := impl.FilterAnswer{Steps: maxFilterSteps - 1, Actions: files("a"), Flags: some("b")}
	checkRun(t, many+rest, plainEnv, fits)
	fits.Steps = maxFilterSteps
	for _, last := range []string{"discard;", "stop;", "stop; keep;", "repeat 0 { keep; }", "repeat 100 { }"} {
		checkRun(t, many+rest+last, plainEnv, fits)
	}
	kept := fits
	kept.Keep = true
	checkRun(t, many+rest+"keep;", plainEnv, kept)
	for _, last := range []string{"discard; discard;", "discard; stop;", "keep; keep;", "if true { }", "if false { }", "repeat 1 { keep; }", "repeat 100 { keep; }", `if exists "a" { }`, "keep; repeat 0 { }", "keep; if true { }"} {
		checkRun(t, many+rest+last, plainEnv, loop)
	}
	checkRun(t, "repeat 100 { repeat 100 { keep; } }", plainEnv, loop)
	checkRun(t, "discard; repeat 100 { repeat 100 { discard; } }", plainEnv, loop)
	deep := "keep;"
	for range 9 {
		deep = "repeat 100 { " + deep + " }"
	}
	checkRun(t, deep, plainEnv, loop)
	// Blocks with nothing in them take no steps, the commands that hold them do.
	checkRun(t, "repeat 49 { repeat 100 { } }", plainEnv, impl.FilterAnswer{Keep: true, Steps: 50})
	checkRun(t, "repeat 100 { repeat 49 { repeat 100 { } } }", plainEnv, loop)
	checkRun(t, "repeat 100 { repeat 48 { repeat 100 { } } }", plainEnv, impl.FilterAnswer{Keep: true, Steps: 1 + 100*49})
	// Each test that begins is a step.
	checkRun(t, "repeat 100 { if anyof(false, allof(true, not true, true)) { } repeat 41 { keep; } }", plainEnv, impl.FilterAnswer{Keep: true, Steps: 1 + 100*(7+42)})
	for _, count := range []int{10, 98} {
		script := "repeat 50 { if anyof(" + strings.Repeat("false,", count) + "true,true) { } }"
		want := impl.FilterAnswer{Keep: true, Steps: int64(1 + 50*(2+count+1))}
		if want.Steps > maxFilterSteps {
			want = loop
		}
		checkRun(t, script, plainEnv, want)
	}
	// The last step within a test, and one more there.
	checkRun(t, "repeat 97 { repeat 50 { keep; } } repeat 47 { discard; } if not not true { }", plainEnv, impl.FilterAnswer{Keep: true, Steps: maxFilterSteps})
	checkRun(t, "repeat 97 { repeat 50 { discard; } } repeat 48 { discard; } if not not true { }", plainEnv, loop)
	checkRun(t, "repeat 97 { repeat 50 { discard; } } repeat 48 { discard; } if not not not not true { }", plainEnv, loop)
}

func TestRunFilterTests(t *testing.T) {
	for _, c := range []struct {
		test  string
		want  bool
		steps int64
	}{
		{"true", true, 1}, {"false", false, 1}, {"not true", false, 2}, {"not false", true, 2}, {"not not true", true, 3}, {"not not not true", false, 4},
		{"allof(true)", true, 2}, {"allof(false)", false, 2}, {"anyof(true)", true, 2}, {"anyof(false)", false, 2},
		{"allof(true,true)", true, 3}, {"allof(true,false)", false, 3}, {"allof(false,true)", false, 2}, {"allof(true,true,false,true)", false, 4},
		{"anyof(false,true)", true, 3}, {"anyof(true,false)", true, 2}, {"anyof(false,false,false)", false, 4}, {"anyof(false,true,true)", true, 3},
		{"allof(anyof(false,true),not anyof(false))", true, 7}, {"anyof(allof(true,false),allof(true,true))", true, 7}, {"not allof(true,false,true)", true, 4},
	} {
		checkSays(t, c.test, plainEnv, c.want, c.steps)
	}
	for size := range 5 {
		env := impl.FilterEnv{Message: xs(size)}
		for number := range 6 {
			checkSays(t, "size :over "+strconv.Itoa(number), env, size > number, 1)
			checkSays(t, "size :under "+strconv.Itoa(number), env, size < number, 1)
		}
	}
	whole := impl.FilterEnv{Message: "A: b\r\n\r\n" + xs(maxText-8)}
	checkSays(t, "size :over 99999", whole, true, 1)
	checkSays(t, "size :over 100000", whole, false, 1)
	checkSays(t, "size :under 100000", whole, false, 1)
	checkSays(t, "size :under 100001", whole, true, 1)
	checkSays(t, `exists "a"`, whole, true, 1)
	for test, want := range map[string]bool{
		`exists "subject"`: true, `exists "SUBJECT"`: true, `exists "to"`: true, `exists "cc"`: false, `exists ["to","subject"]`: true, `exists ["to","cc"]`: false, `exists ["cc","to"]`: false,
		`exists ""`: false, `exists "subject:"`: false, `exists " subject"`: false, `exists "subjec"`: false, `exists ["to","to","TO"]`: true, `exists "x"`: false,
	} {
		checkSays(t, test, plainEnv, want, 1)
	}
	checkSays(t, `allof(string :matches "to" "*", exists "${1}", exists "T${9}o")`, plainEnv, true, 4)
}

func TestRunFilterMatches(t *testing.T) {
	for _, c := range []struct {
		test string
		want bool
	}{
		{`string :is "a" "a"`, true}, {`string :is "a" "A"`, true}, {`string :is "A" "a"`, true}, {`string :is "a" "b"`, false}, {`string :is "a" "ab"`, false}, {`string :is "ab" "a"`, false},
		{`string :is "" ""`, true}, {`string :is "a" ""`, false}, {`string :is "" "a"`, false}, {`string :is "a " "a"`, false}, {`string :is "*" "*"`, true}, {`string :is "a" "*"`, false},
		{`string :contains "abc" "b"`, true}, {`string :contains "abc" "BC"`, true}, {`string :contains "ABC" "ab"`, true}, {`string :contains "abc" ""`, true}, {`string :contains "" ""`, true},
		{`string :contains "abc" "ac"`, false}, {`string :contains "b" "abc"`, false}, {`string :contains "abc" "?"`, false}, {`string :contains "abc" "abc"`, true},
		{`string :matches "abc" "a*"`, true}, {`string :matches "abc" "A?C"`, true}, {`string :matches "abc" "b"`, false}, {`string :matches "" ""`, true}, {`string :matches "" "*"`, true}, {`string :matches "a" ""`, false},
		{`string :matches "a*" "a\\*"`, true}, {`string :matches "ab" "a\\*"`, false},
		{`string :is ["a","b"] ["x","B"]`, true}, {`string :is ["a","b"] ["x","y"]`, false}, {`string :contains ["q","xyz"] ["1","Y"]`, true}, {`string :matches ["q","xyz"] ["1","?y?"]`, true},
		{"string :is \"\xe9\" \"\xc9\"", false}, {"string :contains \"\xc3\xa9\" \"\xa9\"", true}, {"string :is \"@\" \"`\"", false}, {"string :is \"[\" \"{\"", false}, {"string :is \"k\" \"\u212a\"", false},
		{`header :is "subject" "buy now"`, true}, {`header :is "SUBJECT" "BUY NOW"`, true}, {`header :is "subject" " buy now"`, false}, {`header :contains "subject" "y N"`, true}, {`header :matches "subject" "b?y*"`, true},
		{`header :is "cc" ""`, false}, {`header :contains "cc" ""`, false}, {`header :matches "cc" "*"`, false}, {`header :is ["cc","to"] "ann <ann@a>"`, true}, {`header :is "" ""`, false},
		{`header :is "subject" ["x","buy","buy now"]`, true},
		{`address :is "to" "ann@a"`, true}, {`address :is "to" "Ann <ann@A>"`, false}, {`address :is "TO" "ANN@A"`, true}, {`address :contains "to" "@"`, true}, {`address :contains "to" "<"`, false}, {`address :matches "to" "*@?"`, true}, {`address :contains "subject" ""`, false}, {`address :contains "cc" ""`, false},
		{`envelope :is "from" "bob@b"`, true}, {`envelope :is "to" "ANN@A"`, true}, {`envelope :contains "from" "O"`, true}, {`envelope :matches "to" "*@a"`, true}, {`envelope :is "from" "ann@a"`, false},
		{`envelope :is ["from","to"] "ann@a"`, true}, {`envelope :contains "x" ""`, false}, {`envelope :contains "" ""`, false}, {`envelope :contains ["x","cc"] ""`, false}, {`envelope :matches "subject" "*"`, false},
		// Letters are held caseless only where that is said.
		{`envelope :contains "From" ""`, false}, {`envelope :contains "FROM" ""`, false}, {`envelope :contains "tO" ""`, false}, {`envelope :contains ["To","from"] "bob"`, true}, {`envelope :contains " from" ""`, false},
	} {
		checkSays(t, c.test, plainEnv, c.want, 1)
	}
	nobody := impl.FilterEnv{}
	checkSays(t, `envelope :is "from" ""`, nobody, true, 1)
	checkSays(t, `envelope :matches "to" "*"`, nobody, true, 1)
	checkSays(t, `envelope :is "cc" ""`, nobody, false, 1)
	checkSays(t, `header :contains "subject" ""`, nobody, false, 1)
	// From and To are taken as they are.
	blank := impl.FilterEnv{From: " a ", To: "\r\n b"}
	checkSays(t, `envelope :is "from" "a"`, blank, false, 1)
	checkSays(t, `envelope :is "from" " A "`, blank, true, 1)
	checkSays(t, "envelope :is \"to\" \"\r\n b\"", blank, true, 1)
	// No key of more bytes than a pattern has fits, nor does one that is cut.
	long := impl.FilterEnv{From: xs(1000)}
	checkSays(t, `envelope :matches "from" "`+strings.Repeat("*", maxPattern)+`"`, long, true, 1)
	checkSays(t, `envelope :matches "from" "`+strings.Repeat("*", maxPattern+1)+`"`, long, false, 1)
	checkSays(t, `envelope :is "from" "`+xs(1000)+`"`, long, true, 1)
	checkSays(t, `envelope :contains "from" "`+xs(1000)+`"`, long, true, 1)
}

func TestRunFilterValues(t *testing.T) {
	head := func(lines ...string) impl.FilterEnv {
		return impl.FilterEnv{Message: strings.Join(lines, "\r\n") + "\r\n\r\nSubject: body\r\n"}
	}
	env := head("Subject: one", "X: y", "SUBJECT: two", "subject:", "Subject :three")
	for text, want := range map[string]bool{"one": true, "TWO": true, "": true, "three": true, "four": false, "y": false, "body": false} {
		checkSays(t, `header :is "subject" "`+text+`"`, env, want, 1)
	}
	checkSaid(t, `if header :matches "Subject" "t*" {}`, "${1}", "wo", env)
	checkSaid(t, `if header :matches ["x","subject"] "*" {}`, "${1}", "y", env)
	checkSaid(t, `if header :matches ["subject","x"] "*" {}`, "${1}", "one", env)
	// Folded, and blanks at both ends.
	env = head("A:  \t x y\t ", "B:\r\n one\r\n\ttwo \r\n three\t", "C: \t ", "D:z", "E:\r\n \r\n ", "F: a\r\n  b")
	for name, value := range map[string]string{"a": "x y", "b": "one\ttwo  three", "c": "", "d": "z", "e": "", "f": "a  b"} {
		checkSays(t, `header :is "`+name+`" "`+value+`"`, env, true, 1)
		checkSaid(t, `if header :matches "`+name+`" "*" {}`, "<${1}>", "<"+value+">", env)
	}
	checkSays(t, `header :contains ["a","b","c","d","e","f"] ["`+"\r"+`","`+"\n"+`"]`, env, false, 1)
	// The first 2000 bytes, of what is unfolded and without blanks.
	for _, size := range []int{1999, 2000, 2001, 2500} {
		env = head("A: \t\r\n " + xs(size) + "\t")
		cut := min(size, 2000)
		checkSays(t, `header :matches "a" "x*"`, env, true, 1)
		// As many as are asked for, and one more than there are.
		checkSays(t, `header :matches "a" "*`+xs(199)+`"`, env, true, 1)
		checkSaid(t, `if header :matches "a" "`+strings.Repeat("?", 99)+`*" {}`, "${0}", xs(1000), env)
		env = head("A: " + xs(1995) + "123456789")
		checkSays(t, `header :contains "a" "x12345"`, env, true, 1)
		checkSays(t, `header :contains "a" "6"`, env, false, 1)
		checkSays(t, `header :matches "a" "*5"`, env, true, 1)
		checkSays(t, `header :matches "a" "*9"`, env, false, 1)
		env = head("A: " + xs(cut-2) + "yz" + xs(size-cut))
		checkSays(t, `header :matches "a" "*yz"`, env, true, 1)
	}
	// Blanks are taken first, then bytes are counted: those within may be at the end now.
	env = head("A: " + xs(1999) + " y")
	checkSays(t, `header :matches "a" "*x "`, env, true, 1)
	checkSays(t, `header :matches "a" "*x"`, env, false, 1)
	env = head("A:" + strings.Repeat(" ", 3000) + "y" + strings.Repeat(" ", 3000))
	checkSays(t, `header :is "a" "y"`, env, true, 1)
	env = head("A: " + strings.Repeat("xxxxxxxxx\r\n ", 199) + xs(10) + "yz")
	checkSays(t, `header :contains "a" "xy"`, env, false, 1)
	checkSays(t, `header :matches "a" "*`+xs(10)+`"`, env, true, 1)
}

func TestRunFilterAddresses(t *testing.T) {
	head := func(lines ...string) impl.FilterEnv {
		return impl.FilterEnv{Message: strings.Join(lines, "\r\n") + "\r\n\r\n"}
	}
	env := head("To: Ann Lee <Ann@A.Example>, team: bob@B, \"c d\"@c;, <e@[1.2]>", "Cc: x@", "Cc: (note) f@g", "Bcc: h@i,,", "To:", "X: \r\n y@z\r\n ")
	for key, want := range map[string]bool{
		"ann@a.example": true, "ANN@A.EXAMPLE": true, "bob@b": true, "c d@c": true, "e@[1.2]": true, "f@g": false, "team": false, "Ann Lee": false, "": false, `"c d"@c`: false,
	} {
		checkSays(t, `address :is "to" "`+strings.ReplaceAll(key, `"`, `\"`)+`"`, env, want, 1)
	}
	checkSays(t, `address :contains "to" ["lee","<","note"]`, env, false, 1)
	// Nothing of a list with a code, all of the others of that name.
	checkSays(t, `address :contains "cc" "x"`, env, false, 1)
	checkSays(t, `address :is "cc" "f@g"`, env, true, 1)
	checkSays(t, `address :is "bcc" "h@i"`, env, true, 1)
	checkSays(t, `address :is "x" "y@z"`, env, true, 1)
	checkSays(t, `address :contains ["y","z"] ""`, env, false, 1)
	checkSays(t, `address :is ["y","x"] "y@z"`, env, true, 1)
	checkSays(t, `address :is "to" ""`, head("To:"), false, 1)
	checkSays(t, `address :contains "to" ""`, head("To: a@b, c"), false, 1)
	// The key has small letters in its domain alone.
	checkSaid(t, `if address :matches "to" "a*@*" {}`, "${0} ${1} ${2}", "Ann@a.example nn a.example", env)
	checkSaid(t, `if address :matches "to" "*@?" {}`, "${1} ${2}", "bob b", env)
	checkSaid(t, `if address :matches ["cc","to"] "*@*" {}`, "${1}", "f", env)
	// Asked for again, behind other names.
	checkSays(t, `allof(address :is "to" "bob@b", address :is "cc" "f@g", address :is "To" "bob@b", header :contains "to" "team")`, env, true, 5)
	// A list of more bytes than a value has.
	var boxes []string
	for at := range 300 {
		boxes = append(boxes, "box"+strconv.Itoa(at)+"@example")
	}
	env = head("To: " + strings.Join(boxes, ", "))
	checkSays(t, `address :is "to" "box0@example"`, env, true, 1)
	checkSays(t, `address :is "to" "box299@example"`, env, true, 1)
	checkSays(t, `address :is "to" "box300@example"`, env, false, 1)
}

func TestRunFilterHeads(t *testing.T) {
	for _, message := range []string{" a: b\r\n", "no field", "A: b\r\nno field\r\n\r\n", "A: b\rc\r\n", "A: b\nc\r\n\r\n", strings.Repeat("A: b\r\n", 201)} {
		env := impl.FilterEnv{From: "f", To: "t", Message: message}
		if impl.ReadHead(message).Code == impl.OK {
			t.Fatalf("ReadHead of %s", short(message))
		}
		for _, test := range []string{`exists "a"`, `header :contains "a" ""`, `address :contains "a" ""`} {
			checkSays(t, test, env, false, 1)
		}
		checkSays(t, `allof(size :over 5, envelope :is "from" "f", string :is "x" "x")`, env, true, 4)
		checkSays(t, "size :over "+strconv.Itoa(len(message)), env, false, 1)
		checkSays(t, "size :over "+strconv.Itoa(len(message)-1), env, true, 1)
	}
	full := impl.FilterEnv{Message: strings.Repeat("A: b\r\n", 199) + "C: d\r\n"}
	checkSays(t, `allof(exists ["a","c"], header :is "c" "d")`, full, true, 3)
	checkSays(t, `exists "a"`, impl.FilterEnv{Message: "\r\nA: b\r\n"}, false, 1)
}

func TestRunFilterOrder(t *testing.T) {
	// Value by value, of each key by key.
	for _, c := range []struct{ test, want string }{
		{`string :matches ["ab","cd"] ["c*","a*"]`, "ab"},
		{`string :matches ["ab","cd"] ["c*","*"]`, "ab"},
		{`string :matches ["ab","cd"] ["x","c*"]`, "cd"},
		{`string :matches ["cd","ab"] ["x","*"]`, "cd"},
		{`header :matches ["x","to","subject"] ["b*","*"]`, "Ann <ann@A>"},
		{`header :matches ["x","to","subject"] ["b*","c*"]`, "Buy now"},
		{`envelope :matches ["to","from"] ["b*","*"]`, "ann@a"},
		{`envelope :matches ["to","from"] ["b*","c*"]`, "Bob@b"},
	} {
		checkSaid(t, "if "+c.test+" {}", "${0}", c.want, plainEnv)
	}
	checkSaid(t, `if string :matches "abc" ["*c","a*"] {}`, "${1}", "ab", plainEnv)
	checkSaid(t, `if string :matches "abc" ["*x","a*"] {}`, "${1}", "bc", plainEnv)
	// Tests that do not begin leave no marks.
	checkSaid(t, `if anyof(string :matches "a" "*", string :matches "b" "*") {}`, "${1}", "a", plainEnv)
	checkSaid(t, `if allof(string :matches "a" "*", string :matches "b" "*") {}`, "${1}", "b", plainEnv)
	checkSaid(t, `if allof(string :matches "a" "*", false, string :matches "b" "*") {}`, "${1}", "a", plainEnv)
	checkSaid(t, `if not string :matches "a" "*" {}`, "${1}", "a", plainEnv)
}

func TestRunFilterMarks(t *testing.T) {
	checkSaid(t, "", "<${0}${1}${2}${3}${4}${5}${6}${7}${8}${9}>", "<>", plainEnv)
	nine := `if string :matches "abcdefghi" "?????????" {}`
	checkSaid(t, nine, "${9}${8}${7}${6}${5}${4}${3}${2}${1}-${0}", "ihgfedcba-abcdefghi", plainEnv)
	eleven := `if string :matches "abcdefghijk" "???????????" {}`
	checkSaid(t, eleven, "${9}${1}-${0}", "ia-abcdefghijk", plainEnv)
	// A later one with fewer leaves nothing of the earlier ones.
	checkSaid(t, nine+`if string :matches "xy" "x*" {}`, "${0}|${1}|${2}|${9}|", "xy|y|||", plainEnv)
	checkSaid(t, nine+`if string :matches "xy" "xy" {}`, "${0}|${1}|", "xy||", plainEnv)
	checkSaid(t, nine+`if string :matches "" "" {}`, "${0}|${1}|", "||", plainEnv)
	// One that does not fit, or holds no pattern, leaves them.
	for _, other := range []string{`string :matches "xy" "x"`, `string :is "xy" "xy"`, `string :contains "xy" "x"`, `header :matches "cc" "*"`, `header :is "subject" "buy now"`, `exists "to"`, `string :matches "a" "` + xs(201) + `"`} {
		checkSaid(t, nine+`if `+other+` {}`, "${0}|${1}|${9}", "abcdefghi|a|i", plainEnv)
	}
	checkSaid(t, `if header :matches "subject" "B?y *W" {}`, "${0}|${1}|${2}", "Buy now|u|no", plainEnv)
	// Marks that are texts of places are not looked at again.
	checkSaid(t, `if string :matches "$" "*" {}`, "${1}{1}", "${1}", plainEnv)
	checkSaid(t, `set "a" "${"; set "b" "${a}c}"; set "c" "no";`, "${b}", "${c}", plainEnv)
	// Keys and names are filled in with them.
	checkSays(t, `allof(string :matches "to" "t*", header :is "t${1}" "ann <ann@a>", string :is "x${0}${1}" ["z","X${0}o"])`, plainEnv, true, 4)
	checkSays(t, `allof(string :matches "from" "*", envelope :is "${1}" "bob@b", address :is "${9}to${8}" "ann@${7}a", exists "t${9}o", string :matches "a${1}" "*f${9}rom")`, plainEnv, true, 6)
	// All keys are filled in with the marks as they are when the test begins.
	checkSaid(t, `if string :matches "ab" "?*" {} if string :matches ["${2}","${1}"] ["${1}","x","${2}*"] {}`, "${0}|${1}|${2}", "b||", plainEnv)
	checkSays(t, `allof(string :matches "*" "?", string :matches "abc" "${1}")`, plainEnv, true, 3)
}

func TestRunFilterVariables(t *testing.T) {
	for _, c := range []struct{ commands, text, want string }{
		{"", "${a}", ""},
		{"", "x${a}y${b}", "xy"},
		{`set "a" "1";`, "${a}", "1"},
		{`set "a" "1"; set "a" "2";`, "${a}", "2"},
		{`set "a" "1"; set "b" "${a}2"; set "a" "3";`, "${a}${b}", "312"},
		{`set "a" "1"; set "a" "${a}${a}"; set "a" "${a}${a}";`, "${a}", "1111"},
		{`set "a" "1"; set "a" "";`, "<${a}>", "<>"},
		{`set "if" "1"; set "a" "2";`, "${if}${a}${ifa}", "12"},
		{`set "abcdefghijklmnopqrst" "1";`, "${abcdefghijklmnopqrst}${abcdefghijklmnopqrstu}${abcdefghijklmnopqrs}", "1"},
		// What is no place stands for itself.
		{`set "a" "1";`, "$", "$"},
		{`set "a" "1";`, "${", "${"},
		{`set "a" "1";`, "${a", "${a"},
		{`set "a" "1";`, "${}", "${}"},
		{`set "a" "1";`, "$a", "$a"},
		{`set "a" "1";`, "$a}", "$a}"},
		{`set "a" "1";`, "{a}", "{a}"},
		{`set "a" "1";`, "${A}", "${A}"},
		{`set "a" "1";`, "${aB}", "${aB}"},
		{`set "a" "1";`, "${a }", "${a }"},
		{`set "a" "1";`, "${ a}", "${ a}"},
		{`set "a" "1";`, "${a1}", "${a1}"},
		{`set "a" "1";`, "${1a}", "${1a}"},
		{`set "a" "1";`, "${10}", "${10}"},
		{`set "a" "1";`, "${00}", "${00}"},
		{`set "a" "1";`, "${-}", "${-}"},
		{`set "a" "1";`, "${a-b}", "${a-b}"},
		{`set "a" "1";`, "${\xe1}", "${\xe1}"},
		{`set "a" "1";`, "${`}", "${`}"},
		{`set "a" "1";`, "${/}${:}", "${/}${:}"},
		{`set "a" "1";`, "$ {a}", "$ {a}"},
		{`set "a" "1";`, "$${a}", "$1"},
		{`set "a" "1";`, "${${a}}", "${1}"},
		{`set "a" "1";`, "${${a}", "${1"},
		{`set "a" "1";`, "${a${a}}", "${a1}"},
		{`set "a" "1";`, "${a}}${a}{", "1}1{"},
		{`set "a" "1";`, "${a}${a}${a}", "111"},
		{`set "a" "1";`, "${1}${a}${b}${9}", "1"},
		{`set "a" "1";`, "${\n}", "${\n}"},
		{`set "a" "$"; set "b" "{a}";`, "${a}${b}", "${a}"},
		{`set "a" "\"\\";`, `\${a}"`, `\"\"`},
	} {
		checkSaid(t, c.commands, c.text, c.want, plainEnv)
	}
	// The name of a variable is no text that is filled in, and each command's text is.
	got := runScript(t, `set "a" "1"; fileinto "f${a}"; redirect "r${a}"; reject "j${a}"; addflag "g${a}";`, plainEnv)
	want := impl.FilterAnswer{Steps: 5, Actions: []impl.FilterAction{{Kind: impl.FlFile, Text: "f1"}, {Kind: impl.FlRedirect, Text: "r1"}, {Kind: impl.FlReject, Text: "j1"}}, Flags: some("g1")}
	if !sameAnswers(got, want) {
		t.Errorf("filled in: %s", shown(got))
	}
	// No run knows of another one's.
	runScript(t, `set "a" "1"; if string :matches "x" "*" {}`, plainEnv)
	checkSaid(t, "", "<${a}${1}>", "<>", plainEnv)
}

// variable is a name of its own for each number.
func variable(number int) string {
	return "v" + string(rune('a'+number/26)) + string(rune('a'+number%26))
}

func TestRunFilterManyVariables(t *testing.T) {
	var script, all strings.Builder
	var want string
	for number := range maxVars + 3 {
		script.WriteString(`set "` + variable(number) + `" "` + strconv.Itoa(number) + `";`)
		all.WriteString("${" + variable(number) + "}.")
		if number < maxVars {
			want += strconv.Itoa(number)
		}
		want += "."
	}
	checkSaid(t, script.String(), all.String(), want, plainEnv)
	// One that is there may be set anew, to nothing too, and one that is not may not, even so.
	again := script.String() + `set "` + variable(0) + `" ""; set "` + variable(maxVars-1) + `" "x"; set "new" "y";`
	checkSaid(t, again, "${"+variable(0)+"}|${"+variable(maxVars-1)+"}|${new}|${"+variable(1)+"}", "|x||1", plainEnv)
	// The last that has room, and the first that has none.
	one := ""
	for number := range maxVars - 1 {
		one += `set "` + variable(number) + `" "";`
	}
	checkSaid(t, one+`set "x" "1"; set "y" "2";`, "${x}${y}", "1", plainEnv)
	checkSaid(t, one+`set "y" "2"; set "x" "1"; set "y" "3";`, "${x}${y}", "3", plainEnv)
}

func TestRunFilterLongTexts(t *testing.T) {
	six := `set "a" "` + xs(600) + `";`
	checkSaid(t, six, "${a}", xs(600), plainEnv)
	checkSaid(t, six, "${a}"+strings.Repeat("y", 400), xs(600)+strings.Repeat("y", 400), plainEnv)
	checkSaid(t, six, "${a}"+strings.Repeat("y", 400)+"z", xs(600)+strings.Repeat("y", 400), plainEnv)
	checkSaid(t, six, "y${a}${a}", "y"+xs(999), plainEnv)
	checkSaid(t, six, "${a}${a}${a}${a}", xs(1000), plainEnv)
	checkSaid(t, six+`set "b" "${a}${a}y";`, "${b}", xs(1000), plainEnv)
	checkSaid(t, six+`set "b" "${a}${a}y";`, "y${b}", "y"+xs(999), plainEnv)
	checkSaid(t, "", xs(1000), xs(1000), plainEnv)
	// Places beyond the last byte that is taken are nothing, and none is taken in half for a name.
	checkSaid(t, six, xs(996)+"${a}", xs(1000), plainEnv)
	checkSaid(t, `set "a" "yz";`, xs(996)+"${a}", xs(996)+"yz", plainEnv)
	checkSaid(t, `set "a" "`+strings.Repeat("y", 7)+`";`, xs(996)+"${a}", xs(996)+"yyyy", plainEnv)
	checkSaid(t, "repeat 12 { set \"a\" \"${a}${a}x\"; }", "${a}", xs(1000), plainEnv)
	// A mark may be longer than a text.
	long := impl.FilterEnv{Message: "A: " + xs(1500) + "y" + xs(499) + "\r\n\r\n"}
	checkSaid(t, `if header :matches "a" "*" {}`, "${0}", xs(1000), long)
	checkSaid(t, `if header :matches "a" "*y*" {}`, "${2}${1}", xs(1000), long)
	checkSaid(t, `if header :matches "a" "*y*" {}`, "${2}z${1}", xs(499)+"z"+xs(500), long)
	// Keys, names and values too: they are the same if their first bytes are.
	checkSays(t, `allof(header :matches "a" "*", string :is "${0}" "${1}y", string :is "${0}" "`+xs(1000)+`")`, long, true, 4)
	checkRun(t, six+`fileinto "${a}${a}"; fileinto "${a}${a}${a}"; addflag "${a}${a}"; addflag "${a}y${a}";`, plainEnv,
		impl.FilterAnswer{Steps: 5, Actions: files(xs(1000)), Flags: some(xs(1000), xs(600)+"y"+xs(399))})
}

func TestRunFilterSizes(t *testing.T) {
	nodes := nodesOf(block(drop))
	fits := impl.FilterAnswer{Steps: 1}
	tooLong := impl.FilterAnswer{Code: impl.ErrSize}
	for _, c := range []struct {
		env  impl.FilterEnv
		want impl.FilterAnswer
	}{
		{impl.FilterEnv{}, fits},
		{impl.FilterEnv{Message: xs(maxText)}, fits},
		{impl.FilterEnv{Message: xs(maxText + 1)}, tooLong},
		{impl.FilterEnv{From: xs(1000)}, fits},
		{impl.FilterEnv{From: xs(1001)}, tooLong},
		{impl.FilterEnv{To: xs(1000)}, fits},
		{impl.FilterEnv{To: xs(1001)}, tooLong},
		{impl.FilterEnv{From: xs(1000), To: xs(1000), Message: xs(maxText)}, fits},
		{impl.FilterEnv{From: xs(maxText + 1)}, tooLong},
		{impl.FilterEnv{To: xs(maxText + 1)}, tooLong},
		{impl.FilterEnv{From: xs(maxText + 1), To: xs(maxText + 1), Message: xs(maxText + 1)}, tooLong},
	} {
		if got := impl.RunFilter(nodes, c.env); !sameAnswers(got, c.want) {
			t.Errorf("RunFilter of %d, %d and %d bytes: %s", len(c.env.From), len(c.env.To), len(c.env.Message), shown(got))
		}
		// A fault of the nodes is told first.
		for _, wrong := range [][]impl.FilterNode{nil, {{Kind: impl.FlKeep}}, {{Kind: impl.FlBlock, Num: 1}}, append(allCopied(nodes), impl.FilterNode{Kind: impl.FlBlock})} {
			if got := impl.RunFilter(wrong, c.env); !sameAnswers(got, impl.FilterAnswer{Code: impl.ErrForm}) {
				t.Errorf("RunFilter of %s: %s", shown(wrong), shown(got))
			}
		}
	}
	long := impl.FilterEnv{From: strings.Repeat("a", 999) + "b", To: "b" + strings.Repeat("a", 999)}
	checkSays(t, `envelope :matches ["from"] "*b"`, long, true, 1)
	checkSays(t, `envelope :matches ["to"] "b*"`, long, true, 1)
}

// Heavy filters end, too.
func TestRunFilterEnds(t *testing.T) {
	begin := time.Now()
	row := strings.Repeat("*a", 60) + "*b"
	env := impl.FilterEnv{From: strings.Repeat("a", 1000), Message: "Subject: " + strings.Repeat("a", 90000) + "\r\nTo: " + strings.Repeat("a@b, ", 400) + "\r\n\r\n"}
	got := runScript(t, `repeat 100 { repeat 10 { if anyof(header :matches ["subject","to"] "`+row+`", envelope :matches "from" "`+row+`", address :is "to" "x") {} } }`, env)
	if got.Code != impl.OK && got.Code != impl.ErrLoop {
		t.Errorf("a heavy filter: %s", shown(got))
	}
	names := `["subject"` + strings.Repeat(`,"to"`, 99) + "]"
	runScript(t, `repeat 20 { if address :contains `+names+` `+names+` {} if header :contains `+names+` `+names+` {} if exists `+names+` {} }`, env)
	if taken := time.Since(begin); taken > 20*time.Second {
		t.Errorf("it took %v", taken)
	}
}

// slowRunner does a filter as chapter 11 tells it, thing by thing, and goes on by asking whether it is over.
type slowRunner struct {
	nodes  []impl.FilterNode
	env    impl.FilterEnv
	fields []impl.Field
	vars   [][2]string
	marks  []string
	answer impl.FilterAnswer
	done   []int64
	over   bool
}

var placePattern = regexp.MustCompile(`\$\{([a-z]+|[0-9])\}`)

func slowRun(nodes []impl.FilterNode, env impl.FilterEnv) impl.FilterAnswer {
	r := newSlowRunner(env)
	r.nodes = nodes
	r.command(int64(len(nodes) - 1))
	return r.end()
}

func newSlowRunner(env impl.FilterEnv) *slowRunner {
	r := slowRunner{env: env, marks: make([]string, 10)}
	if head := impl.ReadHead(env.Message); head.Code == impl.OK {
		r.fields = head.Fields
	}
	return &r
}

func (r *slowRunner) end() impl.FilterAnswer {
	if r.answer.Code != impl.OK {
		return r.answer
	}
	instead := []int64{impl.FlDiscard, impl.FlFile, impl.FlRedirect, impl.FlReject}
	r.answer.Keep = slices.Contains(r.done, impl.FlKeep) || !slices.ContainsFunc(r.done, func(kind int64) bool { return slices.Contains(instead, kind) })
	return r.answer
}

// step is false if no more may be done.
func (r *slowRunner) step() bool {
	if r.over {
		return false
	}
	if r.answer.Steps++; r.answer.Steps > maxFilterSteps {
		r.over = true
		r.answer = impl.FilterAnswer{Code: impl.ErrLoop, Keep: true, Steps: maxFilterSteps}
	}
	return !r.over
}

func (r *slowRunner) fill(text string) string {
	filled := placePattern.ReplaceAllStringFunc(text, func(place string) string {
		name := place[2 : len(place)-1]
		if at := strings.Index("0123456789", name); at >= 0 {
			return r.marks[at]
		}
		for _, v := range r.vars {
			if v[0] == name {
				return v[1]
			}
		}
		return ""
	})
	if len(filled) > maxVarBytes {
		return filled[:maxVarBytes]
	}
	return filled
}

func (r *slowRunner) command(at int64) {
	node := r.nodes[at]
	if node.Kind == impl.FlBlock {
		for _, kid := range node.Kids {
			r.command(kid)
		}
		return
	}
	if !r.step() {
		return
	}
	r.done = append(r.done, node.Kind)
	switch node.Kind {
	case impl.FlIf:
		says := r.test(node.Kids[0])
		if r.over {
			return
		}
		if says {
			r.command(node.Kids[1])
		} else if len(node.Kids) == 3 {
			r.command(node.Kids[2])
		}
	case impl.FlRepeat:
		for range node.Num {
			r.command(node.Kids[0])
		}
	case impl.FlStop:
		r.over = true
	case impl.FlFlag:
		if flag := r.fill(node.Text); !slices.Contains(r.answer.Flags, flag) && len(r.answer.Flags) < maxActions {
			r.answer.Flags = append(r.answer.Flags, flag)
		}
	case impl.FlFile, impl.FlRedirect, impl.FlReject:
		action := impl.FilterAction{Kind: node.Kind, Text: r.fill(node.Text)}
		if !slices.Contains(r.answer.Actions, action) && len(r.answer.Actions) < maxActions {
			r.answer.Actions = append(r.answer.Actions, action)
		}
	case impl.FlSet:
		value := r.fill(node.Text)
		for at, v := range r.vars {
			if v[0] == node.Names[0] {
				r.vars[at][1] = value
				return
			}
		}
		if len(r.vars) < maxVars {
			r.vars = append(r.vars, [2]string{node.Names[0], value})
		}
	}
}

func (r *slowRunner) test(at int64) bool {
	node := r.nodes[at]
	if !r.step() {
		return false
	}
	switch node.Kind {
	case impl.FlTrue:
		return true
	case impl.FlNot:
		return !r.test(node.Kids[0])
	case impl.FlAll:
		for _, kid := range node.Kids {
			if !r.test(kid) {
				return false
			}
		}
		return true
	case impl.FlAny:
		for _, kid := range node.Kids {
			if r.test(kid) {
				return true
			}
		}
	case impl.FlOver:
		return int64(len(r.env.Message)) > node.Num
	case impl.FlUnder:
		return int64(len(r.env.Message)) < node.Num
	case impl.FlExists:
		for _, name := range node.Names {
			if len(impl.FindField(r.fields, r.fill(name))) == 0 {
				return false
			}
		}
		return true
	case impl.FlHeader, impl.FlAddress, impl.FlEnvelope, impl.FlString:
		return r.compare(node)
	}
	return false
}

func (r *slowRunner) compare(node impl.FilterNode) bool {
	for _, value := range r.values(node) {
		for _, key := range node.Keys {
			key = r.fill(key)
			switch node.Match {
			case impl.MatchIs:
				if slowSame(key, value) {
					return true
				}
			case impl.MatchContains:
				if strings.Contains(slowLow(value), slowLow(key)) {
					return true
				}
			case impl.MatchMatches:
				if fitted := slowWild(key, value); fitted != nil && len(key) <= maxPattern {
					r.marks = append(fitted, make([]string, 10)...)[:10]
					return true
				}
			}
		}
	}
	return false
}

func (r *slowRunner) values(node impl.FilterNode) (values []string) {
	for _, name := range node.Names {
		name = r.fill(name)
		switch {
		case node.Kind == impl.FlString:
			values = append(values, name)
		case node.Kind == impl.FlEnvelope && name == "from":
			values = append(values, r.env.From)
		case node.Kind == impl.FlEnvelope && name == "to":
			values = append(values, r.env.To)
		case node.Kind == impl.FlHeader:
			for _, value := range impl.FindField(r.fields, name) {
				value = unfolds.Replace(value)
				value = strings.Trim(value, " \t")
				values = append(values, value[:min(len(value), maxWildText)])
			}
		case node.Kind == impl.FlAddress:
			for _, value := range impl.FindField(r.fields, name) {
				if list := impl.ReadAddresses(value); list.Code == impl.OK {
					for _, box := range impl.Boxes(list.Entries) {
						values = append(values, impl.AddressKey(box))
					}
				}
			}
		}
	}
	return values
}

// The second of promise 12, and promise 13.
func TestRunFilterOfAnyFilters(t *testing.T) {
	d := dice{state: 1107}
	actions, looped := 0, 0
	for at := range 12000 {
		filter := d.filterBlock(1 + d.below(9))
		if at%20 == 0 {
			filter = block(setting("long", xs(300)), repeated(100, repeated(int64(d.below(40)), d.filterBlock(1+d.below(6)).kids...)))
		}
		nodes, env := nodesOf(filter), d.filterEnv()
		if impl.FilterFault(nodes) != impl.OK {
			t.Fatalf("a fault: %s", shown(nodes))
		}
		got, want := impl.RunFilter(nodes, env), slowRun(nodes, env)
		if !sameAnswers(got, want) {
			t.Errorf("RunFilter of %s with %s: %s, want %s", short(slowScript(nodes)), shown(env), short(shown(got)), short(shown(want)))
		}
		if got.Steps > maxFilterSteps || len(got.Actions) > maxActions || len(got.Flags) > maxActions {
			t.Errorf("RunFilter of %s: %s", short(slowScript(nodes)), short(shown(got)))
		}
		if got.Code == impl.ErrLoop {
			looped++
		}
		actions += len(got.Actions)
	}
	if actions < 3000 || looped < 50 {
		t.Errorf("only %d actions, %d that went round", actions, looped)
	}
}

// roomy is nodes whose lists have room behind them, with something in it.
func roomy(nodes []impl.FilterNode) []impl.FilterNode {
	var out []impl.FilterNode
	for _, node := range nodes {
		node.Names = append(slices.Clone(node.Names), "room", "room")[:len(node.Names)]
		node.Keys = append(slices.Clone(node.Keys), "room", "room")[:len(node.Keys)]
		node.Kids = append(slices.Clone(node.Kids), 77, 77)[:len(node.Kids)]
		out = append(out, node)
	}
	return append(out, impl.FilterNode{Text: "room"}, impl.FilterNode{Text: "room"})[:len(out)]
}

// withRoom is nodes, and what stands in the room behind each list of them.
func withRoom(nodes []impl.FilterNode) []impl.FilterNode {
	all := allCopied(nodes[:len(nodes)+2])
	for at, node := range nodes {
		all[at].Names = slices.Clone(node.Names[:len(node.Names)+2])
		all[at].Keys = slices.Clone(node.Keys[:len(node.Keys)+2])
		all[at].Kids = slices.Clone(node.Kids[:len(node.Kids)+2])
	}
	return all
}

func TestFiltersChangeNothing(t *testing.T) {
	d := dice{state: 1108}
	for at := range 3000 {
		nodes := nodesOf(d.filterBlock(1 + d.below(6)))
		if at%3 == 0 {
			nodes = d.turned(nodes)
		}
		nodes = roomy(nodes)
		before := withRoom(nodes)
		env := d.filterEnv()
		first := impl.RunFilter(nodes, env)
		impl.FilterFault(nodes)
		impl.WriteFilter(nodes)
		if !reflect.DeepEqual(withRoom(nodes), before) {
			t.Fatalf("%s was changed", short(shown(before)))
		}
		// What is written into an answer changes no later one.
		kept := impl.FilterAnswer{Code: first.Code, Steps: first.Steps, Keep: first.Keep, Actions: slices.Clone(first.Actions), Flags: slices.Clone(first.Flags)}
		clear(first.Actions)
		clear(first.Flags)
		if again := impl.RunFilter(nodes, env); !sameAnswers(again, kept) {
			t.Errorf("RunFilter of %s a second time: %s, want %s", short(shown(before)), short(shown(again)), short(shown(kept)))
		}
		for at, action := range kept.Actions {
			if slices.Contains(kept.Actions[:at], action) {
				t.Errorf("%s stands twice", shown(action))
			}
			for _, node := range nodes {
				wantOwnMemory(t, "RunFilter", node.Text, action.Text)
			}
			wantOwnMemory(t, "RunFilter", env.Message, action.Text)
		}
	}
	nodes := impl.ReadFilter(`if header :matches "subject" "*" { fileinto "${1}"; addflag "${0}"; } fileinto "plain"; addflag "simple"; if envelope :matches "from" "*" { redirect "${0}"; }`).Nodes
	got := impl.RunFilter(nodes, plainEnv)
	if len(got.Actions) != 3 || len(got.Flags) != 2 {
		t.Fatalf("RunFilter: %s", shown(got))
	}
	for _, action := range got.Actions {
		wantOwnMemory(t, "RunFilter", plainEnv.Message, action.Text)
		wantOwnMemory(t, "RunFilter", plainEnv.From, action.Text)
		for _, node := range nodes {
			wantOwnMemory(t, "RunFilter", node.Text, append(slices.Clone(got.Flags), action.Text)...)
		}
	}
	wantOwnMemory(t, "RunFilter", plainEnv.Message, got.Flags...)
	script := impl.WriteFilter(nodesOf(block(saying(impl.FlFile, "abc"))))
	wantText(t, "WriteFilter", "", script, `fileinto "abc" ;`)
}
