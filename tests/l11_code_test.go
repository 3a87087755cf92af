package tests

import (
	"math"
	"reflect"
	"slices"
	"strings"
	"testing"

	"loop.example/g00013/impl"
)

const (
	maxCode  = 20000
	maxQuiet = 100000
)

// jumpOps are those that use To, bareOps those that use no Node.
var (
	jumpOps = []int64{impl.OpJump, impl.OpJumpIf, impl.OpJumpNot, impl.OpLoop}
	bareOps = []int64{impl.OpTick, impl.OpJump, impl.OpJumpIf, impl.OpJumpNot, impl.OpLoop, impl.OpEnd}
)

func TestCodeConstants(t *testing.T) {
	ops := []int64{impl.OpTick, impl.OpJump, impl.OpJumpIf, impl.OpJumpNot, impl.OpFlag, impl.OpAct, impl.OpTest, impl.OpCount, impl.OpLoop, impl.OpEnd}
	wantNumbers(t, "instructions", "", ops, []int64{1, 2, 3, 4, 5, 6, 7, 8, 9, 10})
}

// code is a list of instructions.
type code []impl.FilterCode

var (
	tick = impl.FilterCode{Op: impl.OpTick}
	end  = impl.FilterCode{Op: impl.OpEnd}
	loop = impl.FilterCode{Op: impl.OpLoop}
)

func jumpTo(to int64) impl.FilterCode { return impl.FilterCode{Op: impl.OpJump, To: to} }

func ifTo(to int64) impl.FilterCode { return impl.FilterCode{Op: impl.OpJumpIf, To: to} }

func notTo(to int64) impl.FilterCode { return impl.FilterCode{Op: impl.OpJumpNot, To: to} }

func loopTo(to int64) impl.FilterCode { return impl.FilterCode{Op: impl.OpLoop, To: to} }

func flag(number int64) impl.FilterCode {
	return impl.FilterCode{Op: impl.OpFlag, Node: impl.FilterNode{Num: number}}
}

func count(number int64) impl.FilterCode {
	return impl.FilterCode{Op: impl.OpCount, Node: impl.FilterNode{Num: number}}
}

func act(command tree) impl.FilterCode {
	return impl.FilterCode{Op: impl.OpAct, Node: copied(command.node)}
}

func ask(test tree) impl.FilterCode {
	return impl.FilterCode{Op: impl.OpTest, Node: copied(test.node)}
}

func file(text string) tree { return saying(impl.FlFile, text) }

func sameInstruction(a, b impl.FilterCode) bool {
	return a.Op == b.Op && a.To == b.To && sameNode(a.Node, b.Node)
}

func sameCode(a, b code) bool { return slices.EqualFunc(a, b, sameInstruction) }

// leafCommands and leafTests have one of each kind that may stand in an instruction.
func leafCommands() []tree {
	return []tree{keep, drop, file("f"), saying(impl.FlRedirect, "r"), saying(impl.FlReject, "${1}"), saying(impl.FlFlag, ""), setting("a", "b")}
}

func leafTests() []tree {
	return []tree{
		comparison(impl.FlHeader, impl.MatchIs, some("subject", "to"), some("a", "", "c")),
		comparison(impl.FlAddress, impl.MatchContains, some("to"), some("a")),
		comparison(impl.FlEnvelope, impl.MatchMatches, some("from", "to"), some("*")),
		exists("to", "cc"),
		over(0),
		under(maxSize),
		comparison(impl.FlString, impl.MatchMatches, some("${a}"), some("?", "*")),
	}
}

func checkCompiled(t *testing.T, filter tree, want ...impl.FilterCode) {
	t.Helper()
	nodes := nodesOf(filter)
	got := impl.CompileFilter(nodes)
	if !sameCode(got, want) {
		t.Errorf("CompileFilter of %s: %s, want %s", short(slowScript(nodes)), short(shown(got)), short(shown(want)))
	}
	if len(got) > 0 && impl.CodeFault(got) != impl.OK {
		t.Errorf("CodeFault of what is made of %s: %d", short(slowScript(nodes)), impl.CodeFault(got))
	}
	for _, env := range []impl.FilterEnv{{}, plainEnv} {
		checkSameAsCode(t, nodes, env)
	}
}

// checkSameAsCode looks at promise 14.
func checkSameAsCode(t *testing.T, nodes []impl.FilterNode, env impl.FilterEnv) {
	t.Helper()
	got, want := impl.RunCode(impl.CompileFilter(nodes), env), impl.RunFilter(nodes, env)
	if !sameAnswers(got, want) {
		t.Errorf("RunCode of what is made of %s: %s, want %s", short(shown(nodes)), short(shown(got)), short(shown(want)))
	}
}

func TestCompileFilterCommands(t *testing.T) {
	checkCompiled(t, empty, end)
	for _, command := range leafCommands() {
		checkCompiled(t, block(command), tick, act(command), end)
		checkCompiled(t, block(command, keep, command), tick, act(command), tick, act(keep), tick, act(command), end)
		checkCompiled(t, block(repeated(3, command)), tick, count(3), loopTo(6), tick, act(command), jumpTo(2), end)
	}
	checkCompiled(t, block(stop), tick, end, end)
	checkCompiled(t, block(keep, stop, drop), tick, act(keep), tick, end, tick, act(drop), end)
	checkCompiled(t, block(stop, stop), tick, end, tick, end, end)
	checkCompiled(t, block(choice(yes, block(stop)), keep), tick, tick, flag(1), notTo(6), tick, end, tick, act(keep), end)
}

func TestCompileFilterRepeats(t *testing.T) {
	for _, times := range []int64{0, 1, 2, 99, 100} {
		checkCompiled(t, block(repeated(times)), tick, count(times), loopTo(4), jumpTo(2), end)
		checkCompiled(t, block(keep, repeated(times, drop, keep), drop), tick, act(keep), tick, count(times), loopTo(10),
			tick, act(drop), tick, act(keep), jumpTo(4), tick, act(drop), end)
	}
	checkCompiled(t, block(repeated(2, repeated(3))), tick, count(2), loopTo(8), tick, count(3), loopTo(7), jumpTo(5), jumpTo(2), end)
	checkCompiled(t, block(repeated(2, keep, repeated(3, drop), keep)), tick, count(2), loopTo(14), tick, act(keep),
		tick, count(3), loopTo(11), tick, act(drop), jumpTo(7), tick, act(keep), jumpTo(2), end)
	checkCompiled(t, block(repeated(1), repeated(0)), tick, count(1), loopTo(4), jumpTo(2), tick, count(0), loopTo(8), jumpTo(6), end)
	checkCompiled(t, block(repeated(2, stop)), tick, count(2), loopTo(6), tick, end, jumpTo(2), end)
	// In threes, each within the other.
	checkCompiled(t, block(repeated(1, repeated(2, repeated(3, keep)))), tick, count(1), loopTo(14), tick, count(2), loopTo(13),
		tick, count(3), loopTo(12), tick, act(keep), jumpTo(8), jumpTo(5), jumpTo(2), end)
}

func TestCompileFilterChoices(t *testing.T) {
	checkCompiled(t, block(choice(yes, empty)), tick, tick, flag(1), notTo(4), end)
	checkCompiled(t, block(choice(no, block(keep))), tick, tick, flag(0), notTo(6), tick, act(keep), end)
	checkCompiled(t, block(choice(yes, empty, empty)), tick, tick, flag(1), notTo(5), jumpTo(5), end)
	checkCompiled(t, block(choice(yes, block(keep), block(drop))), tick, tick, flag(1), notTo(7), tick, act(keep), jumpTo(9), tick, act(drop), end)
	checkCompiled(t, block(choice(yes, block(keep), empty), stop), tick, tick, flag(1), notTo(7), tick, act(keep), jumpTo(7), tick, end, end)
	checkCompiled(t, block(choice(yes, empty, block(drop)), stop), tick, tick, flag(1), notTo(5), jumpTo(7), tick, act(drop), tick, end, end)
	// elsif is an if that comes else.
	checkCompiled(t, block(choice(no, empty, choice(yes, empty))), tick, tick, flag(0), notTo(5), jumpTo(9), tick, tick, flag(1), notTo(9), end)
	checkCompiled(t, block(choice(no, block(keep), choice(yes, block(drop), block(stop)))), tick, tick, flag(0), notTo(7), tick, act(keep), jumpTo(16),
		tick, tick, flag(1), notTo(14), tick, act(drop), jumpTo(16), tick, end, end)
	checkCompiled(t, block(choice(no, empty, choice(no, empty, choice(no, empty, block(keep)))), drop), tick, tick, flag(0), notTo(5), jumpTo(17),
		tick, tick, flag(0), notTo(10), jumpTo(17), tick, tick, flag(0), notTo(15), jumpTo(17), tick, act(keep), tick, act(drop), end)
	// One within another.
	checkCompiled(t, block(choice(yes, block(choice(no, empty), keep), empty)), tick, tick, flag(1), notTo(11),
		tick, tick, flag(0), notTo(8), tick, act(keep), jumpTo(11), end)
	checkCompiled(t, block(choice(yes, empty), choice(no, empty)), tick, tick, flag(1), notTo(4), tick, tick, flag(0), notTo(8), end)
	checkCompiled(t, block(repeated(4, choice(no, empty))), tick, count(4), loopTo(8), tick, tick, flag(0), notTo(7), jumpTo(2), end)
}

func TestCompileFilterTests(t *testing.T) {
	// What is put for a test stands between these.
	checkTest := func(test tree, want ...impl.FilterCode) {
		t.Helper()
		all := append(code{tick}, want...)
		all = append(all, notTo(int64(len(want))+4), tick, act(drop), end)
		checkCompiled(t, block(choice(test, block(drop))), all...)
	}
	not := func(kid tree) tree { return thing(impl.FlNot, kid) }
	all := func(kids ...tree) tree { return thing(impl.FlAll, kids...) }
	some := func(kids ...tree) tree { return thing(impl.FlAny, kids...) }
	checkTest(yes, tick, flag(1))
	checkTest(no, tick, flag(0))
	for _, test := range leafTests() {
		checkTest(test, tick, ask(test))
		checkTest(not(test), tick, tick, ask(test), ifTo(7), flag(1), jumpTo(8), flag(0))
		checkTest(all(test), tick, tick, ask(test))
		checkTest(some(test, no, test), tick, tick, ask(test), ifTo(10), tick, flag(0), ifTo(10), tick, ask(test))
	}
	checkTest(not(yes), tick, tick, flag(1), ifTo(7), flag(1), jumpTo(8), flag(0))
	checkTest(not(not(no)), tick, tick, tick, flag(0), ifTo(8), flag(1), jumpTo(9), flag(0), ifTo(12), flag(1), jumpTo(13), flag(0))
	checkTest(not(not(not(no))), tick, tick, tick, tick, flag(0), ifTo(9), flag(1), jumpTo(10), flag(0), ifTo(13), flag(1), jumpTo(14), flag(0),
		ifTo(17), flag(1), jumpTo(18), flag(0))
	checkTest(some(no), tick, tick, flag(0))
	checkTest(all(yes, no), tick, tick, flag(1), notTo(7), tick, flag(0))
	checkTest(some(yes, no), tick, tick, flag(1), ifTo(7), tick, flag(0))
	checkTest(all(yes, no, yes), tick, tick, flag(1), notTo(10), tick, flag(0), notTo(10), tick, flag(1))
	checkTest(all(some(yes, no), yes), tick, tick, tick, flag(1), ifTo(8), tick, flag(0), notTo(11), tick, flag(1))
	checkTest(all(yes, some(yes, no)), tick, tick, flag(1), notTo(11), tick, tick, flag(1), ifTo(11), tick, flag(0))
	checkTest(some(all(no), all(no, yes), no), tick, tick, tick, flag(0), ifTo(15), tick, tick, flag(0), notTo(12), tick, flag(1), ifTo(15), tick, flag(0))
	checkTest(all(all(yes, yes), all(no, no)), tick, tick, tick, flag(1), notTo(8), tick, flag(1), notTo(15), tick, tick, flag(0), notTo(15), tick, flag(0))
	checkTest(not(all(yes, no)), tick, tick, tick, flag(1), notTo(8), tick, flag(0), ifTo(11), flag(1), jumpTo(12), flag(0))
	checkTest(some(not(yes), no), tick, tick, tick, flag(1), ifTo(8), flag(1), jumpTo(9), flag(0), ifTo(12), tick, flag(0))
}

// slowCompile makes pieces of code whose places are counted from where the piece begins.
func slowCompile(nodes []impl.FilterNode, at int64) code {
	node := nodes[at]
	var kids []code
	for _, kid := range node.Kids {
		kids = append(kids, slowCompile(nodes, kid))
	}
	leaf := copied(node)
	leaf.Kids = nil
	switch node.Kind {
	case impl.FlBlock:
		return joined(kids...)
	case impl.FlIf:
		over := int64(1 + len(kids[1]))
		if len(kids) == 2 {
			return joined(code{tick}, kids[0], code{notTo(over)}, kids[1])
		}
		return joined(code{tick}, kids[0], code{notTo(over + 1)}, kids[1], code{jumpTo(int64(1 + len(kids[2])))}, kids[2])
	case impl.FlRepeat:
		back := code{loopTo(int64(len(kids[0]) + 2))}
		back = append(back, moved(kids[0], 1)...)
		return joined(code{tick, count(node.Num)}, append(back, jumpTo(0)))
	case impl.FlStop:
		return code{tick, end}
	case impl.FlTrue:
		return code{tick, flag(1)}
	case impl.FlFalse:
		return code{tick, flag(0)}
	case impl.FlNot:
		return joined(code{tick}, kids[0], code{ifTo(3), flag(1), jumpTo(4), flag(0)})
	case impl.FlAll, impl.FlAny:
		return joined(code{tick}, slowEnds(node.Kind, kids))
	}
	if node.Kind < impl.FlTrue {
		return code{tick, {Op: impl.OpAct, Node: leaf}}
	}
	return code{tick, {Op: impl.OpTest, Node: leaf}}
}

// slowEnds is tests with jumps between them that lead behind the last.
func slowEnds(kind int64, kids []code) code {
	size := len(kids) - 1
	for _, kid := range kids {
		size += len(kid)
	}
	var out code
	for at, kid := range kids {
		if at > 0 && kind == impl.FlAll {
			out = append(out, notTo(int64(size)))
		} else if at > 0 {
			out = append(out, ifTo(int64(size)))
		}
		out = append(out, moved(kid, len(out))...)
	}
	return out
}

// moved is a piece that begins at a place.
func moved(piece code, by int) code {
	piece = slices.Clone(piece)
	for at := range piece {
		if slices.Contains(jumpOps, piece[at].Op) {
			piece[at].To += int64(by)
		}
	}
	return piece
}

func joined(pieces ...code) (out code) {
	for _, piece := range pieces {
		out = append(out, moved(piece, len(out))...)
	}
	return out
}

// Promise 14, and what a code is made of.
func TestCompileFilterOfAnyFilters(t *testing.T) {
	d := dice{state: 1201}
	looped := 0
	for at := range 6000 {
		filter := d.filterBlock(1 + d.below(9))
		if at%20 == 0 {
			filter = block(setting("long", xs(300)), repeated(100, repeated(int64(d.below(40)), d.filterBlock(1+d.below(6)).kids...)))
		}
		nodes, env := nodesOf(filter), d.filterEnv()
		got, want := impl.CompileFilter(nodes), joined(slowCompile(nodes, int64(len(nodes)-1)), code{end})
		if !sameCode(got, want) {
			t.Fatalf("CompileFilter of %s: %s, want %s", short(slowScript(nodes)), short(shown(got)), short(shown(want)))
		}
		if impl.CodeFault(got) != impl.OK {
			t.Errorf("CodeFault of %s: %d", short(shown(got)), impl.CodeFault(got))
		}
		checkSameAsCode(t, nodes, env)
		if slow := slowRun(nodes, env); !sameAnswers(impl.RunCode(got, env), slow) {
			t.Errorf("RunCode of what is made of %s with %s: %s, want %s", short(slowScript(nodes)), shown(env), short(shown(impl.RunCode(got, env))), short(shown(slow)))
		}
		if impl.RunCode(got, env).Code == impl.ErrLoop {
			looped++
		}
	}
	if looped < 25 {
		t.Errorf("only %d went round", looped)
	}
}

func TestCompileFilterFaults(t *testing.T) {
	checkNone := func(nodes []impl.FilterNode) {
		t.Helper()
		if got := impl.CompileFilter(nodes); len(got) != 0 {
			t.Errorf("CompileFilter of %s: %s", short(shown(nodes)), short(shown(got)))
		}
		for _, env := range someEnvs {
			checkSameAsCode(t, nodes, env)
		}
	}
	checkNone(nil)
	checkNone([]impl.FilterNode{})
	checkNone([]impl.FilterNode{{}})
	checkNone(nodesOf(keep))
	checkNone(nodesOf(yes))
	checkNone(nodesOf(block(yes)))
	checkNone(nodesOf(block(choice(keep, empty))))
	checkNone(nodesOf(block(choice(yes))))
	checkNone(nodesOf(block(repeated(101))))
	checkNone(nodesOf(block(repeated(-1))))
	checkNone(nodesOf(block(file(xs(maxVarBytes + 1)))))
	checkNone(nodesOf(block(file(xs(maxText + 1)))))
	checkNone(nodesOf(block(slices.Repeat([]tree{keep}, maxFilterNodes)...)))
	checkNone([]impl.FilterNode{{Kind: impl.FlBlock, Kids: []int64{0}}})
	checkNone([]impl.FilterNode{{Kind: impl.FlBlock, Kids: []int64{1}}})
	checkNone([]impl.FilterNode{{Kind: impl.FlBlock, Kids: []int64{-1}}})
	checkNone([]impl.FilterNode{{Kind: impl.FlBlock}, {Kind: impl.FlBlock}})
	d := dice{state: 1202}
	faults := 0
	for range 10000 {
		nodes := d.turned(nodesOf(d.filterBlock(1 + d.below(5))))
		if impl.FilterFault(nodes) != impl.OK {
			faults++
			checkNone(nodes)
		} else if len(impl.CompileFilter(nodes)) == 0 {
			t.Errorf("CompileFilter of %s: nothing", short(shown(nodes)))
		}
	}
	if faults < 3000 {
		t.Errorf("only %d faults", faults)
	}
}

// Even the filter of the most instructions is a code.
func TestCompileFilterGreat(t *testing.T) {
	nots := yes
	for range maxFilterDeep - 4 {
		nots = thing(impl.FlNot, nots)
	}
	many := thing(impl.FlAny)
	for range (maxFilterNodes - 4) / (maxFilterDeep - 3) {
		many.kids = append(many.kids, nots)
	}
	for _, filter := range []tree{
		block(slices.Repeat([]tree{keep}, maxFilterNodes-1)...),
		block(slices.Repeat([]tree{repeated(100)}, (maxFilterNodes-1)/2)...),
		block(slices.Repeat([]tree{choice(no, empty, empty)}, (maxFilterNodes-1)/4)...),
		block(choice(many, empty)),
		block(choice(thing(impl.FlAll, slices.Repeat([]tree{yes}, maxFilterNodes-4)...), empty)),
	} {
		nodes := nodesOf(filter)
		if impl.FilterFault(nodes) != impl.OK || len(nodes) < maxFilterNodes-maxFilterDeep {
			t.Fatalf("a fault in %d nodes", len(nodes))
		}
		got := impl.CompileFilter(nodes)
		if !sameCode(got, joined(slowCompile(nodes, int64(len(nodes)-1)), code{end})) {
			t.Errorf("CompileFilter of %s: %s", short(slowScript(nodes)), short(shown(got)))
		}
		if impl.CodeFault(got) != impl.OK {
			t.Errorf("CodeFault of %d instructions: %d", len(got), impl.CodeFault(got))
		}
		checkSameAsCode(t, nodes, plainEnv)
	}
}

func TestCompileFilterDeep(t *testing.T) {
	// As many repeats as can be within one another.
	for deep := range maxFilterDeep/2 + 1 {
		filter := block()
		for range deep {
			filter = block(repeated(2, filter.kids...))
		}
		nodes := nodesOf(filter)
		if impl.FilterFault(nodes) != impl.OK && deep < 10 {
			t.Fatalf("a fault in %d repeats", deep)
		}
		checkSameAsCode(t, nodes, plainEnv)
	}
	for size := range maxFilterDeep {
		_, test := deepTests(size + 1)
		checkSameAsCode(t, nodesOf(oneTest(test)), plainEnv)
	}
}

// Promise 14 at environments of any size.
func TestCodeOfAnyEnvironment(t *testing.T) {
	filters := []tree{empty, block(keep), block(drop), block(file("${0}")), block(choice(comparison(impl.FlEnvelope, impl.MatchMatches, some("from", "to"), some("*x")), block(file("${1}"))))}
	for _, test := range leafTests() {
		filters = append(filters, block(choice(test, block(file("yes"), file("${0}")), block(file("no")))))
	}
	head := "Subject: x\r\nTo: ann@a\r\n\r\n"
	for _, filter := range filters {
		for _, size := range []int{0, 1, 999, 1000, 1001, maxText, maxText + 1} {
			checkSameAsCode(t, nodesOf(filter), impl.FilterEnv{From: xs(size)})
			checkSameAsCode(t, nodesOf(filter), impl.FilterEnv{To: xs(size)})
			checkSameAsCode(t, nodesOf(filter), impl.FilterEnv{Message: xs(size)})
			checkSameAsCode(t, nodesOf(filter), impl.FilterEnv{From: "a", To: "b", Message: head + xs(max(0, size-len(head)))})
		}
		checkSameAsCode(t, nodesOf(filter), impl.FilterEnv{From: xs(1001), To: xs(1001), Message: xs(maxText + 1)})
		checkSameAsCode(t, nodesOf(filter), impl.FilterEnv{From: "\x00\xff", To: "\r\n", Message: "\x80"})
	}
}

func TestCompileFilterMemory(t *testing.T) {
	filter := block(leafCommands()...)
	for _, test := range leafTests() {
		filter.kids = append(filter.kids, choice(test, empty))
	}
	nodes := roomy(nodesOf(filter))
	before := withRoom(nodes)
	got := impl.CompileFilter(nodes)
	kept := joined(slowCompile(nodes, int64(len(nodes)-1)), code{end})
	for _, one := range got {
		for _, node := range nodes {
			for _, given := range append(append(some(node.Text), node.Names...), node.Keys...) {
				wantOwnMemory(t, "CompileFilter", given, one.Node.Text)
				wantOwnMemory(t, "CompileFilter", given, one.Node.Names...)
				wantOwnMemory(t, "CompileFilter", given, one.Node.Keys...)
			}
		}
	}
	for at := range got {
		_ = append(got[at].Node.Names, "other")
		_ = append(got[at].Node.Keys, "other")
		_ = append(got[at].Node.Kids, -7)
	}
	if !sameCode(got, kept) || !reflect.DeepEqual(withRoom(nodes), before) {
		t.Errorf("lists of the answer share memory: %s", short(shown(got)))
	}
	for at := range got {
		clear(got[at].Node.Names)
		clear(got[at].Node.Keys)
		got[at] = impl.FilterCode{}
		if !sameCode(got[at+1:], kept[at+1:]) {
			t.Errorf("instruction %d shares memory with a later one", at)
		}
	}
	if !reflect.DeepEqual(withRoom(nodes), before) {
		t.Errorf("the nodes share memory with the answer")
	}
	if again := impl.CompileFilter(nodes); !sameCode(again, kept) {
		t.Errorf("CompileFilter a second time: %s", short(shown(again)))
	}
}

// someEnvs are two that are right, and two that are too large.
var someEnvs = []impl.FilterEnv{{}, plainEnv, {From: xs(1001)}, {Message: xs(maxText + 1)}}

func checkCodeFault(t *testing.T, given code, want int64) {
	t.Helper()
	if got := impl.CodeFault(given); got != want {
		t.Errorf("CodeFault of %s: %d, want %d", short(shown(given)), got, want)
	}
	if want == impl.OK {
		return
	}
	for _, env := range someEnvs {
		if got := impl.RunCode(given, env); !sameAnswers(got, impl.FilterAnswer{Code: impl.ErrForm}) {
			t.Errorf("RunCode of %s: %s", short(shown(given)), short(shown(got)))
		}
	}
}

func TestCodeFaultSizes(t *testing.T) {
	checkCodeFault(t, nil, impl.ErrForm)
	checkCodeFault(t, code{}, impl.ErrForm)
	checkCodeFault(t, code{end}, impl.OK)
	for _, one := range (code{tick, end, flag(1), count(100), jumpTo(5), act(keep), ask(over(1))}) {
		checkCodeFault(t, append(slices.Repeat(code{one}, maxCode-2), end), impl.OK)
		checkCodeFault(t, append(slices.Repeat(code{one}, maxCode-1), end), impl.OK)
		checkCodeFault(t, append(slices.Repeat(code{one}, maxCode), end), impl.ErrForm)
		checkCodeFault(t, append(slices.Repeat(code{one}, 2*maxCode), end), impl.ErrForm)
	}
	// The last place that there is can be gone to.
	long := append(slices.Repeat(code{tick}, maxCode-1), jumpTo(maxCode-1))
	checkCodeFault(t, long, impl.OK)
	long[maxCode-1].To++
	checkCodeFault(t, long, impl.ErrForm)
}

// rightOf is an instruction of an Op that may stand ahead of another one.
func rightOf(op int64) impl.FilterCode {
	switch op {
	case impl.OpAct:
		return act(keep)
	case impl.OpTest:
		return ask(over(1))
	}
	return impl.FilterCode{Op: op}
}

func TestCodeFaultOps(t *testing.T) {
	for op := int64(-3); op < 300; op++ {
		want := int64(impl.ErrForm)
		if 1 <= op && op <= 10 {
			want = impl.OK
		}
		checkCodeFault(t, code{rightOf(op), end}, want)
		checkCodeFault(t, code{tick, rightOf(op), end}, want)
		// As the last one only two may stand.
		if op != impl.OpJump && op != impl.OpEnd {
			want = impl.ErrForm
		}
		checkCodeFault(t, code{rightOf(op)}, want)
		checkCodeFault(t, code{end, rightOf(op)}, want)
		checkCodeFault(t, code{tick, jumpTo(0), rightOf(op)}, want)
	}
	for _, op := range []int64{math.MinInt64, math.MaxInt64, 1 << 32, 1<<32 + 1, 1<<8 + 1} {
		checkCodeFault(t, code{{Op: op}, end}, impl.ErrForm)
		checkCodeFault(t, code{{Op: op}}, impl.ErrForm)
	}
}

func TestCodeFaultPlaces(t *testing.T) {
	for op := int64(impl.OpTick); op <= impl.OpEnd; op++ {
		for size := 1; size < 5; size++ {
			for _, to := range []int64{-1, 0, 1, int64(size) - 1, int64(size), int64(size) + 1, math.MinInt64, math.MaxInt64, 1 << 32} {
				for at := range size {
					given := append(slices.Repeat(code{tick}, size-1), end)
					given[at] = rightOf(op)
					given[at].To = to
					right := to == 0
					if slices.Contains(jumpOps, op) {
						right = 0 <= to && to < int64(size)
					}
					if at == size-1 && op != impl.OpEnd && op != impl.OpJump {
						right = false
					}
					want := int64(impl.ErrForm)
					if right {
						want = impl.OK
					}
					checkCodeFault(t, given, want)
				}
			}
		}
	}
}

func TestCodeFaultUnusedNodes(t *testing.T) {
	whole := []impl.FilterNode{{Kind: 1}, {Kind: -1}, {Num: 1}, {Num: -1}, {Match: 1}, {Match: -1}, {Text: "a"}, {Names: some("")}, {Keys: some("")}, {Kids: []int64{0}}}
	for kind := range int64(40) {
		whole = append(whole, impl.FilterNode{Kind: kind + 1})
	}
	for _, leaf := range append(leafCommands(), leafTests()...) {
		whole = append(whole, leaf.node)
	}
	for _, op := range bareOps {
		checkCodeFault(t, code{{Op: op, Node: impl.FilterNode{Names: some(), Keys: some(), Kids: []int64{}}}, end}, impl.OK)
		for _, node := range whole {
			checkCodeFault(t, code{{Op: op, Node: node}, end}, impl.ErrForm)
			checkCodeFault(t, code{tick, {Op: op, Node: node}, jumpTo(0)}, impl.ErrForm)
		}
	}
	for _, node := range whole {
		checkCodeFault(t, code{{Op: impl.OpEnd, Node: node}}, impl.ErrForm)
		checkCodeFault(t, code{tick, {Op: impl.OpJump, Node: node}}, impl.ErrForm)
		if node.Num == 0 {
			node.Num = 1
			checkCodeFault(t, code{{Op: impl.OpFlag, Node: node}, end}, impl.ErrForm)
			checkCodeFault(t, code{{Op: impl.OpCount, Node: node}, end}, impl.ErrForm)
			node.Num = 0
			checkCodeFault(t, code{{Op: impl.OpFlag, Node: node}, end}, impl.ErrForm)
			checkCodeFault(t, code{{Op: impl.OpCount, Node: node}, end}, impl.ErrForm)
		}
	}
}

func TestCodeFaultNumbers(t *testing.T) {
	for _, number := range []int64{math.MinInt64, -100, -2, -1, 0, 1, 2, 3, 50, 99, 100, 101, 102, 1 << 32, 1<<32 + 1, math.MaxInt64} {
		want := int64(impl.ErrForm)
		if number == 0 || number == 1 {
			want = impl.OK
		}
		checkCodeFault(t, code{flag(number), end}, want)
		want = impl.ErrForm
		if 0 <= number && number <= 100 {
			want = impl.OK
		}
		checkCodeFault(t, code{count(number), end}, want)
		want = impl.ErrForm
		if 0 <= number && number <= maxSize {
			want = impl.OK
		}
		checkCodeFault(t, code{ask(over(number)), end}, want)
		checkCodeFault(t, code{ask(under(number)), end}, want)
	}
}

// nodeForms are a node's fields turned to both ends of their bounds and beyond.
func nodeForms(node impl.FilterNode) (forms []impl.FilterNode) {
	for _, number := range []int64{math.MinInt64, -1, 0, 1, 100, 101, maxSize, maxSize + 1, math.MaxInt64} {
		form := copied(node)
		form.Num = number
		forms = append(forms, form)
	}
	for _, match := range []int64{math.MinInt64, -1, 0, 1, 2, 3, math.MaxInt64} {
		form := copied(node)
		form.Match = match
		forms = append(forms, form)
	}
	texts := some("", "a", "A", "1", "a b", strings.Repeat("z", 20), strings.Repeat("a", 21), "\x00\xff\r\n", xs(maxVarBytes), xs(maxVarBytes+1), xs(maxText+1))
	for _, text := range texts {
		form := copied(node)
		form.Text = text
		one, two, key := copied(node), copied(node), copied(node)
		one.Names, two.Names, key.Keys = some(text), some("a", text), some("a", text, "b")
		forms = append(forms, form, one, two, key)
	}
	for _, size := range []int{0, 1, 2, maxTexts, maxTexts + 1} {
		names, keys, both := copied(node), copied(node), copied(node)
		names.Names = slices.Repeat(some("a"), size)
		keys.Keys = slices.Repeat(some("a"), size)
		both.Names, both.Keys = names.Names, keys.Keys
		forms = append(forms, names, keys, both)
	}
	for _, kids := range [][]int64{{}, {0}, {1}, {-1}, {0, 0}} {
		form := copied(node)
		form.Kids = kids
		forms = append(forms, form)
	}
	return forms
}

func TestCodeFaultNodes(t *testing.T) {
	acts := []int64{4, 5, 7, 8, 9, 10, 11}
	asks := []int64{25, 26, 27, 28, 29, 30, 31}
	right := 0
	nodes := []impl.FilterNode{{}}
	for _, leaf := range append(leafCommands(), leafTests()...) {
		nodes = append(nodes, leaf.node)
	}
	for _, node := range nodes {
		for kind := int64(-1); kind < 35; kind++ {
			node.Kind = kind
			for _, form := range nodeForms(node) {
				// A filter that has this node, and nothing else that may be ill.
				of := int64(impl.ErrForm)
				if slices.Contains(acts, kind) && len(form.Kids) == 0 {
					of = impl.FilterFault([]impl.FilterNode{form, {Kind: impl.FlBlock, Kids: []int64{0}}})
				}
				checkCodeFault(t, code{{Op: impl.OpAct, Node: form}, end}, of)
				if of == impl.OK {
					right++
				}
				of = impl.ErrForm
				if slices.Contains(asks, kind) && len(form.Kids) == 0 {
					of = impl.FilterFault([]impl.FilterNode{form, {Kind: impl.FlBlock}, {Kind: impl.FlIf, Kids: []int64{0, 1}}, {Kind: impl.FlBlock, Kids: []int64{2}}})
				}
				checkCodeFault(t, code{{Op: impl.OpTest, Node: form}, end}, of)
				if of == impl.OK {
					right++
				}
			}
		}
	}
	if right < 500 {
		t.Errorf("only %d were right", right)
	}
}

func TestCodeFaultNodeBounds(t *testing.T) {
	twice := func(one impl.FilterCode, want int64) {
		t.Helper()
		checkCodeFault(t, code{one, end}, want)
		checkCodeFault(t, code{tick, end, one, jumpTo(1)}, want)
	}
	for _, kind := range []int64{impl.FlFile, impl.FlRedirect, impl.FlReject, impl.FlFlag} {
		twice(act(saying(kind, "")), impl.OK)
		twice(act(saying(kind, xs(maxVarBytes))), impl.OK)
		twice(act(saying(kind, xs(maxVarBytes+1))), impl.ErrForm)
		twice(act(saying(kind, xs(maxText+1))), impl.ErrForm)
		twice(ask(saying(kind, "a")), impl.ErrForm)
	}
	twice(act(setting("a", xs(maxVarBytes))), impl.OK)
	twice(act(setting("a", xs(maxVarBytes+1))), impl.ErrForm)
	twice(act(setting(strings.Repeat("z", 20), "")), impl.OK)
	twice(act(setting(strings.Repeat("z", 21), "")), impl.ErrForm)
	twice(act(setting("", "")), impl.ErrForm)
	twice(act(setting("A", "")), impl.ErrForm)
	twice(act(tree{node: impl.FilterNode{Kind: impl.FlSet, Text: "a"}}), impl.ErrForm)
	twice(act(tree{node: impl.FilterNode{Kind: impl.FlSet, Names: some("a", "b")}}), impl.ErrForm)
	for _, kind := range []int64{impl.FlHeader, impl.FlAddress, impl.FlEnvelope, impl.FlString} {
		for match := int64(-1); match < 4; match++ {
			want := int64(impl.ErrForm)
			if 0 <= match && match <= 2 {
				want = impl.OK
			}
			twice(ask(comparison(kind, match, some("a"), some("b"))), want)
		}
		twice(ask(comparison(kind, 0, slices.Repeat(some("a"), maxTexts), slices.Repeat(some("a"), maxTexts))), impl.OK)
		twice(ask(comparison(kind, 0, slices.Repeat(some("a"), maxTexts+1), some("b"))), impl.ErrForm)
		twice(ask(comparison(kind, 0, some("b"), slices.Repeat(some("a"), maxTexts+1))), impl.ErrForm)
		twice(ask(comparison(kind, 0, nil, some("b"))), impl.ErrForm)
		twice(ask(comparison(kind, 0, some("b"), nil)), impl.ErrForm)
		twice(ask(comparison(kind, 0, some(xs(maxVarBytes)), some(xs(maxVarBytes)))), impl.OK)
		twice(ask(comparison(kind, 0, some("a", xs(maxVarBytes+1)), some("a"))), impl.ErrForm)
		twice(ask(comparison(kind, 0, some("a"), some("a", xs(maxVarBytes+1)))), impl.ErrForm)
		twice(act(comparison(kind, 0, some("a"), some("a"))), impl.ErrForm)
	}
	twice(ask(exists(slices.Repeat(some("a"), maxTexts)...)), impl.OK)
	twice(ask(exists(slices.Repeat(some("a"), maxTexts+1)...)), impl.ErrForm)
	twice(ask(exists()), impl.ErrForm)
	twice(ask(over(maxSize)), impl.OK)
	twice(ask(under(maxSize+1)), impl.ErrForm)
	for _, leaf := range leafCommands() {
		twice(act(leaf), impl.OK)
		twice(ask(leaf), impl.ErrForm)
		one := act(leaf)
		one.Node.Kids = []int64{0}
		twice(one, impl.ErrForm)
	}
	for _, leaf := range leafTests() {
		twice(ask(leaf), impl.OK)
		twice(act(leaf), impl.ErrForm)
		one := ask(leaf)
		one.Node.Kids = []int64{0}
		twice(one, impl.ErrForm)
	}
	for _, kind := range []int64{0, impl.FlBlock, impl.FlIf, impl.FlRepeat, impl.FlStop, 12, 19, impl.FlTrue, impl.FlFalse, impl.FlNot, impl.FlAll, impl.FlAny, 32, -1} {
		twice(act(thing(kind)), impl.ErrForm)
		twice(ask(thing(kind)), impl.ErrForm)
	}
}

func checkCode(t *testing.T, given code, env impl.FilterEnv, want impl.FilterAnswer) {
	t.Helper()
	if impl.CodeFault(given) != impl.OK {
		t.Errorf("CodeFault of %s: %d", short(shown(given)), impl.CodeFault(given))
	}
	if got := impl.RunCode(given, env); !sameAnswers(got, want) {
		t.Errorf("RunCode of %s: %s, want %s", short(shown(given)), short(shown(got)), short(shown(want)))
	}
}

// checkFiled looks at which files a code names, and at how many steps it takes.
func checkFiled(t *testing.T, given code, steps int64, texts ...string) {
	t.Helper()
	checkCode(t, given, plainEnv, impl.FilterAnswer{Steps: steps, Keep: len(texts) == 0, Actions: files(texts...)})
}

func checkNotNow(t *testing.T, given code) {
	t.Helper()
	checkCode(t, given, plainEnv, impl.FilterAnswer{Code: impl.ErrState})
}

func TestRunCodeActs(t *testing.T) {
	checkFiled(t, code{end}, 0)
	checkFiled(t, code{tick, end}, 1)
	checkFiled(t, code{act(file("a")), end}, 0, "a")
	checkFiled(t, code{act(file("a")), act(file("b")), act(file("a")), tick, end}, 1, "a", "b")
	// The truth hangs on no act, and acts on no truth.
	checkFiled(t, code{flag(1), act(file("a")), notTo(4), act(file("b")), end}, 0, "a", "b")
	checkFiled(t, code{act(setting("a", "x")), act(file("${a}")), act(setting("a", "y")), act(file("${a}")), end}, 0, "x", "y")
	for kind, want := range map[int64]bool{impl.FlKeep: true, impl.FlDiscard: false} {
		checkCode(t, code{act(thing(kind)), end}, plainEnv, impl.FilterAnswer{Keep: want})
		checkCode(t, code{act(file("a")), act(thing(kind)), tick, end}, plainEnv, impl.FilterAnswer{Steps: 1, Keep: want, Actions: files("a")})
	}
	checkCode(t, code{act(saying(impl.FlFlag, "f")), act(saying(impl.FlRedirect, "r")), act(saying(impl.FlReject, "j")), end}, plainEnv,
		impl.FilterAnswer{Actions: []impl.FilterAction{{Kind: impl.FlRedirect, Text: "r"}, {Kind: impl.FlReject, Text: "j"}}, Flags: some("f")})
	var many code
	for _, text := range rows(maxActions + 3) {
		many = append(many, act(file(text)))
	}
	checkFiled(t, append(many, end), 0, rows(maxActions)...)
}

func TestRunCodeTests(t *testing.T) {
	for _, test := range leafTests() {
		for _, env := range []impl.FilterEnv{{}, plainEnv, {Message: "To: a\r\nCc: b\r\n\r\n"}} {
			want := impl.RunFilter(nodesOf(block(choice(test, block(file("a"), file("${0}")), block(file("b"))))), env)
			want.Steps = 0
			checkCode(t, code{ask(test), notTo(5), act(file("a")), act(file("${0}")), end, act(file("b")), end}, env, want)
			checkCode(t, code{flag(1), ask(test), notTo(6), act(file("a")), act(file("${0}")), end, act(file("b")), end}, env, want)
		}
	}
	checkFiled(t, code{ask(comparison(impl.FlHeader, impl.MatchMatches, some("subject"), some("buy *"))), act(file("${1}")), end}, 0, "now")
}

func TestRunCodeJumps(t *testing.T) {
	// The truth is false at first.
	checkFiled(t, code{ifTo(2), act(file("a")), end}, 0, "a")
	checkFiled(t, code{notTo(2), act(file("a")), end}, 0)
	checkFiled(t, code{flag(0), ifTo(3), act(file("a")), end}, 0, "a")
	checkFiled(t, code{flag(0), notTo(3), act(file("a")), end}, 0)
	checkFiled(t, code{flag(1), ifTo(3), act(file("a")), end}, 0)
	checkFiled(t, code{flag(1), notTo(3), act(file("a")), end}, 0, "a")
	checkFiled(t, code{flag(1), flag(0), ifTo(4), act(file("a")), end}, 0, "a")
	checkFiled(t, code{flag(1), jumpTo(3), act(file("a")), notTo(5), act(file("b")), end}, 0, "b")
	checkFiled(t, code{jumpTo(2), act(file("a")), end}, 0)
	checkFiled(t, code{jumpTo(1), end}, 0)
	checkFiled(t, code{flag(1), ifTo(2), notTo(3), jumpTo(4), end}, 0)
	// Back and forth.
	checkFiled(t, code{jumpTo(4), act(file("b")), tick, jumpTo(7), act(file("a")), tick, jumpTo(1), act(file("c")), end}, 2, "a", "b", "c")
	checkFiled(t, code{ifTo(4), act(file("a")), flag(1), jumpTo(0), act(file("b")), end}, 0, "a", "b")
	checkFiled(t, code{tick, flag(1), jumpTo(4), end, jumpTo(3)}, 1)
	checkFiled(t, code{jumpTo(2), end, jumpTo(1)}, 0)
	// A test whose truth is turned by what it files.
	checkFiled(t, code{ask(comparison(impl.FlString, impl.MatchIs, some("${a}"), some("xxx"))), ifTo(5), act(setting("a", "${a}x")), tick, jumpTo(0), act(file("${a}")), end}, 3, "xxx")
}

func TestRunCodeEnds(t *testing.T) {
	checkFiled(t, code{end, act(file("a")), end}, 0)
	checkFiled(t, code{act(file("a")), end, act(file("b")), end}, 0, "a")
	checkFiled(t, code{tick, end, tick, end}, 1)
	checkFiled(t, code{count(5), loopTo(4), end, jumpTo(1), tick, end}, 0)
	checkFiled(t, code{count(3), end, jumpTo(0)}, 0)
	checkFiled(t, code{jumpTo(3), act(file("a")), end, act(file("b")), jumpTo(1)}, 0, "b", "a")
	checkFiled(t, code{end, jumpTo(0)}, 0)
}

func TestRunCodeCounts(t *testing.T) {
	for _, times := range []int64{0, 1, 2, 99, 100} {
		checkFiled(t, code{count(times), loopTo(4), tick, jumpTo(1), end}, times)
	}
	// The count that is on top counts; below it the others stay.
	checkFiled(t, code{count(3), loopTo(7), count(4), loopTo(6), tick, jumpTo(3), jumpTo(1), end}, 12)
	checkFiled(t, code{count(2), count(5), loopTo(5), tick, jumpTo(2), loopTo(8), tick, jumpTo(5), end}, 7)
	checkFiled(t, code{count(1), count(0), loopTo(3), loopTo(5), jumpTo(3), end}, 0)
	// Where a count is gone, the one that was put before it is next.
	checkNotNow(t, code{count(0), loopTo(2), loopTo(3), end})
	checkNotNow(t, code{count(1), loopTo(3), jumpTo(1), loopTo(4), end})
	checkNotNow(t, code{count(0), loopTo(1), end})
	checkNotNow(t, code{loopTo(1), end})
	checkNotNow(t, code{loopTo(0), end})
	checkNotNow(t, code{tick, act(file("a")), act(saying(impl.FlFlag, "f")), loopTo(4), end})
	// The way that is not gone needs no count.
	checkFiled(t, code{jumpTo(2), loop, end}, 0)
	// An OpLoop that does not leave goes on behind itself, wherever To is.
	checkFiled(t, code{count(2), loopTo(0), tick, end}, 1)
	checkFiled(t, code{count(0), loopTo(4), tick, end, act(file("a")), end}, 0, "a")
	checkFiled(t, code{count(1), loopTo(4), act(file("b")), end, act(file("a")), end}, 0, "b")
}

func TestRunCodeManyCounts(t *testing.T) {
	for _, number := range []int64{0, 1, 100} {
		counts := slices.Repeat(code{count(number)}, maxFilterDeep)
		checkFiled(t, append(slices.Clone(counts), tick, end), 1)
		checkNotNow(t, append(slices.Clone(counts), count(number), end))
		checkNotNow(t, append(slices.Clone(counts), act(file("a")), tick, count(number), end))
		checkFiled(t, append(slices.Clone(counts[1:]), tick, end), 1)
		checkNotNow(t, append(slices.Repeat(counts, 2), end))
	}
	// Behind one that is gone there is room for another one.
	room := slices.Repeat(code{count(0)}, maxFilterDeep)
	checkFiled(t, append(slices.Clone(room), loopTo(maxFilterDeep+1), count(1), tick, end), 1)
	checkNotNow(t, append(slices.Clone(room), loopTo(maxFilterDeep+1), count(1), count(1), end))
	// Each of them counts on its own: as they go, all that were put are taken.
	down := slices.Clone(room)
	for range maxFilterDeep {
		down = append(down, loopTo(int64(len(down)+1)))
	}
	checkFiled(t, append(slices.Clone(down), tick, end), 1)
	checkNotNow(t, append(slices.Clone(down), loopTo(0), end))
	// Put in a circle.
	checkNotNow(t, code{count(5), jumpTo(0)})
	checkNotNow(t, code{tick, count(5), jumpTo(0)})
	checkFiled(t, code{count(5), loopTo(5), jumpTo(4), end, end, end}, 0)
}

func TestRunCodeSteps(t *testing.T) {
	tooMany := impl.FilterAnswer{Code: impl.ErrLoop, Steps: maxFilterSteps, Keep: true}
	for _, size := range []int{0, 1, 2, maxFilterSteps - 1, maxFilterSteps} {
		checkFiled(t, append(slices.Repeat(code{tick}, size), end), int64(size))
		checkFiled(t, append(slices.Repeat(code{tick}, size), act(file("a")), end), int64(size), "a")
	}
	for _, size := range []int{maxFilterSteps + 1, maxFilterSteps + 2, 3 * maxFilterSteps} {
		checkCode(t, append(slices.Repeat(code{tick}, size), end), plainEnv, tooMany)
		checkCode(t, append(code{act(drop), act(file("a")), act(saying(impl.FlFlag, "f"))}, append(slices.Repeat(code{tick}, size), end)...), plainEnv, tooMany)
	}
	checkCode(t, code{tick, jumpTo(0)}, plainEnv, tooMany)
	checkCode(t, code{act(file("a")), act(drop), tick, jumpTo(0)}, plainEnv, tooMany)
	// What comes first is told.
	checkCode(t, append(slices.Repeat(code{tick}, maxFilterSteps+1), loopTo(0), end), plainEnv, tooMany)
	checkNotNow(t, append(slices.Repeat(code{tick}, maxFilterSteps), loopTo(0), tick, end))
	checkFiled(t, code{count(100), loopTo(7), count(49), loopTo(6), tick, jumpTo(3), jumpTo(1), end}, 4900)
	checkFiled(t, code{count(100), loopTo(7), count(50), loopTo(6), tick, jumpTo(3), jumpTo(1), end}, 5000)
	checkCode(t, code{count(100), loopTo(7), count(50), loopTo(6), tick, jumpTo(3), jumpTo(1), tick, end}, plainEnv, tooMany)
}

// quiet is a code that begins at a place and does so many instructions, no OpTick among them.
func quiet(at, size int) code {
	const times = 9
	inner := (size-2)/times - 2
	if inner < 0 {
		return slices.Repeat(code{flag(1)}, size)
	}
	out := append(code{count(times), loopTo(int64(at + inner + 3))}, slices.Repeat(code{flag(0)}, inner)...)
	out = append(out, jumpTo(int64(at+1)))
	return append(out, slices.Repeat(code{flag(1)}, size-2-times*(inner+2))...)
}

func TestRunCodeQuiet(t *testing.T) {
	for _, size := range []int{0, 1, 30, 1000, maxQuiet - 2, maxQuiet - 1} {
		checkFiled(t, append(quiet(0, size), tick, end), 1)
		checkFiled(t, append(append(code{tick}, quiet(1, size)...), tick, act(file("a")), end), 2, "a")
	}
	for _, size := range []int{maxQuiet, maxQuiet + 1, maxQuiet + 1000} {
		checkNotNow(t, append(quiet(0, size), tick, end))
		checkNotNow(t, append(append(code{tick}, quiet(1, size)...), tick, end))
		checkNotNow(t, append(append(code{act(drop), tick, act(file("a"))}, quiet(3, size-1)...), tick, end))
	}
	// The end is an instruction as well.
	checkFiled(t, append(quiet(0, maxQuiet-2), end), 0)
	checkNotNow(t, append(quiet(0, maxQuiet-1), end))
	checkNotNow(t, append(quiet(0, maxQuiet), end))
	// Acts and tests are, too.
	checkFiled(t, append(quiet(0, maxQuiet-4), act(file("a")), ask(over(1)), end), 0, "a")
	checkNotNow(t, append(quiet(0, maxQuiet-2), act(file("a")), ask(over(1)), tick, end))
	checkFiled(t, append(quiet(0, maxQuiet-3), act(file("a")), ask(over(1)), tick, end), 1, "a")
	// Each OpTick begins the count anew.
	both := append(quiet(0, maxQuiet/2), tick)
	both = append(both, quiet(len(both), maxQuiet-1)...)
	checkFiled(t, append(slices.Clone(both), tick, end), 2)
	checkNotNow(t, append(slices.Clone(both), flag(0), tick, end))
	// In circles.
	checkNotNow(t, code{jumpTo(0)})
	checkNotNow(t, code{tick, jumpTo(1)})
	checkNotNow(t, code{flag(1), ifTo(0), end})
	checkNotNow(t, code{act(drop), act(saying(impl.FlFlag, "f")), tick, notTo(3), end})
	// With the last step taken, an OpTick more that comes in time is one too many.
	last := slices.Repeat(code{tick}, maxFilterSteps)
	checkCode(t, append(slices.Clone(last), append(quiet(maxFilterSteps, maxQuiet-1), tick, end)...), plainEnv, impl.FilterAnswer{Code: impl.ErrLoop, Steps: maxFilterSteps, Keep: true})
	checkNotNow(t, append(slices.Clone(last), append(quiet(maxFilterSteps, maxQuiet), tick, end)...))
	checkNotNow(t, append(slices.Clone(last), jumpTo(maxFilterSteps), tick, end))
}

func TestRunCodeSizes(t *testing.T) {
	given := code{tick, act(drop), end}
	head := "A: b\r\n\r\n"
	for _, env := range []impl.FilterEnv{{}, {From: xs(1000), To: xs(1000), Message: xs(maxText)}, {Message: head + xs(maxText-len(head))}} {
		checkCode(t, given, env, impl.FilterAnswer{Steps: 1})
	}
	large := []impl.FilterEnv{{From: xs(1001)}, {To: xs(1001)}, {Message: xs(maxText + 1)}, {From: xs(maxText + 1)}, {Message: head + xs(maxText)}}
	for _, env := range large {
		for _, one := range []code{given, {end}, {jumpTo(0)}, {loopTo(0), end}, {tick, jumpTo(0)}} {
			checkCode(t, one, env, impl.FilterAnswer{Code: impl.ErrSize})
		}
		// A fault is told ahead of it.
		if got := impl.RunCode(code{tick}, env); !sameAnswers(got, impl.FilterAnswer{Code: impl.ErrForm}) {
			t.Errorf("RunCode of an ill code: %s", shown(got))
		}
	}
}

// slowCode does a code instruction by instruction, as its table tells.
func slowCode(given code, env impl.FilterEnv) impl.FilterAnswer {
	r := newSlowRunner(env)
	truth, since := false, 0
	var counts []int64
	for at := int64(0); ; {
		one := given[at]
		at++
		if since++; one.Op == impl.OpTick {
			since = 0
		}
		top := len(counts) - 1
		if since == maxQuiet || one.Op == impl.OpCount && top == maxFilterDeep-1 || one.Op == impl.OpLoop && top < 0 {
			return impl.FilterAnswer{Code: impl.ErrState}
		}
		taken := r.answer.Steps
		r.nodes = []impl.FilterNode{one.Node}
		switch {
		case one.Op == impl.OpTick && !r.step(), one.Op == impl.OpEnd:
			return r.end()
		case one.Op == impl.OpJump, one.Op == impl.OpJumpIf && truth, one.Op == impl.OpJumpNot && !truth:
			at = one.To
		case one.Op == impl.OpFlag:
			truth = one.Node.Num == 1
		case one.Op == impl.OpAct:
			// What the slow one does takes a step, which is given back.
			r.answer.Steps = 0
			r.command(0)
			r.answer.Steps = taken
		case one.Op == impl.OpTest:
			r.answer.Steps = 0
			truth = r.test(0)
			r.answer.Steps = taken
		case one.Op == impl.OpCount:
			counts = append(counts, one.Node.Num)
		case one.Op == impl.OpLoop && counts[top] == 0:
			counts, at = counts[:top], one.To
		case one.Op == impl.OpLoop:
			counts[top]--
		}
	}
}

// anyCode is a code with no order in it.
func (d *dice) anyCode() code {
	size := 1 + d.below(30)
	var out code
	for at := range size {
		near := min(max(at+d.below(9)-2, 0), size)
		op := int64(1 + d.below(9))
		if d.below(3) == 0 {
			op = impl.OpTick
		}
		switch op {
		case impl.OpJump, impl.OpJumpIf, impl.OpJumpNot, impl.OpLoop:
			// Few go back, since many circles have no OpTick and take long.
			if near <= at && d.below(8) > 0 {
				near = at + 1
			}
			out = append(out, impl.FilterCode{Op: op, To: int64(near)})
		case impl.OpFlag:
			out = append(out, flag(int64(d.below(2))))
		case impl.OpCount:
			out = append(out, count(int64(d.below(5)*d.below(26))))
		case impl.OpAct:
			command := d.filterCommand(0)
			if command.node.Kind == impl.FlStop {
				command = drop
			}
			out = append(out, act(command))
		case impl.OpTest:
			test := d.filterTest(0)
			if test.node.Kind < impl.FlHeader {
				test = exists("to")
			}
			out = append(out, ask(test))
		default:
			out = append(out, tick)
		}
	}
	if d.below(2) == 0 {
		return append(out, tick, jumpTo(int64(d.below(size+1))))
	}
	return append(out, end)
}

func TestRunCodeOfAnyCodes(t *testing.T) {
	d := dice{state: 1203}
	ends := map[int64]int{}
	for range 1500 {
		given, env := d.anyCode(), d.filterEnv()
		if impl.CodeFault(given) != impl.OK {
			t.Fatalf("a fault: %s", shown(given))
		}
		got, want := impl.RunCode(given, env), slowCode(given, env)
		if !sameAnswers(got, want) {
			t.Errorf("RunCode of %s with %s: %s, want %s", shown(given), shown(env), short(shown(got)), short(shown(want)))
		}
		ends[got.Code]++
	}
	if ends[impl.OK] < 300 || ends[impl.ErrState] < 300 || ends[impl.ErrLoop] < 50 {
		t.Errorf("too few ends: %v", ends)
	}
}

// Codes with one thing turned are a code, or are not, as it is told field by field.
func TestCodeFaultOfTurnedCodes(t *testing.T) {
	d := dice{state: 1204}
	for range 10000 {
		given := d.anyCode()
		at := d.below(len(given))
		one := &given[at]
		switch d.below(6) {
		case 0:
			one.To = int64(len(given)+d.below(3)) * int64(1-2*d.below(2))
			checkCodeFault(t, given, impl.ErrForm)
		case 1:
			one.Op = int64(11+d.below(5)) * int64(d.below(3)-1)
			checkCodeFault(t, given, impl.ErrForm)
		case 2:
			one.Node.Kids = []int64{int64(d.below(2))}
			checkCodeFault(t, given, impl.ErrForm)
		case 3:
			one.Node.Num = -1 - int64(d.below(3))
			checkCodeFault(t, given, impl.ErrForm)
		case 4:
			one.Node.Match = 3 + int64(d.below(3))
			checkCodeFault(t, given, impl.ErrForm)
		case 5:
			given = append(given, rightOf([]int64{impl.OpTick, impl.OpFlag, impl.OpAct, impl.OpTest, impl.OpCount, impl.OpLoop, impl.OpJumpIf, impl.OpJumpNot}[d.below(8)]))
			checkCodeFault(t, given, impl.ErrForm)
		}
	}
}

// roomyCode has lists with room behind them, with something in it.
func roomyCode(given code) code {
	out := slices.Clone(given)
	for at := range out {
		out[at].Node = roomy([]impl.FilterNode{out[at].Node})[0]
	}
	return append(out, impl.FilterCode{To: 7}, impl.FilterCode{To: 7})[:len(out)]
}

// codeRoom is a code with what stands behind its lists.
func codeRoom(given code) (all code, nodes []impl.FilterNode) {
	all = slices.Clone(given[:len(given)+2])
	for at := range all {
		nodes = append(nodes, all[at].Node)
		all[at].Node = impl.FilterNode{}
	}
	nodes = append(nodes[:len(given)], impl.FilterNode{}, impl.FilterNode{})
	return all, withRoom(nodes[:len(given)])
}

func TestCodesChangeNothing(t *testing.T) {
	d := dice{state: 1205}
	for at := range 1500 {
		given := d.anyCode()
		if at%2 == 0 {
			given = impl.CompileFilter(nodesOf(d.filterBlock(1 + d.below(6))))
		}
		if at%5 == 0 {
			given[d.below(len(given))].To = -1
		}
		given = roomyCode(given)
		code1, nodes1 := codeRoom(given)
		env := d.filterEnv()
		first := impl.RunCode(given, env)
		impl.CodeFault(given)
		code2, nodes2 := codeRoom(given)
		if !reflect.DeepEqual(code1, code2) || !reflect.DeepEqual(nodes1, nodes2) {
			t.Fatalf("%s was changed", short(shown(given)))
		}
		kept := impl.FilterAnswer{Code: first.Code, Steps: first.Steps, Keep: first.Keep, Actions: slices.Clone(first.Actions), Flags: slices.Clone(first.Flags)}
		for _, one := range given {
			wantOwnMemory(t, "RunCode", one.Node.Text, first.Flags...)
			for _, action := range first.Actions {
				wantOwnMemory(t, "RunCode", one.Node.Text, action.Text)
				wantOwnMemory(t, "RunCode", env.Message, action.Text)
				wantOwnMemory(t, "RunCode", env.From, action.Text)
			}
		}
		clear(first.Actions)
		clear(first.Flags)
		if again := impl.RunCode(given, env); !sameAnswers(again, kept) {
			t.Errorf("RunCode of %s a second time: %s, want %s", short(shown(given)), short(shown(again)), short(shown(kept)))
		}
	}
}
