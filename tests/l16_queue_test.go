package tests

import (
	"fmt"
	"math"
	"regexp"
	"slices"
	"strings"
	"testing"

	"loop.example/g00013/impl"
)

const (
	maxAliases = 100
	maxExpand  = 200
	maxHops    = 25
	maxDelays  = 20
	maxItems   = 400
	maxTries   = 100
	maxMx      = 100
	maxWay     = 20
	maxHosts   = 200
)

func TestQueueConstants(t *testing.T) {
	limits := []int64{impl.MaxAliases, impl.MaxExpand, impl.MaxHops, impl.MaxDelays, impl.MaxItems, impl.MaxTries}
	wantNumbers(t, "limits", "", limits, []int64{maxAliases, maxExpand, maxHops, maxDelays, maxItems, maxTries})
	kinds := []int64{impl.QuSubmit, impl.QuPass, impl.QuHost, impl.EvDelivered, impl.EvBounced, impl.EvDropped, impl.EvLater}
	wantNumbers(t, "kinds", "", kinds, []int64{1, 2, 3, 1, 2, 3, 4})
	wantNumbers(t, "answers", "", []int64{impl.HostTakes, impl.HostLater, impl.HostNever}, []int64{0, 1, 2})
}

// As bytes, each as the letter of its number.
var keyForm = regexp.MustCompile("(?s)\\A[^\\x00-\\x1f\\x7f]{1,64}@([a-z0-9!#$%&'*+\\-/=?^_{|}~`\u0080-\u00ff]+(?:\\.[a-z0-9!#$%&'*+\\-/=?^_{|}~`\u0080-\u00ff]+)*)\\z")

func slowKey(key string) bool {
	found := keyForm.FindStringSubmatch(latinRunes(key))
	return found != nil && len([]rune(found[1])) <= maxDomain
}

func keyCode(right bool) int64 {
	if right {
		return impl.OK
	}
	return impl.ErrForm
}

func checkKey(t *testing.T, key string, right bool) {
	t.Helper()
	if got := impl.KeyFault(key); got != keyCode(right) {
		t.Errorf("KeyFault of %s: %d, want %d", short(key), got, keyCode(right))
	}
	if slowKey(key) != right {
		t.Errorf("the test itself takes %s as a key or not otherwise", short(key))
	}
}

var illKeys = some(
	"", "@", "a", "a.b", "@b", "a@", "a@@", "@a@", "a@B", "a@bC", "a@b.C", "A@Z", "a@[1]", "a@[]", "a@[a@b]", "a@b@[c]", "a@[", "a@.b", "a@b.", "a@b..c", "a@b c", "a @b ", "a@ b", "a@b\t",
	"a\x00@b", "a\x1f@b", "a\x7f@b", "a\r\n @b", "\t@b", "a@b\x00", "a@b\x7f", "a@\"b\"", "a@b\\", "a@(b)", "<a@b>", "a@b>", "a@b,c@d ", "a@b;", "a@b:",
	"a@"+xs(maxDomain+1), "a@"+labels(maxDomain+1), xs(maxLocal+1)+"@b", xs(maxText), xs(maxText+1), xs(maxText)+"@b", "a@"+xs(maxText), strings.Repeat("@", 400),
)

func TestKeyFault(t *testing.T) {
	for _, key := range some(
		"a@b", "A@b", "Ann.Lee@b.c", "a b@c", "a@b@c", "@@b", "a@@b", "\"a\"@b", "\"a b\"@c", "a\\@b", " @b", ".@b", "..a@b", "<a>@b", "a@[b@c", "a@[b]@c", "é@é", "\x80\xff@\xff.\x80", "a@1.2.3.4", "a@!#$%&'*+-/=?^_{|}~`", "a,b;c:d@e", "a@-",
		"a@"+xs(maxDomain), "a@"+labels(maxDomain), xs(maxLocal)+"@b", xs(maxLocal)+"@"+xs(maxDomain), strings.Repeat("@", maxLocal+1)+"b", xs(30)+"@"+xs(33)+"@b",
	) {
		checkKey(t, key, true)
	}
	for _, key := range illKeys {
		checkKey(t, key, false)
	}
	for _, b := range []byte(allBytes) {
		checkKey(t, string([]byte{'a', b, '@', 'b'}), b >= 32 && b != 127)
		checkKey(t, string([]byte{'a', '@', 'b', b}), slowKey("a@"+string([]byte{b})))
		checkKey(t, string([]byte{'a', '@', b}), slowKey("a@"+string([]byte{b})))
	}
}

func TestKeyFaultOfAllSigns(t *testing.T) {
	right := 0
	eachSequence(some("a", "B", "@", ".", "[", "]", "\"", " ", "\xe9", "\x7f"), 6, func(text string) {
		checkKey(t, text, slowKey(text))
		if slowKey(text) {
			right++
		}
	})
	if right < 5000 {
		t.Errorf("only %d texts were keys", right)
	}
}

// TestKeysOfAddresses has the key of each address whose domain is no literal.
func TestKeysOfAddresses(t *testing.T) {
	d := &dice{state: 1600}
	for range 3000 {
		a := d.address()
		if impl.AddressFault(a) == impl.OK {
			checkKey(t, impl.AddressKey(a), !strings.HasPrefix(a.Domain, "["))
		}
	}
}

func alias(name string, to ...string) impl.Alias { return impl.Alias{Name: name, To: to} }

// slowWalk goes through aliases with the whole way in its hand.
type slowWalk struct {
	aliases  []impl.Alias
	done, to []string
	code     int64
}

func (w *slowWalk) follow(key string, way []string) {
	at := slices.IndexFunc(w.aliases, func(a impl.Alias) bool { return a.Name == key })
	switch {
	case w.code != impl.OK || slices.Contains(w.done, key) || slices.Contains(w.to, key):
	case at < 0:
		w.to = append(w.to, key)
		if len(w.to) > maxExpand {
			w.code = impl.ErrCount
		}
	case slices.Contains(way, key):
		w.code = impl.ErrLoop
	case len(way) >= maxWay:
		w.code = impl.ErrCount
	default:
		for _, next := range w.aliases[at].To {
			w.follow(next, append(slices.Clone(way), key))
		}
		w.done = append(w.done, key)
	}
}

func slowAliases(aliases []impl.Alias) bool {
	right := len(aliases) <= maxAliases
	for _, a := range aliases {
		right = right && slowKey(a.Name) && len(a.To) <= maxAliases
		for _, to := range a.To {
			right = right && slowKey(to)
		}
	}
	return right
}

func slowExpand(aliases []impl.Alias, keys ...string) impl.Expanded {
	right := slowAliases(aliases)
	walk := slowWalk{aliases: aliases}
	for _, key := range keys {
		right = right && slowKey(key)
		walk.follow(key, nil)
	}
	if !right {
		return impl.Expanded{Code: impl.ErrForm}
	}
	if walk.code != impl.OK {
		return impl.Expanded{Code: walk.code}
	}
	return impl.Expanded{To: walk.to}
}

func sameExpanded(a, b impl.Expanded) bool { return a.Code == b.Code && slices.Equal(a.To, b.To) }

func checkExpanded(t *testing.T, what string, aliases []impl.Alias, key string, want impl.Expanded) {
	t.Helper()
	if got := impl.Expand(aliases, key); !sameExpanded(got, want) {
		t.Errorf("Expand of %s (%s): %s, want %s", short(key), what, shown(got), shown(want))
	}
	if slow := slowExpand(aliases, key); !sameExpanded(slow, want) {
		t.Errorf("the test itself expands %s (%s) to %s, want %s", short(key), what, shown(slow), shown(want))
	}
}

func expandsTo(to ...string) impl.Expanded { return impl.Expanded{To: to} }

func TestExpand(t *testing.T) {
	for _, key := range some("a@b", "A@b", "a b@c", "a@b@c") {
		checkExpanded(t, "no alias", nil, key, expandsTo(key))
		checkExpanded(t, "other aliases", []impl.Alias{alias("z@z", "y@y"), alias("a@c", "x@y"), alias("aA@b", "x@y")}, key, expandsTo(key))
	}
	for _, c := range []struct {
		what    string
		aliases []impl.Alias
		want    impl.Expanded
	}{
		{"one", []impl.Alias{alias("l@a", "x@b")}, expandsTo("x@b")},
		{"none", []impl.Alias{alias("l@a")}, impl.Expanded{}},
		{"none of one behind it", []impl.Alias{alias("l@a", "m@a", "x@b", "n@a"), alias("n@a"), alias("m@a")}, expandsTo("x@b")},
		{"several, not sorted", []impl.Alias{alias("l@a", "z@b", "x@b", "Y@b")}, expandsTo("z@b", "x@b", "Y@b")},
		{"Locals with capital letters are others", []impl.Alias{alias("l@a", "L@a", "x@b", "X@b"), alias("L@b", "no@no")}, expandsTo("L@a", "x@b", "X@b")},
		{"an address twice", []impl.Alias{alias("l@a", "x@b", "y@b", "x@b", "y@b")}, expandsTo("x@b", "y@b")},
		{"an address again in another alias", []impl.Alias{alias("l@a", "x@b", "m@a", "y@b", "z@b"), alias("m@a", "z@b", "x@b")}, expandsTo("x@b", "z@b", "y@b")},
		{"in the place of the alias", []impl.Alias{alias("l@a", "x@b", "m@a", "y@b"), alias("m@a", "1@b", "n@a", "2@b"), alias("n@a", "3@b")}, expandsTo("x@b", "1@b", "3@b", "2@b", "y@b")},
		{"two of one name", []impl.Alias{alias("l@a", "x@b"), alias("l@a", "y@b")}, expandsTo("x@b")},
		{"two of one name, the first has none", []impl.Alias{alias("l@a"), alias("l@a", "y@b")}, impl.Expanded{}},
		{"two of one name, the other goes round", []impl.Alias{alias("l@a", "m@a"), alias("m@a", "x@b"), alias("m@a", "l@a")}, expandsTo("x@b")},
		{"two of one name, the first goes round", []impl.Alias{alias("l@a", "m@a"), alias("m@a", "l@a"), alias("m@a", "x@b")}, impl.Expanded{Code: impl.ErrLoop}},
		{"an alias twice in one list", []impl.Alias{alias("l@a", "m@a", "y@b", "m@a"), alias("m@a", "x@b", "z@b")}, expandsTo("x@b", "z@b", "y@b")},
		{"an alias twice on different ways", []impl.Alias{alias("l@a", "m@a", "n@a"), alias("m@a", "o@a", "1@b"), alias("n@a", "2@b", "o@a"), alias("o@a", "3@b")}, expandsTo("3@b", "1@b", "2@b")},
		{"an alias twice, the deeper way first", []impl.Alias{alias("l@a", "m@a", "o@a"), alias("m@a", "n@a"), alias("n@a", "o@a"), alias("o@a", "3@b")}, expandsTo("3@b")},
		{"itself", []impl.Alias{alias("l@a", "l@a")}, impl.Expanded{Code: impl.ErrLoop}},
		{"itself and others", []impl.Alias{alias("l@a", "x@b", "l@a", "y@b")}, impl.Expanded{Code: impl.ErrLoop}},
		{"one that names itself", []impl.Alias{alias("l@a", "x@b", "m@a"), alias("m@a", "y@b", "m@a")}, impl.Expanded{Code: impl.ErrLoop}},
		{"a circle of two", []impl.Alias{alias("l@a", "m@a"), alias("m@a", "l@a")}, impl.Expanded{Code: impl.ErrLoop}},
		{"a circle of three", []impl.Alias{alias("l@a", "m@a"), alias("n@a", "x@b", "l@a"), alias("m@a", "n@a")}, impl.Expanded{Code: impl.ErrLoop}},
		{"a circle behind others", []impl.Alias{alias("l@a", "x@b", "m@a"), alias("m@a", "n@a"), alias("n@a", "o@a"), alias("o@a", "m@a")}, impl.Expanded{Code: impl.ErrLoop}},
		{"a circle that is not come to", []impl.Alias{alias("m@a", "n@a"), alias("l@a", "x@b"), alias("n@a", "m@a")}, expandsTo("x@b")},
	} {
		checkExpanded(t, c.what, c.aliases, "l@a", c.want)
	}
}

// people are keys with numbers.
func people(name string, from, to int) []string {
	var out []string
	for at := from; at <= to; at++ {
		out = append(out, fmt.Sprintf("%s%d@b", name, at))
	}
	return out
}

// chain has so many aliases, each of which stands for the next one, and the last one for these.
func chain(count int, last ...string) []impl.Alias {
	var aliases []impl.Alias
	for at := 1; at < count; at++ {
		aliases = append(aliases, alias(fmt.Sprintf("c%d@a", at), fmt.Sprintf("c%d@a", at+1)))
	}
	return append(aliases, alias(fmt.Sprintf("c%d@a", count), last...))
}

// hundreds is an alias for so many addresses, by others of a hundred each.
func hundreds(name string, count int) []impl.Alias {
	all := []impl.Alias{alias(name + "@a")}
	for from := 1; from <= count; from += maxAliases {
		part := fmt.Sprintf("%s-%d@a", name, from)
		all[0].To = append(all[0].To, part)
		all = append(all, alias(part, people(name, from, min(count, from+maxAliases-1))...))
	}
	return all
}

func TestExpandForm(t *testing.T) {
	form := impl.Expanded{Code: impl.ErrForm}
	good := []impl.Alias{alias("l@a", "x@b", "m@a"), alias("m@a", "y@b")}
	for _, ill := range illKeys {
		checkExpanded(t, "an ill key asked for", good, ill, form)
		checkExpanded(t, "an ill key asked for, no alias", nil, ill, form)
		for at := range good {
			names := slices.Clone(good)
			names[at].Name = ill
			checkExpanded(t, "an ill Name", names, "l@a", form)
			checkExpanded(t, "an ill Name of no alias on the way", names, "z@z", form)
			lists := slices.Clone(good)
			lists[at].To = append(slices.Clone(lists[at].To), ill)
			checkExpanded(t, "an ill To", lists, "l@a", form)
			checkExpanded(t, "an ill To of no alias on the way", lists, "z@z", form)
		}
	}
	many := slices.Repeat([]impl.Alias{alias("z@a", "y@b")}, maxAliases-1)
	checkExpanded(t, "MaxAliases aliases", append(slices.Clone(many), alias("l@a", "x@b")), "l@a", expandsTo("x@b"))
	for _, count := range []int{1, 2, 1000} {
		checkExpanded(t, "more than MaxAliases aliases", append(slices.Repeat(many[:1], maxAliases-1+count), alias("l@a", "x@b")), "l@a", form)
	}
	checkExpanded(t, "MaxAliases To", []impl.Alias{alias("l@a", people("p", 1, maxAliases)...)}, "l@a", expandsTo(people("p", 1, maxAliases)...))
	checkExpanded(t, "one To more", []impl.Alias{alias("l@a", people("p", 1, maxAliases+1)...)}, "l@a", form)
	checkExpanded(t, "one To more, all the same", []impl.Alias{alias("l@a", slices.Repeat(some("x@b"), maxAliases+1)...)}, "l@a", form)
	checkExpanded(t, "one To more in another alias", []impl.Alias{alias("l@a", "x@b"), alias("m@a", people("p", 1, maxAliases+1)...)}, "l@a", form)
	checkExpanded(t, "an ill key and a circle", []impl.Alias{alias("l@a", "l@a", "x")}, "l@a", form)
}

func TestExpandCount(t *testing.T) {
	count, loop := impl.Expanded{Code: impl.ErrCount}, impl.Expanded{Code: impl.ErrLoop}
	all := people("p", 1, maxExpand)
	checkExpanded(t, "MaxExpand addresses", hundreds("p", maxExpand), "p@a", expandsTo(all...))
	checkExpanded(t, "one address more", hundreds("p", maxExpand+1), "p@a", count)
	again := append(hundreds("p", maxExpand), alias("l@a", "p@a", "p1@b", "p200@b", "p-101@a"))
	checkExpanded(t, "MaxExpand addresses and again some", again, "l@a", expandsTo(all...))
	checkExpanded(t, "MaxExpand addresses and another", append(hundreds("p", maxExpand), alias("l@a", "p@a", "q@b")), "l@a", count)
	circle := alias("r@a", "r@a")
	checkExpanded(t, "a circle ahead of too many", append(hundreds("p", maxExpand+1), circle, alias("l@a", "r@a", "p@a")), "l@a", loop)
	checkExpanded(t, "a circle behind too many", append(hundreds("p", maxExpand+1), circle, alias("l@a", "p@a", "r@a")), "l@a", count)
	checkExpanded(t, "a circle behind enough", append(hundreds("p", maxExpand), circle, alias("l@a", "p@a", "r@a")), "l@a", loop)
	wide := append(hundreds("p", maxExpand), circle, alias("l@a", "p@a", "z@b", "r@a"))
	checkExpanded(t, "a circle behind the one too many", wide, "l@a", count)
}

func TestExpandWay(t *testing.T) {
	count, loop := impl.Expanded{Code: impl.ErrCount}, impl.Expanded{Code: impl.ErrLoop}
	checkExpanded(t, "20 aliases on one way", chain(maxWay, "x@b"), "c1@a", expandsTo("x@b"))
	checkExpanded(t, "20 aliases on one way, with none", chain(maxWay), "c1@a", impl.Expanded{})
	checkExpanded(t, "21 aliases on one way", chain(maxWay+1, "x@b"), "c1@a", count)
	checkExpanded(t, "21 aliases on one way, with none", chain(maxWay+1), "c1@a", count)
	checkExpanded(t, "20 of 21", chain(maxWay+1, "x@b"), "c2@a", expandsTo("x@b"))
	checkExpanded(t, "100 aliases on one way", chain(maxAliases, "x@b"), "c1@a", count)
	checkExpanded(t, "a circle of 20", chain(maxWay, "c1@a"), "c1@a", loop)
	checkExpanded(t, "a circle at the end of 20", chain(maxWay, "c20@a"), "c1@a", loop)
	checkExpanded(t, "a circle of 21", chain(maxWay+1, "c1@a"), "c1@a", count)
	checkExpanded(t, "many ways of 20", append(chain(maxWay-1, "x@b", "m@a", "n@a"), alias("m@a", "y@b"), alias("n@a", "z@b")), "c1@a", expandsTo("x@b", "y@b", "z@b"))
	checkExpanded(t, "a way of 21 behind one of 20", append(chain(maxWay-1, "m@a", "n@a"), alias("m@a", "y@b"), alias("n@a", "o@a"), alias("o@a")), "c1@a", count)
	// What was gone through gives nothing more, wherever it is come to.
	checkExpanded(t, "one that was gone through behind 20", append(chain(maxWay, "m@a"), alias("m@a", "y@b"), alias("l@a", "m@a", "c2@a")), "l@a", expandsTo("y@b"))
	checkExpanded(t, "the same, the longer way first", append(chain(maxWay, "m@a"), alias("m@a", "y@b"), alias("l@a", "c2@a", "m@a")), "l@a", count)
	checkExpanded(t, "too long ahead of a circle", append(chain(maxWay+1), alias("r@a", "r@a"), alias("l@a", "c2@a", "r@a")), "l@a", count)
	checkExpanded(t, "too long behind a circle", append(chain(maxWay+1), alias("r@a", "r@a"), alias("l@a", "r@a", "c2@a")), "l@a", loop)
	checkExpanded(t, "too long behind enough", append(chain(maxWay-1, "x@b"), alias("l@a", "c1@a", "y@b")), "l@a", expandsTo("x@b", "y@b"))
}

// aliases are made up, with few names, so that circles and several ways come about.
func (d *dice) aliases() []impl.Alias {
	var all []impl.Alias
	names := 1 + d.below(12)
	for range d.below(14) {
		one := alias(fmt.Sprintf("n%d@a", d.below(names)))
		for range d.below(4) {
			one.To = append(one.To, d.pick(fmt.Sprintf("n%d@a", d.below(names)), fmt.Sprintf("n%d@a", 6+d.below(names)), fmt.Sprintf("x%d@b", d.below(6)), fmt.Sprintf("y%d@a", d.below(3))))
		}
		all = append(all, one)
	}
	return all
}

func TestExpandOfAnyAliases(t *testing.T) {
	d := &dice{state: 1601}
	codes := map[int64]int{}
	for range 20000 {
		aliases, key := d.aliases(), fmt.Sprintf("n%d@a", d.below(3))
		if d.below(40) == 0 {
			aliases = append(aliases, alias("n0@a", illKeys[d.below(len(illKeys))]))
		}
		want := slowExpand(aliases, key)
		codes[want.Code]++
		checkExpanded(t, fmt.Sprint("made up ", aliases), aliases, key, want)
	}
	if codes[impl.OK] < 5000 || codes[impl.ErrLoop] < 1000 || codes[impl.ErrForm] < 100 {
		t.Errorf("codes %v", codes)
	}
}

func TestPromise22Expand(t *testing.T) {
	d := &dice{state: 1602}
	long := 0
	for range 20000 {
		aliases := d.aliases()
		for _, key := range some("n0@a", "n1@a", "x1@b", "n7@a") {
			got := impl.Expand(aliases, key)
			told := map[string]bool{}
			for _, to := range got.To {
				isAlias := slices.ContainsFunc(aliases, func(a impl.Alias) bool { return a.Name == to })
				if isAlias || told[to] {
					t.Fatalf("Expand of %s by %v tells %s in %v", key, aliases, to, got.To)
				}
				told[to] = true
			}
			if len(told) > 3 {
				long++
			}
		}
	}
	if long < 500 {
		t.Errorf("only %d lists were long", long)
	}
}

func mx(domain string, prefer int64, host string) impl.Mx {
	return impl.Mx{Domain: domain, Prefer: prefer, Host: host}
}

// slowHosts takes the best entry that is left, again and again.
func slowHosts(table []impl.Mx, domain string) []string {
	if len(table) > maxMx || len(domain) > maxDomain {
		return nil
	}
	var hosts []string
	left := slices.Clone(table)
	for {
		best := -1
		for at, one := range left {
			ahead := best < 0 || one.Prefer < left[best].Prefer || one.Prefer == left[best].Prefer && one.Host < left[best].Host
			if slowSame(one.Domain, domain) && ahead {
				best = at
			}
		}
		if best < 0 {
			break
		}
		if !slices.Contains(hosts, left[best].Host) {
			hosts = append(hosts, left[best].Host)
		}
		left = slices.Delete(left, best, best+1)
	}
	if len(hosts) == 0 {
		return some(domain)
	}
	return hosts
}

func checkHosts(t *testing.T, what string, table []impl.Mx, domain string, want ...string) {
	t.Helper()
	if got := impl.HostsOf(table, domain); !slices.Equal(got, want) {
		t.Errorf("HostsOf %s (%s): %q, want %q", short(domain), what, got, want)
	}
	if slow := slowHosts(table, domain); !slices.Equal(slow, want) {
		t.Errorf("the test itself tells %q as hosts of %s (%s), want %q", slow, short(domain), what, want)
	}
}

func TestHostsOf(t *testing.T) {
	for _, domain := range some("b", "B", "b.c", "[1]", "", "what it is", "b.") {
		checkHosts(t, "no entry", nil, domain, domain)
		checkHosts(t, "none of it", []impl.Mx{mx("a", 1, "x"), mx("bb", 0, "y"), mx("b.c.d", 0, "z"), mx(".", 0, "z")}, domain, domain)
	}
	checkHosts(t, "one", []impl.Mx{mx("b", 5, "x")}, "b", "x")
	checkHosts(t, "one, itself", []impl.Mx{mx("b", 5, "b")}, "b", "b")
	checkHosts(t, "by preference", []impl.Mx{mx("b", 3, "x"), mx("c", 0, "no"), mx("b", 1, "z"), mx("b", 2, "y")}, "b", "z", "y", "x")
	checkHosts(t, "by numbers", []impl.Mx{mx("b", 10, "x"), mx("b", 9, "z"), mx("b", 1000, "y")}, "b", "z", "x", "y")
	checkHosts(t, "equal ones", []impl.Mx{mx("b", 1, "y"), mx("b", 1, "z"), mx("b", 1, "x"), mx("b", 1, "X"), mx("b", 1, "xx")}, "b", "X", "x", "xx", "y", "z")
	checkHosts(t, "equal ones among others", []impl.Mx{mx("b", 1, "y"), mx("b", 0, "z"), mx("b", 1, "a"), mx("b", 2, "a0")}, "b", "z", "a", "y", "a0")
	checkHosts(t, "one twice, the better one first", []impl.Mx{mx("b", 1, "x"), mx("b", 2, "y"), mx("b", 3, "x")}, "b", "x", "y")
	checkHosts(t, "one twice, the better one last", []impl.Mx{mx("b", 3, "x"), mx("b", 2, "y"), mx("b", 1, "x")}, "b", "x", "y")
	checkHosts(t, "one twice with one preference", []impl.Mx{mx("b", 3, "x"), mx("b", 3, "x"), mx("b", 3, "w")}, "b", "w", "x")
	checkHosts(t, "one of two domains", []impl.Mx{mx("c", 0, "x"), mx("b", 2, "y"), mx("b", 3, "x")}, "b", "y", "x")
	capitals := []impl.Mx{mx("Bc.dE", 1, "Host"), mx("bC.De", 0, "host"), mx("BC.DE", 2, "HOST")}
	for _, domain := range some("bc.de", "BC.DE", "Bc.De") {
		checkHosts(t, "capital letters", capitals, domain, "host", "Host", "HOST")
	}
	checkHosts(t, "letters that are none of A-Z", []impl.Mx{mx("é", 1, "x"), mx("[", 1, "y")}, "É", "É")
	checkHosts(t, "letters that are none of A-Z", []impl.Mx{mx("é", 1, "x"), mx("[", 1, "y")}, "{", "{")
	checkHosts(t, "any preference", []impl.Mx{mx("b", math.MaxInt64, "x"), mx("b", math.MinInt64, "y"), mx("b", -1, "z"), mx("b", 0, "w")}, "b", "y", "z", "w", "x")
	checkHosts(t, "any texts", []impl.Mx{mx("", 1, "no host"), mx("", 0, "")}, "", "", "no host")
}

func TestHostsOfBounds(t *testing.T) {
	var table []impl.Mx
	var want []string
	for at := range maxMx {
		table = append(table, mx("b", int64(maxMx-at), fmt.Sprintf("h%d", at)))
		want = append([]string{fmt.Sprintf("h%d", at)}, want...)
	}
	checkHosts(t, "100 entries", table, "b", want...)
	checkHosts(t, "100 entries, none of it", table, "c", "c")
	checkHosts(t, "101 entries", append(slices.Clone(table), mx("c", 0, "x")), "b")
	checkHosts(t, "101 entries, none of it", append(slices.Clone(table), mx("d", 0, "x")), "c")
	checkHosts(t, "100 000 entries", make([]impl.Mx, 100000), "c")
	for _, long := range some(xs(maxDomain), labels(maxDomain)) {
		checkHosts(t, "a long domain", []impl.Mx{mx(strings.ToUpper(long), 0, "x")}, long, "x")
		checkHosts(t, "a long domain without entry", nil, long, long)
		checkHosts(t, "a domain that is too long", []impl.Mx{mx(long+"x", 0, "x")}, long+"x")
		checkHosts(t, "a domain that is too long, without entry", nil, long+"x")
	}
	checkHosts(t, "a text as long as can be", nil, xs(maxText))
	checkHosts(t, "a longer one", nil, xs(maxText+1))
	checkHosts(t, "a long host", []impl.Mx{mx("b", 0, xs(maxText))}, "b", xs(maxText))
	// Texts that are too long are refused wherever they stand.
	for _, table := range [][]impl.Mx{{mx("b", 0, xs(maxText+1))}, {mx(xs(maxText+1), 0, "x")}, {mx("b", 0, "x"), mx("c", 0, xs(maxText+1))}} {
		if got := impl.HostsOf(table, "b"); len(got) != 0 {
			t.Errorf("HostsOf with a text that is too long: %s", shown(got))
		}
	}
}

// table is made up, with few domains and hosts.
func (d *dice) mxTable(size int) []impl.Mx {
	var table []impl.Mx
	for range size {
		table = append(table, mx(d.pick("b", "B", "c", "c.D", "C.d", "e"), int64(d.below(4)), d.pick("h1", "h2", "h3", "h4", "H1", "b", "c")))
	}
	return table
}

func TestPromise22Hosts(t *testing.T) {
	d := &dice{state: 1603}
	several := 0
	for range 5000 {
		table := d.mxTable(d.below(12))
		for _, domain := range some("b", "C", "c.d", "E") {
			checkHosts(t, fmt.Sprint("made up ", table), table, domain, slowHosts(table, domain)...)
			if hosts := impl.HostsOf(table, domain); checkPreference(t, table, domain, hosts) && len(hosts) > 2 {
				several++
			}
		}
	}
	if several < 1000 {
		t.Errorf("only %d lists had several hosts", several)
	}
}

// checkPreference holds each host's best preference against that of the one ahead of it.
func checkPreference(t *testing.T, table []impl.Mx, domain string, hosts []string) bool {
	t.Helper()
	best := map[string]int64{}
	for _, one := range table {
		if prefer, known := best[one.Host]; slowSame(one.Domain, domain) && (!known || one.Prefer < prefer) {
			best[one.Host] = one.Prefer
		}
	}
	if len(best) == 0 {
		return false
	}
	if len(hosts) != len(best) {
		t.Fatalf("HostsOf %s by %v: %v", domain, table, hosts)
	}
	for at, host := range hosts {
		_, known := best[host]
		if !known || at > 0 && (best[hosts[at-1]] > best[host] || best[hosts[at-1]] == best[host] && hosts[at-1] >= host) {
			t.Fatalf("HostsOf %s by %v: %v", domain, table, hosts)
		}
	}
	return true
}

// plainQueue is a configuration with hosts for b, and an alias.
func plainQueue() impl.QueueConfig {
	return impl.QueueConfig{
		Local:   "a",
		Aliases: []impl.Alias{alias("l@a", "ann@a", "x@b")},
		Mx:      []impl.Mx{mx("b", 0, "h1"), mx("b", 1, "h2"), mx("C", 3, "H3")},
		Delays:  []int64{10, 100},
		MaxAge:  150,
	}
}

func changedQueue(change func(c *impl.QueueConfig)) impl.QueueConfig {
	c := plainQueue()
	change(&c)
	return c
}

func slowDomain(text string) bool { return impl.DomainFault(text) == impl.OK && text[0] != '[' }

func slowQueueFault(c impl.QueueConfig) int64 {
	right := slowDomain(c.Local) && slowLow(c.Local) == c.Local && slowAliases(c.Aliases) && len(c.Mx) <= maxMx && within(c.MaxAge, maxTime)
	for _, one := range c.Mx {
		right = right && slowDomain(one.Domain) && slowDomain(one.Host) && within(one.Prefer, 1000)
	}
	right = right && len(c.Delays) > 0 && len(c.Delays) <= maxDelays
	for _, delay := range c.Delays {
		right = right && delay > 0 && delay <= maxTime
	}
	return keyCode(right)
}

func checkQueueFault(t *testing.T, what string, right bool, change func(c *impl.QueueConfig)) {
	t.Helper()
	c := changedQueue(change)
	if got := impl.QueueFault(c); got != keyCode(right) {
		t.Errorf("QueueFault with %s: %d, want %d", what, got, keyCode(right))
	}
	if slow := slowQueueFault(c); slow != keyCode(right) {
		t.Errorf("the test's own fault with %s: %d, want %d", what, slow, keyCode(right))
	}
	run := impl.RunQueue(c, []impl.QueueOp{passing(1)})
	if run.Code != keyCode(right) || len(run.Boxes) != 0 || right != (len(run.Outs) == 1) {
		t.Errorf("RunQueue with %s: %s", what, shown(run))
	}
}

var illDomains = some("", ".", "a.", ".a", "a..b", "a b", "a@b", "[1.2.3.4]", "[]", "[a]", "a\x00", "a\x7f", "(a)", "<a>", "a,b", "\"a\"", "a\\b", xs(maxDomain+1), labels(maxDomain+1), xs(maxText), xs(maxText+1))

func TestQueueFault(t *testing.T) {
	checkQueueFault(t, "nothing changed", true, func(c *impl.QueueConfig) {})
	for _, domain := range some("a", "a.b", "1", "é", "\xff", "!#$%&'*+-/=?^_{|}~`", xs(maxDomain), labels(maxDomain)) {
		checkQueueFault(t, "a right Local", true, func(c *impl.QueueConfig) { c.Local = domain })
	}
	for _, domain := range append(some("A", "a.B", "Za", "aZ"), illDomains...) {
		checkQueueFault(t, "an ill Local", false, func(c *impl.QueueConfig) { c.Local = domain })
	}
	for _, ill := range illKeys {
		checkQueueFault(t, "an ill Name", false, func(c *impl.QueueConfig) { c.Aliases[0].Name = ill })
		checkQueueFault(t, "an ill To", false, func(c *impl.QueueConfig) { c.Aliases[0].To = some("x@y", ill) })
	}
	checkQueueFault(t, "a circle", true, func(c *impl.QueueConfig) { c.Aliases = []impl.Alias{alias("l@a", "l@a")} })
	checkQueueFault(t, "two aliases of one Name", true, func(c *impl.QueueConfig) { c.Aliases = []impl.Alias{alias("l@a", "x@b"), alias("l@a")} })
	for count, right := range map[int]bool{0: true, 1: true, maxAliases: true, maxAliases + 1: false} {
		checkQueueFault(t, fmt.Sprint(count, " aliases"), right, func(c *impl.QueueConfig) { c.Aliases = slices.Repeat([]impl.Alias{alias("l@a")}, count) })
		checkQueueFault(t, fmt.Sprint(count, " To"), right, func(c *impl.QueueConfig) { c.Aliases[0].To = people("p", 1, count) })
	}
	for count, right := range map[int]bool{0: true, 1: true, maxMx: true, maxMx + 1: false, 1000: false} {
		checkQueueFault(t, fmt.Sprint(count, " Mx"), right, func(c *impl.QueueConfig) { c.Mx = slices.Repeat([]impl.Mx{mx("b", 0, "h")}, count) })
	}
	for count, right := range map[int]bool{0: false, 1: true, maxDelays: true, maxDelays + 1: false, 1000: false} {
		checkQueueFault(t, fmt.Sprint(count, " Delays"), right, func(c *impl.QueueConfig) { c.Delays = slices.Repeat([]int64{7}, count) })
	}
}

func TestQueueFaultNumbers(t *testing.T) {
	for number, right := range map[int64]bool{-1: false, 0: false, 1: true, maxTime - 1: true, maxTime: true, maxTime + 1: false, math.MinInt64: false, math.MaxInt64: false} {
		for at := range 2 {
			checkQueueFault(t, fmt.Sprint("the delay ", number), right, func(c *impl.QueueConfig) { c.Delays[at] = number })
		}
		checkQueueFault(t, fmt.Sprint("the last delay of many ", number), right, func(c *impl.QueueConfig) { c.Delays = append(slices.Repeat([]int64{7}, maxDelays-1), number) })
	}
	for number, right := range map[int64]bool{-1: false, 0: true, 1: true, maxTime: true, maxTime + 1: false, math.MinInt64: false, math.MaxInt64: false} {
		checkQueueFault(t, fmt.Sprint("the age ", number), right, func(c *impl.QueueConfig) { c.MaxAge = number })
	}
	for number, right := range map[int64]bool{-1: false, 0: true, 1: true, 999: true, 1000: true, 1001: false, math.MinInt64: false, math.MaxInt64: false} {
		for at := range 3 {
			checkQueueFault(t, fmt.Sprint("the preference ", number), right, func(c *impl.QueueConfig) { c.Mx[at].Prefer = number })
		}
	}
	for _, ill := range illDomains {
		for at := range 3 {
			checkQueueFault(t, "an ill Domain", false, func(c *impl.QueueConfig) { c.Mx[at].Domain = ill })
			checkQueueFault(t, "an ill Host", false, func(c *impl.QueueConfig) { c.Mx[at].Host = ill })
		}
	}
	for _, domain := range some("B", "b.C", xs(maxDomain), labels(maxDomain), "é") {
		checkQueueFault(t, "a right Domain", true, func(c *impl.QueueConfig) { c.Mx[1].Domain = domain })
		checkQueueFault(t, "a right Host", true, func(c *impl.QueueConfig) { c.Mx[1].Host = domain })
	}
}

func slowBounce(local, to, message string) string {
	if !slowDomain(local) || !slowKey(to) || len(to) > 400 || len(message) > maxText {
		return ""
	}
	return fmt.Sprintf("From: <mailer@%s>\r\nTo: <%s>\r\nSubject: Undelivered\r\n\r\n%.2000s", local, to, latinRunes(message))
}

func checkBounce(t *testing.T, local, to, message, want string) {
	t.Helper()
	wantText(t, "Bounce", local+" "+to+" "+message, impl.Bounce(local, to, message), want)
}

func TestBounce(t *testing.T) {
	head := "From: <mailer@a.b>\r\nTo: <x@c>\r\nSubject: Undelivered\r\n\r\n"
	checkBounce(t, "a.b", "x@c", "", head)
	checkBounce(t, "a.b", "x@c", "A: b\r\n\r\nhi", head+"A: b\r\n\r\nhi")
	message := strings.Repeat("0123456789", maxText/10)
	for _, size := range []int{0, 1, 1999, 2000, 2001, 3000, maxText} {
		checkBounce(t, "a.b", "x@c", message[:size], head+message[:min(size, 2000)])
	}
	checkBounce(t, "a.b", "x@c", message+"x", "")
	checkBounce(t, "a.b", "x@c", xs(1<<20), "")
	for _, to := range some("x y@c", "x@y@c", "\"x\"@c", "X@c", ">@c", xs(maxLocal)+"@"+xs(maxDomain)) {
		checkBounce(t, "Local.Domain", to, allBytes, "From: <mailer@Local.Domain>\r\nTo: <"+to+">\r\nSubject: Undelivered\r\n\r\n"+allBytes)
	}
	checkBounce(t, xs(maxDomain), "x@c", "m", "From: <mailer@"+xs(maxDomain)+">\r\nTo: <x@c>\r\nSubject: Undelivered\r\n\r\nm")
	for _, ill := range illDomains {
		checkBounce(t, ill, "x@c", "m", "")
	}
	for _, ill := range append(some(xs(398)+"@c", xs(399)+"@c", "x@"+xs(398), "x@"+xs(399), xs(maxLocal)+"@"+xs(335), xs(maxLocal)+"@"+xs(336)), illKeys...) {
		checkBounce(t, "a.b", ill, "m", "")
	}
	d := &dice{state: 1604}
	for range 2000 {
		local, to, text := d.pick("a", "B.c", "[1]", "", "a."), d.pick("x@b", "x y@b", "x@B", "x", "a@b@c"), d.text(d.below(20), partPieces[:3])
		checkBounce(t, local, to, text, slowBounce(local, to, text))
	}
	for _, text := range some(impl.Bounce("a.b", "x\"<>@c", message), impl.Bounce(xs(maxDomain), xs(maxLocal)+"@"+xs(maxDomain), "")) {
		if head := impl.ReadHead(text); head.Code != impl.OK || len(head.Fields) != 3 {
			t.Errorf("a bounce has no right head: %s", shown(head))
		}
	}
}

const plainMail = "Subject: x\r\n\r\ny"

func submitting(from string, to []string, message string) impl.QueueOp {
	return impl.QueueOp{Kind: impl.QuSubmit, From: from, To: to, Message: message}
}

// mailTo is a plain one from ann, who is here.
func mailTo(to ...string) impl.QueueOp { return submitting("ann@a", to, plainMail) }

func passing(wait int64) impl.QueueOp { return impl.QueueOp{Kind: impl.QuPass, Wait: wait} }

func hostSays(host string, answer int64) impl.QueueOp {
	return impl.QueueOp{Kind: impl.QuHost, Host: host, Answer: answer}
}

func saysLater(host string) impl.QueueOp { return hostSays(host, impl.HostLater) }

func saysNever(host string) impl.QueueOp { return hostSays(host, impl.HostNever) }

// slowItem is gone when it is at work no more.
type slowItem struct {
	number, made, next, tries int64
	from, to, message         string
	gone                      bool
}

// slowQueue keeps all items that there ever were, and looks at each of them for the next one.
type slowQueue struct {
	config impl.QueueConfig
	time   int64
	items  []*slowItem
	hosts  []impl.QueueOp
	events []impl.QueueEvent
	boxes  []impl.Local
	// What is done with an item ahead of its delivery here, and how many items submissions may still make, if there is a world around.
	here func(one impl.Local) bool
	left *int64
}

func (q *slowQueue) held() int64 {
	count := int64(0)
	for _, item := range q.items {
		if !item.gone {
			count++
		}
	}
	return count
}

func (q *slowQueue) do(op impl.QueueOp) impl.QueueOut {
	var out impl.QueueOut
	q.events = nil
	switch op.Kind {
	case impl.QuSubmit:
		out.Code, out.Items = q.submit(op)
	case impl.QuPass:
		out.Code = q.pass(op.Wait)
	case impl.QuHost:
		out.Code = q.host(op)
	default:
		out.Code = impl.ErrForm
	}
	out.Events, out.Held = q.events, q.held()
	return out
}

func (q *slowQueue) submit(op impl.QueueOp) (int64, []int64) {
	right := (op.From == "" || slowKey(op.From)) && len(op.To) > 0 && len(op.To) <= maxExpand
	for _, to := range op.To {
		right = right && slowKey(to)
	}
	if !right {
		return impl.ErrForm, nil
	}
	head := impl.ReadHead(op.Message)
	if head.Code != impl.OK {
		return impl.ErrSyntax, nil
	}
	hops := 0
	for _, field := range head.Fields {
		if slowSame(field.Name, "received") {
			hops++
		}
	}
	if hops >= maxHops {
		return impl.ErrLoop, nil
	}
	all := slowExpand(q.config.Aliases, op.To...)
	if all.Code != impl.OK {
		return all.Code, nil
	}
	message := "Received: by " + q.config.Local + "; " + clockOf(q.time, 0).Format("Mon, 02 Jan 2006 15:04:05 -0700") + "\r\n" + op.Message
	if len(message) > maxText {
		return impl.ErrSize, nil
	}
	if q.held()+int64(len(all.To)) > maxItems || q.left != nil && *q.left < int64(len(all.To)) {
		return impl.ErrFull, nil
	}
	if q.left != nil {
		*q.left -= int64(len(all.To))
	}
	var numbers []int64
	for _, to := range all.To {
		numbers = append(numbers, q.add(op.From, to, message).number)
	}
	for _, number := range numbers {
		q.try(q.items[number-1])
	}
	return impl.OK, numbers
}

func (q *slowQueue) add(from, to, message string) *slowItem {
	item := &slowItem{number: int64(len(q.items)) + 1, made: q.time, next: q.time, from: from, to: to, message: message}
	q.items = append(q.items, item)
	return item
}

func (q *slowQueue) pass(wait int64) int64 {
	if wait < 0 || wait > maxTime || q.time+wait > maxTime {
		return impl.ErrForm
	}
	until := q.time + wait
	for {
		var first *slowItem
		for _, item := range q.items {
			if !item.gone && item.next <= until && (first == nil || item.next < first.next) {
				first = item
			}
		}
		if first == nil {
			q.time = until
			return impl.OK
		}
		q.time = first.next
		if q.left != nil {
			*q.left = maxItems
		}
		q.try(first)
	}
}

func (q *slowQueue) host(op impl.QueueOp) int64 {
	others := 0
	for _, known := range q.hosts {
		if known.Host != op.Host {
			others++
		}
	}
	if !slowDomain(op.Host) || !within(op.Answer, 2) || others == maxHosts && others == len(q.hosts) {
		return impl.ErrForm
	}
	q.hosts = slices.DeleteFunc(q.hosts, func(known impl.QueueOp) bool { return known.Host == op.Host })
	q.hosts = append(q.hosts, op)
	return impl.OK
}

func (q *slowQueue) answerOf(host string) int64 {
	for _, known := range q.hosts {
		if known.Host == host {
			return known.Answer
		}
	}
	return impl.HostTakes
}

func (q *slowQueue) tell(item *slowItem, kind int64, host string) {
	item.gone = kind != impl.EvLater
	q.events = append(q.events, impl.QueueEvent{Kind: kind, Item: item.number, To: item.to, Host: host, Time: q.time})
}

func (q *slowQueue) try(item *slowItem) {
	domain := item.to[strings.LastIndex(item.to, "@")+1:]
	if domain == q.config.Local {
		one := impl.Local{Item: item.number, To: item.to, From: item.from, Message: item.message}
		if q.here != nil && !q.here(one) {
			q.bounce(item, "")
			return
		}
		q.boxes = append(q.boxes, one)
		q.tell(item, impl.EvDelivered, "")
		return
	}
	hosts := slowHosts(q.config.Mx, domain)
	for _, host := range hosts {
		switch q.answerOf(host) {
		case impl.HostTakes:
			q.tell(item, impl.EvDelivered, host)
			return
		case impl.HostNever:
			q.bounce(item, host)
			return
		}
	}
	item.tries++
	delay := q.config.Delays[len(q.config.Delays)-1]
	if item.tries <= int64(len(q.config.Delays)) {
		delay = q.config.Delays[item.tries-1]
	}
	item.next = q.time + delay
	if item.next > item.made+q.config.MaxAge || item.next > maxTime || item.tries >= maxTries {
		q.bounce(item, hosts[len(hosts)-1])
		return
	}
	q.tell(item, impl.EvLater, "")
}

func (q *slowQueue) bounce(item *slowItem, host string) {
	if item.from == "" {
		q.tell(item, impl.EvDropped, host)
		return
	}
	q.tell(item, impl.EvBounced, host)
	q.try(q.add("", item.from, impl.Bounce(q.config.Local, item.to, item.message)))
}

func slowRunQueue(c impl.QueueConfig, ops []impl.QueueOp) impl.QueueRun {
	if slowQueueFault(c) != impl.OK {
		return impl.QueueRun{Code: impl.ErrForm}
	}
	if len(ops) > maxOps {
		return impl.QueueRun{Code: impl.ErrCount}
	}
	q := slowQueue{config: c}
	var run impl.QueueRun
	for _, op := range ops {
		run.Outs = append(run.Outs, q.do(op))
	}
	run.Boxes = q.boxes
	return run
}

func sameQueueOut(a, b impl.QueueOut) bool {
	return a.Code == b.Code && a.Held == b.Held && slices.Equal(a.Items, b.Items) && slices.Equal(a.Events, b.Events)
}

// checkQueue holds a run against the slow one, and hands it on.
func checkQueue(t *testing.T, what string, c impl.QueueConfig, ops ...impl.QueueOp) impl.QueueRun {
	t.Helper()
	got, want := impl.RunQueue(c, ops), slowRunQueue(c, ops)
	if got.Code != want.Code || len(got.Outs) != len(want.Outs) {
		t.Fatalf("RunQueue, %s: code %d, %d outs, want %d, %d", what, got.Code, len(got.Outs), want.Code, len(want.Outs))
	}
	for at, out := range got.Outs {
		if !sameQueueOut(out, want.Outs[at]) {
			t.Fatalf("RunQueue, %s, operation %d, %s: %s, want %s", what, at, shown(ops[at]), shown(out), shown(want.Outs[at]))
		}
	}
	if !slices.Equal(got.Boxes, want.Boxes) {
		t.Fatalf("RunQueue, %s: boxes %s, want %s", what, shown(got.Boxes), shown(want.Boxes))
	}
	return got
}

func queueCodes(run impl.QueueRun) []int64 {
	var codes []int64
	for _, out := range run.Outs {
		codes = append(codes, out.Code)
	}
	return codes
}

// timeline has all events in few signs: D, B, X and L for what came to pass, the item, `>` and the host, if there is one, `@` and the time.
func timeline(run impl.QueueRun) string {
	var out []string
	for _, one := range run.Outs {
		for _, event := range one.Events {
			text := fmt.Sprintf("%c%d", " DBXL"[event.Kind], event.Item)
			if event.Host != "" {
				text += ">" + event.Host
			}
			out = append(out, fmt.Sprintf("%s@%d", text, event.Time))
		}
	}
	return strings.Join(out, " ")
}

// checkTimes wants what came to pass, and how many items are at work in the end.
func checkTimes(t *testing.T, what string, run impl.QueueRun, want string, held int64) {
	t.Helper()
	wantText(t, "what came to pass", what, timeline(run), want)
	if last := run.Outs[len(run.Outs)-1]; last.Held != held {
		t.Errorf("%s: %d are held, want %d", what, last.Held, held)
	}
}

func TestRunQueueSubmit(t *testing.T) {
	run := checkQueue(t, "one to here", plainQueue(), mailTo("bob@a"))
	full := "Received: by a; Thu, 01 Jan 1970 00:00:00 +0000\r\n" + plainMail
	want := impl.QueueRun{
		Outs:  []impl.QueueOut{{Items: ids(1), Events: []impl.QueueEvent{{Kind: impl.EvDelivered, Item: 1, To: "bob@a"}}}},
		Boxes: []impl.Local{{Item: 1, To: "bob@a", From: "ann@a", Message: full}},
	}
	if !sameQueueOut(run.Outs[0], want.Outs[0]) || !slices.Equal(run.Boxes, want.Boxes) {
		t.Errorf("RunQueue: %s, want %s", shown(run), shown(want))
	}
	run = checkQueue(t, "an alias, and whom it has told already", plainQueue(), mailTo("ann@a", "l@a", "x@b", "l@a", "y@c", "z@z"))
	checkTimes(t, "an alias", run, "D1@0 D2>h1@0 D3>H3@0 D4>z@0", 0)
	wantNumbers(t, "Items", "an alias", run.Outs[0].Items, upTo(1, 4))
	run = checkQueue(t, "an alias ahead of its own", plainQueue(), mailTo("l@a", "x@b", "ann@a"))
	checkTimes(t, "an alias ahead", run, "D1@0 D2>h1@0", 0)
	empty := changedQueue(func(c *impl.QueueConfig) { c.Aliases = []impl.Alias{alias("l@a")} })
	run = checkQueue(t, "an alias for nobody", empty, mailTo("l@a", "l@a"), mailTo("x@b"))
	checkTimes(t, "an alias for nobody", run, "D1>h1@0", 0)
	wantNumbers(t, "Items", "an alias for nobody", run.Outs[0].Items, nil)
	run = checkQueue(t, "several, from nobody", plainQueue(), submitting("", some("a@z", "b@z", "a@a"), "\r\n"), submitting("", some("a@a"), ""), submitting("", some("A@a"), "A:b"))
	checkTimes(t, "several", run, "D1>z@0 D2>z@0 D3@0 D4@0 D5@0", 0)
	wantText(t, "the last message", "several", run.Boxes[2].Message, full[:len(full)-len(plainMail)]+"A:b")
	run = checkQueue(t, "numbers go on", plainQueue(), saysLater("z"), mailTo("a@z", "b@a"), mailTo("b@z"), mailTo("c@z", "d@z", "c@z"))
	wantNumbers(t, "Items", "numbers go on", run.Outs[3].Items, upTo(4, 5))
	checkTimes(t, "numbers go on", run, "L1@0 D2@0 L3@0 L4@0 L5@0", 4)
	run = checkQueue(t, "the time is told", plainQueue(), passing(951782400), mailTo("b@a"))
	wantText(t, "the message", "of a later time", run.Boxes[0].Message, "Received: by a; Tue, 29 Feb 2000 00:00:00 +0000\r\n"+plainMail)
	run = checkQueue(t, "aliases in the queue's own domain and not", changedQueue(func(c *impl.QueueConfig) { c.Aliases = []impl.Alias{alias("x@b", "y@a"), alias("y@a", "z@b")} }), mailTo("x@b"))
	checkTimes(t, "aliases anywhere", run, "D1>h1@0", 0)
}

func TestRunQueueCounts(t *testing.T) {
	many := slices.Repeat([]impl.QueueOp{passing(1)}, maxOps)
	run := checkQueue(t, "MaxOps operations", plainQueue(), many...)
	wantNumbers(t, "codes", "MaxOps", queueCodes(run), make([]int64, maxOps))
	for _, count := range []int{1, 100} {
		run = checkQueue(t, "more operations", plainQueue(), append(many, many[:count]...)...)
		wantNumbers(t, "code", "more operations", []int64{run.Code, int64(len(run.Outs))}, []int64{impl.ErrCount, 0})
	}
	run = checkQueue(t, "more operations and a fault", impl.QueueConfig{}, append(many, many...)...)
	wantNumbers(t, "code", "more operations and a fault", []int64{run.Code}, []int64{impl.ErrForm})
	if run = checkQueue(t, "no operation", plainQueue()); len(run.Outs) != 0 || len(run.Boxes) != 0 {
		t.Errorf("no operation: %s", shown(run))
	}
	for _, kind := range []int64{0, -1, 4, 5, 255, 256, 257, 1<<32 + 1, math.MinInt64, math.MaxInt64} {
		op := mailTo("x@b")
		op.Kind = kind
		run = checkQueue(t, "another kind", plainQueue(), saysLater("z"), mailTo("a@z"), op, mailTo("b@z"))
		wantNumbers(t, "codes", fmt.Sprint("kind ", kind), queueCodes(run), []int64{0, 0, impl.ErrForm, 0})
		wantNumbers(t, "Held", fmt.Sprint("kind ", kind), []int64{run.Outs[2].Held, run.Outs[3].Items[0]}, []int64{1, 2})
	}
}

// submitFault is something that is against a submission.
type submitFault struct {
	what string
	code int64
	set  func(s *faultySubmit)
}

// faultySubmit is one of which several things may be wrong at one time.
type faultySubmit struct {
	from          string
	to            []string
	hops          int
	ill           string
	size          int
	ahead         []impl.QueueOp
	withoutAnyone bool
}

func (s faultySubmit) ops() []impl.QueueOp {
	message := strings.Repeat("received: x\r\n", s.hops) + s.ill + "\r\n"
	if s.size > 0 {
		message += xs(s.size - len(message))
	}
	if s.withoutAnyone {
		s.to = nil
	}
	return append(slices.Clone(s.ahead), submitting(s.from, s.to, message))
}

// submitFaults are in the order in which they are told.
var submitFaults = []submitFault{
	{"an ill From", impl.ErrForm, func(s *faultySubmit) { s.from = "x" }},
	{"a long From", impl.ErrForm, func(s *faultySubmit) { s.from = xs(maxText+1) + "@b" }},
	{"an ill To", impl.ErrForm, func(s *faultySubmit) { s.to = append(s.to, "x@B") }},
	{"a long To", impl.ErrForm, func(s *faultySubmit) { s.to = append(s.to, xs(maxText+1)) }},
	{"an empty To", impl.ErrForm, func(s *faultySubmit) { s.to = append(some(""), s.to...) }},
	{"too many To", impl.ErrForm, func(s *faultySubmit) { s.to = append(slices.Repeat(some("x@b"), maxExpand), s.to...) }},
	{"no To", impl.ErrForm, func(s *faultySubmit) { s.withoutAnyone = true }},
	{"no head", impl.ErrSyntax, func(s *faultySubmit) { s.ill = "ill\r\n" }},
	{"too many fields", impl.ErrSyntax, func(s *faultySubmit) { s.ill = strings.Repeat("a:\r\n", maxFields+1) }},
	{"a message above MaxText", impl.ErrSyntax, func(s *faultySubmit) { s.size = maxText + 1 }},
	{"too many hops", impl.ErrLoop, func(s *faultySubmit) { s.hops = maxHops }},
	{"a circle", impl.ErrLoop, func(s *faultySubmit) { s.to = append(s.to, "round@a") }},
	{"too many addresses", impl.ErrCount, func(s *faultySubmit) { s.to = append(s.to, "p@a") }},
	{"too long a way", impl.ErrCount, func(s *faultySubmit) { s.to = append(s.to, "c1@a") }},
	{"no room for a field", impl.ErrSize, func(s *faultySubmit) { s.size = max(s.size, maxText) }},
	{"no room for an item", impl.ErrFull, func(s *faultySubmit) {
		s.ahead = []impl.QueueOp{saysLater("z"), submitting("", farPeople("p", 1, 200), ""), submitting("", farPeople("p", 1, 200), "")}
	}},
}

// farPeople are people whose host is another one.
func farPeople(name string, from, to int) []string {
	var out []string
	for _, key := range people(name, from, to) {
		out = append(out, strings.TrimSuffix(key, "b")+"z")
	}
	return out
}

func faultyQueue() impl.QueueConfig {
	return changedQueue(func(c *impl.QueueConfig) {
		c.Aliases = slices.Concat(hundreds("p", maxExpand+1), chain(maxWay+1), []impl.Alias{alias("round@a", "r2@a"), alias("r2@a", "round@a")})
	})
}

func lastCode(run impl.QueueRun) int64 { return run.Outs[len(run.Outs)-1].Code }

func TestRunQueueSubmitFaults(t *testing.T) {
	start := faultySubmit{from: "ann@a", to: some("x@b")}
	run := checkQueue(t, "no fault", faultyQueue(), start.ops()...)
	wantNumbers(t, "code", "no fault", queueCodes(run), []int64{0})
	for at, first := range submitFaults {
		one := start
		first.set(&one)
		// What is refused changes nothing: the next one has the numbers.
		run = checkQueue(t, first.what, faultyQueue(), append(one.ops(), passing(0), mailTo("b@a"))...)
		out := run.Outs[len(one.ahead)]
		if out.Code != first.code || len(out.Items) != 0 || len(out.Events) != 0 {
			t.Errorf("%s: %s, want code %d", first.what, shown(out), first.code)
		}
		for _, second := range submitFaults[at+1:] {
			both := start
			first.set(&both)
			second.set(&both)
			run = checkQueue(t, first.what+" and "+second.what, faultyQueue(), both.ops()...)
			if lastCode(run) != first.code {
				t.Errorf("%s and %s: code %d, want %d", first.what, second.what, lastCode(run), first.code)
			}
		}
	}
	for _, c := range []struct {
		to   []string
		code int64
	}{
		{some("round@a", "p@a"), impl.ErrLoop}, {some("p@a", "round@a"), impl.ErrCount}, {some("c1@a", "round@a"), impl.ErrCount}, {some("round@a", "c1@a"), impl.ErrLoop},
		{some("c2@a", "c1@a"), impl.OK}, {some("c1@a", "c2@a"), impl.ErrCount},
		{append(people("q", 1, maxExpand-100), "p-1@a"), impl.OK}, {append(people("q", 1, maxExpand-99), "p-1@a"), impl.ErrCount},
		{append(people("p", 1, 100), "p-101@a", "p-1@a"), impl.OK}, {append(people("p", 1, 100), "p-101@a", "p-1@a", "p201@b"), impl.ErrCount},
		{append(people("p", 1, 100), "p-101@a", "p-1@a", "p200@b", "p-101@a"), impl.OK},
	} {
		run = checkQueue(t, fmt.Sprint(c.to), faultyQueue(), mailTo(c.to...))
		wantNumbers(t, "code", fmt.Sprint(c.to), queueCodes(run), ids(c.code))
	}
}

func TestRunQueueSubmitKeys(t *testing.T) {
	for _, ill := range illKeys {
		for what, op := range map[string]impl.QueueOp{
			"an ill From": submitting(ill, some("x@b"), plainMail), "an ill To": mailTo(ill), "an ill last To": mailTo("x@b", ill), "an ill first To": mailTo(ill, "x@b"),
		} {
			want := int64(impl.ErrForm)
			if ill == "" && what == "an ill From" {
				want = impl.OK
			}
			run := checkQueue(t, what, plainQueue(), op)
			wantNumbers(t, "code", what+short(ill), queueCodes(run), ids(want))
		}
	}
	// An alias that stands for a circle does no harm as long as nobody writes to it.
	run := checkQueue(t, "a From that is an alias", faultyQueue(), saysNever("z"), submitting("round@a", some("x@z"), plainMail))
	checkTimes(t, "a From that is an alias", run, "B1>z@0 D2@0", 0)
	wantText(t, "whom the bounce is for", "", run.Boxes[0].To, "round@a")
}

func TestRunQueueTo(t *testing.T) {
	run := checkQueue(t, "MaxExpand To", plainQueue(), saysLater("h1"), saysLater("h2"), mailTo(people("p", 1, maxExpand)...), mailTo(people("q", 1, maxExpand+1)...), mailTo(slices.Repeat(some("x@b"), maxExpand)...), mailTo(slices.Repeat(some("x@b"), maxExpand+1)...))
	wantNumbers(t, "codes", "MaxExpand To", queueCodes(run), ids(0, 0, 0, impl.ErrForm, 0, impl.ErrForm))
	wantNumbers(t, "Items", "MaxExpand To", run.Outs[2].Items, upTo(1, maxExpand))
	wantNumbers(t, "Held", "MaxExpand To", ids(run.Outs[2].Held, run.Outs[3].Held, run.Outs[4].Held, run.Outs[5].Held), ids(200, 200, 201, 201))
}

func TestRunQueueHops(t *testing.T) {
	for count, code := range map[int]int64{0: 0, 1: 0, maxHops - 1: 0, maxHops: impl.ErrLoop, maxHops + 1: impl.ErrLoop, maxFields: impl.ErrLoop, maxFields + 1: impl.ErrSyntax} {
		for _, line := range some("Received: x\r\n", "received:\r\n", "RECEIVED : y\r\n z\r\n") {
			run := checkQueue(t, fmt.Sprint(count, " hops"), plainQueue(), mailTo("b@a"), submitting("", some("b@a"), strings.Repeat(line, count)), submitting("", some("b@a"), strings.Repeat(line, count)+"\r\nx"))
			wantNumbers(t, "codes", fmt.Sprint(count, " hops"), queueCodes(run), ids(0, code, code))
		}
	}
	others := strings.Repeat("X-Received: x\r\nReceived-By: y\r\n", maxHops) + strings.Repeat("Received: x\r\n", maxHops-1) + "\r\n" + strings.Repeat("Received: x\r\n", maxHops)
	run := checkQueue(t, "other fields, and a body", plainQueue(), mailTo("b@a"), submitting("", some("b@a"), others))
	wantNumbers(t, "codes", "other fields", queueCodes(run), ids(0, 0))
	// A message that comes again and again goes round in the end.
	message := plainMail
	for at := range maxHops + 2 {
		run = checkQueue(t, "again", plainQueue(), submitting("", some("b@a"), message))
		if at >= maxHops {
			wantNumbers(t, "code", "again", queueCodes(run), ids(impl.ErrLoop))
			continue
		}
		message = run.Boxes[0].Message
	}
}

func TestRunQueueSizes(t *testing.T) {
	field := "Received: by a; Thu, 01 Jan 1970 00:00:00 +0000\r\n"
	for size, code := range map[int]int64{2: 0, maxText - len(field) - 1: 0, maxText - len(field): 0, maxText - len(field) + 1: impl.ErrSize, maxText: impl.ErrSize, maxText + 1: impl.ErrSyntax, 2 * maxText: impl.ErrSyntax} {
		run := checkQueue(t, fmt.Sprint(size, " bytes"), plainQueue(), submitting("", some("b@a"), "\r\n"+xs(size-2)))
		wantNumbers(t, "code", fmt.Sprint(size, " bytes"), queueCodes(run), ids(code))
	}
	// A longer Local leaves less room.
	c := changedQueue(func(c *impl.QueueConfig) { c.Local = labels(maxDomain) })
	run := checkQueue(t, "a long Local", c, submitting("", some("b@a"), "\r\n"+xs(maxText-len(field)-254-2)), submitting("", some("b@a"), "\r\n"+xs(maxText-len(field)-254-1)))
	wantNumbers(t, "codes", "a long Local", queueCodes(run), ids(0, impl.ErrSize))
	// A bounce shows but the beginning, whatever the size.
	run = checkQueue(t, "a bounce of a great message", plainQueue(), saysNever("z"), submitting("ann@a", some("b@z"), "\r\n"+xs(maxText-len(field)-2)))
	wantNumbers(t, "the bounce's size", "a great message", ids(int64(len(run.Boxes[0].Message))), ids(int64(len(impl.Bounce("a", "b@z", ""))+2000)))
}

func TestRunQueueFull(t *testing.T) {
	two := []impl.QueueOp{saysLater("z"), mailTo(farPeople("p", 1, 200)...), mailTo(farPeople("q", 1, 199)...)}
	with := func(ops ...impl.QueueOp) []impl.QueueOp { return append(slices.Clone(two), ops...) }
	run := checkQueue(t, "MaxItems", plainQueue(), with(mailTo("a@z"), mailTo("b@z"), mailTo("b@a"))...)
	wantNumbers(t, "codes", "MaxItems", queueCodes(run), ids(0, 0, 0, 0, impl.ErrFull, impl.ErrFull))
	wantNumbers(t, "Held", "MaxItems", ids(run.Outs[2].Held, run.Outs[3].Held, run.Outs[4].Held), ids(399, 400, 400))
	run = checkQueue(t, "two where there is room for one", plainQueue(), with(mailTo("a@z", "b@z"), mailTo("a@a", "b@a"), mailTo("a@a", "a@a"), mailTo("b@z"))...)
	wantNumbers(t, "codes", "two", queueCodes(run)[3:], ids(impl.ErrFull, impl.ErrFull, 0, 0))
	wantNumbers(t, "Items", "two", run.Outs[6].Items, ids(401))
	nobody := changedQueue(func(c *impl.QueueConfig) { c.Aliases = []impl.Alias{alias("l@a")} })
	run = checkQueue(t, "nobody where there is no room", nobody, with(mailTo("a@z"), mailTo("l@a"), mailTo("l@a", "a@a"))...)
	wantNumbers(t, "codes", "nobody", queueCodes(run)[3:], ids(0, 0, impl.ErrFull))
	run = checkQueue(t, "room again", plainQueue(), with(mailTo("a@z"), hostSays("z", impl.HostTakes), passing(10), mailTo(farPeople("r", 1, 200)...), saysLater("z"), mailTo(farPeople("r", 1, 200)...), mailTo(farPeople("s", 1, 200)...), mailTo("a@z"))...)
	wantNumbers(t, "codes", "room again", queueCodes(run)[3:], ids(0, 0, 0, 0, 0, 0, 0, impl.ErrFull))
	// Bounces take the places of what is bounced.
	run = checkQueue(t, "bounces that wait", plainQueue(), with(saysLater("y"), passing(0), saysNever("z"), submitting("a@y", some("b@z"), plainMail), passing(10), mailTo(people("t", 1, 200)...))...)
	if out := run.Outs[6]; out.Code != impl.OK || out.Held != 400 {
		t.Errorf("a bounce that waits: %s", shown(out))
	}
	all := []impl.QueueOp{saysLater("z"), saysLater("y"), submitting("a@y", farPeople("p", 1, 200), plainMail), submitting("a@y", farPeople("q", 1, 200), plainMail), saysNever("z"), passing(10), mailTo("b@a"), hostSays("y", impl.HostTakes), passing(10), mailTo("b@a")}
	run = checkQueue(t, "bounces alone", plainQueue(), all...)
	wantNumbers(t, "Held", "bounces alone", ids(run.Outs[5].Held, run.Outs[6].Code, run.Outs[8].Held, run.Outs[9].Items[0]), ids(400, impl.ErrFull, 0, 801))
}

func TestRunQueueWaits(t *testing.T) {
	wrong := []int64{-1, math.MinInt64, math.MinInt64 + 1, -maxTime, maxTime + 1, math.MaxInt64, math.MaxInt64 - 1, math.MaxInt64 - maxTime}
	for _, wait := range append(wrong, maxTime-99) {
		run := checkQueue(t, "a wrong wait", plainQueue(), saysLater("z"), mailTo("b@z"), passing(5), passing(95), passing(wait), mailTo("b@a"), passing(maxTime-100), passing(0), passing(1), mailTo("b@a"))
		wantNumbers(t, "codes", fmt.Sprint("wait ", wait), queueCodes(run), ids(0, 0, 0, 0, impl.ErrForm, 0, 0, 0, impl.ErrForm, 0))
		wantNumbers(t, "Held", fmt.Sprint("wait ", wait), ids(run.Outs[4].Held, run.Outs[5].Events[0].Time), ids(1, 100))
	}
	run := checkQueue(t, "all the time at once", plainQueue(), passing(0), passing(maxTime), mailTo("b@a"), passing(1), passing(0))
	wantNumbers(t, "codes", "all the time", queueCodes(run), ids(0, 0, 0, impl.ErrForm, 0))
	if !strings.HasPrefix(run.Boxes[0].Message, "Received: by a; Fri, 31 Dec 9999 23:59:59 +0000\r\n") {
		t.Errorf("the last message: %s", short(run.Boxes[0].Message))
	}
	// A pass tries what is due at its very end, and nothing behind that.
	for wait, want := range map[int64]string{0: "L1@0", 9: "L1@0", 10: "L1@0 L1@10", 109: "L1@0 L1@10", 110: "L1@0 L1@10 B1>z@110 D2@110", 5000: "L1@0 L1@10 B1>z@110 D2@110"} {
		run = checkQueue(t, "a pass", plainQueue(), saysLater("z"), mailTo("b@z"), passing(wait))
		checkTimes(t, fmt.Sprint("wait ", wait), run, want, map[bool]int64{true: 1, false: 0}[wait < 110])
		cut := []impl.QueueOp{saysLater("z"), mailTo("b@z")}
		for range min(wait, 200) {
			cut = append(cut, passing(1))
		}
		run = checkQueue(t, "a pass in pieces", plainQueue(), cut...)
		wantText(t, "in pieces", fmt.Sprint("wait ", wait), timeline(run), want)
	}
}

func TestRunQueueOrder(t *testing.T) {
	c := changedQueue(func(c *impl.QueueConfig) { c.Delays, c.MaxAge = []int64{10, 5}, 20 })
	run := checkQueue(t, "several with one Next", c, saysLater("z"), submitting("", some("a@z", "b@z"), plainMail), passing(5), submitting("", some("c@z"), plainMail), passing(20))
	checkTimes(t, "several with one Next", run, "L1@0 L2@0 L3@5 L1@10 L2@10 L1@15 L2@15 L3@15 X1>z@20 X2>z@20 L3@20 X3>z@25", 0)
	c.MaxAge = 16
	run = checkQueue(t, "a later pass", c, saysLater("z"), submitting("", some("a@z", "b@z"), plainMail), passing(5), submitting("", some("c@z"), plainMail), passing(10), passing(1), passing(30))
	checkTimes(t, "a later pass", run, "L1@0 L2@0 L3@5 L1@10 L2@10 X1>z@15 X2>z@15 L3@15 X3>z@20", 0)
	// Many items, whose Nexts come in another order than their numbers.
	c = changedQueue(func(c *impl.QueueConfig) { c.Delays, c.MaxAge = []int64{50, 3, 7, 1}, 100 })
	ops := []impl.QueueOp{saysLater("z")}
	for at := range 60 {
		ops = append(ops, mailTo(farPeople(fmt.Sprint("p", at, "-"), 1, 3)...), passing(int64(at%4)))
	}
	checkQueue(t, "many items", c, append(ops, passing(30), hostSays("z", impl.HostTakes), passing(3), saysLater("z"), passing(1000))...)
	// A bounce's own items stand among the others.
	c = changedQueue(func(c *impl.QueueConfig) { c.Delays, c.MaxAge = []int64{10}, 25 })
	run = checkQueue(t, "bounces among others", c, saysLater("z"), saysLater("y"), submitting("s@y", some("a@z"), plainMail), passing(3), submitting("", some("b@z"), plainMail), passing(60))
	checkTimes(t, "bounces among others", run, "L1@0 L2@3 L1@10 L2@13 B1>z@20 L3@20 X2>z@23 L3@30 X3>y@40", 0)
	// All of one submission are tried, then what comes of them is tried in its turn.
	run = checkQueue(t, "bounces at once", c, saysNever("z"), submitting("s@y", some("a@z", "b@a", "c@z"), plainMail))
	checkTimes(t, "bounces at once", run, "B1>z@0 D4>y@0 D2@0 B3>z@0 D5>y@0", 0)
	wantNumbers(t, "Items", "bounces at once", run.Outs[1].Items, upTo(1, 3))
}

func TestRunQueueOften(t *testing.T) {
	c := changedQueue(func(c *impl.QueueConfig) { c.Delays, c.MaxAge = []int64{1}, 50 })
	var want []string
	for at := range 50 {
		want = append(want, fmt.Sprintf("L1@%d", at))
	}
	run := checkQueue(t, "often in one pass", c, saysLater("z"), mailTo("a@z"), passing(100))
	checkTimes(t, "often in one pass", run, strings.Join(want, " ")+" B1>z@50 D2@50", 0)
	// The try number MaxTries is the last one, whatever the age.
	for _, age := range []int64{99, 100, 1000, maxTime} {
		c.MaxAge = age
		want = nil
		for at := range maxTries - 1 {
			want = append(want, fmt.Sprintf("L1@%d", at))
		}
		run = checkQueue(t, "MaxTries", c, saysLater("z"), mailTo("a@z"), passing(98), passing(1), passing(1000))
		checkTimes(t, fmt.Sprint("MaxTries, age ", age), run, strings.Join(want, " ")+" B1>z@99 D2@99", 0)
		wantNumbers(t, "Held", "MaxTries", ids(run.Outs[2].Held, run.Outs[3].Held), ids(1, 0))
	}
	c.MaxAge = 98
	run = checkQueue(t, "the age ahead of MaxTries", c, saysLater("z"), mailTo("a@z"), passing(1000))
	wantText(t, "the end", "the age ahead of MaxTries", timeline(run)[len(timeline(run))-len("B1>z@98 D2@98"):], "B1>z@98 D2@98")
	// Tries are the item's own.
	c.MaxAge = maxTime
	run = checkQueue(t, "MaxTries of several", c, saysLater("z"), saysLater("y"), submitting("s@y", some("a@z", "b@z"), plainMail), passing(40), submitting("s@y", some("a@z", "b@z"), plainMail), passing(1000))
	if end := timeline(run); !strings.HasSuffix(end, "X7>y@238 X8>y@238") {
		t.Errorf("MaxTries of several: %s", end)
	}
}

func TestRunQueueDelays(t *testing.T) {
	c := changedQueue(func(c *impl.QueueConfig) { c.MaxAge = maxTime })
	for count := 1; count <= maxDelays; count++ {
		c.Delays = nil
		for at := range count {
			c.Delays = append(c.Delays, int64(3+(at*7)%23))
		}
		var want []string
		now := int64(0)
		for try := range maxTries - 1 {
			want = append(want, fmt.Sprintf("L1@%d", now))
			now += c.Delays[min(try, count-1)]
		}
		run := checkQueue(t, fmt.Sprint(count, " delays"), c, saysLater("z"), mailTo("a@z"), passing(3000))
		checkTimes(t, fmt.Sprint(count, " delays"), run, strings.Join(want, " ")+fmt.Sprintf(" B1>z@%d D2@%d", now, now), 0)
	}
}

func TestRunQueueAge(t *testing.T) {
	later := []impl.QueueOp{passing(1000), saysLater("z"), mailTo("a@z"), passing(500)}
	for age, want := range map[int64]string{
		0: "B1>z@1000 D2@1000", 1: "B1>z@1000 D2@1000", 9: "B1>z@1000 D2@1000", 10: "L1@1000 B1>z@1010 D2@1010", 11: "L1@1000 B1>z@1010 D2@1010",
		109: "L1@1000 B1>z@1010 D2@1010", 110: "L1@1000 L1@1010 B1>z@1110 D2@1110", 209: "L1@1000 L1@1010 B1>z@1110 D2@1110", 210: "L1@1000 L1@1010 L1@1110 B1>z@1210 D2@1210",
	} {
		c := changedQueue(func(c *impl.QueueConfig) { c.MaxAge = age })
		run := checkQueue(t, fmt.Sprint("age ", age), c, later...)
		checkTimes(t, fmt.Sprint("age ", age), run, want, 0)
	}
	// A bounce has an age of its own.
	c := changedQueue(func(c *impl.QueueConfig) { c.MaxAge = 10 })
	run := checkQueue(t, "a bounce's age", c, saysLater("z"), saysLater("y"), submitting("s@y", some("a@z"), plainMail), passing(500))
	checkTimes(t, "a bounce's age", run, "L1@0 B1>z@10 L2@10 X2>y@20", 0)
	// What hosts take is taken at any age.
	run = checkQueue(t, "no age", changedQueue(func(c *impl.QueueConfig) { c.MaxAge = 0 }), mailTo("a@z", "b@a", "x@b"))
	checkTimes(t, "no age", run, "D1>z@0 D2@0 D3>h1@0", 0)
	// The time ends: nothing waits for what is behind it.
	for delay, want := range map[int64]string{1: "L1", 5: "L1", 6: "B1>z", maxTime: "B1>z"} {
		c = changedQueue(func(c *impl.QueueConfig) { c.Delays, c.MaxAge = []int64{delay}, maxTime })
		run = checkQueue(t, "the end of time", c, passing(maxTime-5), saysLater("z"), mailTo("a@z"), passing(4), passing(1), passing(0))
		if first := timeline(run); !strings.HasPrefix(first, fmt.Sprintf("%s@%d", want, int64(maxTime)-5)) || run.Outs[5].Held != 0 {
			t.Errorf("the end of time, delay %d: %s, held %d", delay, first, run.Outs[5].Held)
		}
	}
	c = changedQueue(func(c *impl.QueueConfig) { c.Delays, c.MaxAge = []int64{maxTime}, maxTime })
	run = checkQueue(t, "all the time", c, saysLater("z"), mailTo("a@z"), passing(maxTime-1), passing(1))
	checkTimes(t, "all the time", run, fmt.Sprintf("L1@0 B1>z@%d D2@%d", int64(maxTime), int64(maxTime)), 0)
}

// TestRunQueueHosts asks three hosts, with each answer of each.
func TestRunQueueHosts(t *testing.T) {
	c := changedQueue(func(c *impl.QueueConfig) {
		c.Mx, c.MaxAge = []impl.Mx{mx("B", 3, "h3"), mx("b", 1, "h1"), mx("b", 2, "h2")}, 10
	})
	for first := range int64(3) {
		for second := range int64(3) {
			for third := range int64(3) {
				want := "L1@0 B1>h3@10 D2@10"
				for at, answer := range ids(third, second, first) {
					switch answer {
					case impl.HostTakes:
						want = fmt.Sprintf("D1>h%d@0", 3-at)
					case impl.HostNever:
						want = fmt.Sprintf("B1>h%d@0 D2@0", 3-at)
					}
				}
				ops := []impl.QueueOp{hostSays("h1", first), hostSays("h2", second), hostSays("h3", third), mailTo("x@b"), passing(100)}
				run := checkQueue(t, "three hosts", c, ops...)
				checkTimes(t, fmt.Sprint("hosts that say ", first, second, third), run, want, 0)
			}
		}
	}
	run := checkQueue(t, "a host that changes its mind", c, saysNever("h1"), saysLater("h1"), saysLater("h2"), saysLater("h3"), mailTo("x@b"), passing(9), hostSays("h2", impl.HostTakes), mailTo("y@b"), passing(1))
	checkTimes(t, "a host that changes its mind", run, "L1@0 D2>h2@9 D1>h2@10", 0)
	run = checkQueue(t, "one that comes to say never", c, saysLater("h1"), saysLater("h2"), saysLater("h3"), mailTo("x@b"), saysNever("h2"), passing(10))
	checkTimes(t, "one that comes to say never", run, "L1@0 B1>h2@10 D2@10", 0)
	run = checkQueue(t, "hosts of other domains", c, saysLater("b"), saysNever("c"), mailTo("x@b"), mailTo("x@c"), mailTo("x@d"))
	checkTimes(t, "hosts of other domains", run, "D1>h1@0 B2>c@0 D3@0 D4>d@0", 0)
	// Letters are compared as they are: a host is another one in capital letters.
	run = checkQueue(t, "capital letters", plainQueue(), saysNever("H1"), mailTo("x@b"), saysNever("h3"), mailTo("x@c"), saysNever("H3"), mailTo("x@c"))
	checkTimes(t, "capital letters", run, "D1>h1@0 D2>H3@0 B3>H3@0 D4@0", 0)
	// Nobody is asked about what is here.
	here := changedQueue(func(c *impl.QueueConfig) { c.Mx = append(c.Mx, mx("a", 0, "h9")) })
	run = checkQueue(t, "hosts of here", here, saysNever("a"), saysNever("h9"), mailTo("x@a"))
	checkTimes(t, "hosts of here", run, "D1@0", 0)
	run = checkQueue(t, "domains that are not quite here", plainQueue(), mailTo("x@a.a", "x@aa", "a@x.a"))
	checkTimes(t, "not quite here", run, "D1>a.a@0 D2>aa@0 D3>x.a@0", 0)
	run = checkQueue(t, "an @ in the local part", plainQueue(), mailTo("x@b@a", "x@a@b"))
	checkTimes(t, "an @ in the local part", run, "D1@0 D2>h1@0", 0)
}

func TestRunQueueHostFaults(t *testing.T) {
	for _, ill := range illDomains {
		run := checkQueue(t, "an ill host", plainQueue(), hostSays(ill, 1))
		wantNumbers(t, "code", short(ill), queueCodes(run), ids(impl.ErrForm))
	}
	for answer, code := range map[int64]int64{-1: impl.ErrForm, 0: 0, 1: 0, 2: 0, 3: impl.ErrForm, 256: impl.ErrForm, 1 << 32: impl.ErrForm, math.MinInt64: impl.ErrForm, math.MaxInt64: impl.ErrForm} {
		run := checkQueue(t, "an answer", plainQueue(), saysNever("z"), hostSays("z", answer), mailTo("x@z"))
		wantNumbers(t, "code", fmt.Sprint("answer ", answer), queueCodes(run), ids(0, code, 0))
	}
	var ops []impl.QueueOp
	for at := range maxHosts {
		ops = append(ops, hostSays(fmt.Sprintf("host%d", at), int64(at%3)))
	}
	more := append(slices.Clone(ops), hostSays("another", 2), hostSays("host0", 2), hostSays("host199", 1), hostSays("HOST0", 0), mailTo("x@host0", "x@another"))
	run := checkQueue(t, "200 hosts", plainQueue(), more...)
	wantNumbers(t, "codes", "200 hosts", queueCodes(run)[maxHosts-1:], ids(0, impl.ErrForm, 0, 0, impl.ErrForm, 0))
	checkTimes(t, "200 hosts", run, "B1>host0@0 D3@0 D2>another@0", 0)
	// A host of which was told twice is one, and those of which nothing was told are none.
	again := append(slices.Clone(ops[:maxHosts-1]), ops[0], ops[1], mailTo("x@y"), hostSays("ill host", 1), hostSays("another", 3), hostSays("another", 1), hostSays("one more", 1), hostSays("onemore", 1))
	run = checkQueue(t, "199 hosts", plainQueue(), again...)
	wantNumbers(t, "codes", "199 hosts", queueCodes(run)[maxHosts-1:], ids(0, 0, 0, impl.ErrForm, impl.ErrForm, 0, impl.ErrForm, impl.ErrForm))
}

func TestRunQueueBounces(t *testing.T) {
	full := "Received: by a; Thu, 01 Jan 1970 00:00:00 +0000\r\n" + plainMail
	run := checkQueue(t, "to here", plainQueue(), saysNever("z"), mailTo("x@z"))
	checkTimes(t, "to here", run, "B1>z@0 D2@0", 0)
	if want := (impl.Local{Item: 2, To: "ann@a", Message: impl.Bounce("a", "x@z", full)}); len(run.Boxes) != 1 || run.Boxes[0] != want {
		t.Errorf("a bounce to here: %s, want %s", shown(run.Boxes), shown(want))
	}
	wantNumbers(t, "Items", "to here", run.Outs[1].Items, ids(1))
	run = checkQueue(t, "from nobody", plainQueue(), saysNever("z"), submitting("", some("x@z"), plainMail))
	checkTimes(t, "from nobody", run, "X1>z@0", 0)
	run = checkQueue(t, "to one who refuses", plainQueue(), saysNever("z"), saysNever("y"), submitting("s@y", some("x@z"), plainMail))
	checkTimes(t, "to one who refuses", run, "B1>z@0 X2>y@0", 0)
	run = checkQueue(t, "to the same", plainQueue(), saysNever("z"), submitting("x@z", some("x@z"), plainMail))
	checkTimes(t, "to the same", run, "B1>z@0 X2>z@0", 0)
	run = checkQueue(t, "to one who says later", plainQueue(), saysNever("z"), saysLater("y"), submitting("s@y", some("x@z"), plainMail), passing(9), passing(1), hostSays("y", impl.HostTakes), passing(99), passing(1))
	checkTimes(t, "to one who says later", run, "B1>z@0 L2@0 L2@10 D2>y@110", 0)
	wantNumbers(t, "Held", "to one who says later", ids(run.Outs[2].Held, run.Outs[3].Held, run.Outs[6].Held, run.Outs[7].Held), ids(1, 1, 1, 0))
	run = checkQueue(t, "to one who is far off", plainQueue(), saysNever("z"), submitting("s@b", some("x@z", "l@a"), plainMail))
	checkTimes(t, "to one who is far off", run, "B1>z@0 D4>h1@0 D2@0 D3>h1@0", 0)
	// A sender who is an alias hears of it themself: the bounce goes to no other.
	c := changedQueue(func(c *impl.QueueConfig) { c.Aliases = []impl.Alias{alias("ann@a", "bob@y")} })
	run = checkQueue(t, "from an alias", c, saysNever("z"), mailTo("x@z"))
	checkTimes(t, "from an alias", run, "B1>z@0 D2@0", 0)
	// The bounce of an alias names whom it stood for.
	run = checkQueue(t, "to an alias", plainQueue(), saysNever("h1"), mailTo("l@a"))
	checkTimes(t, "to an alias", run, "D1@0 B2>h1@0 D3@0", 0)
	wantText(t, "the bounce", "to an alias", run.Boxes[1].Message, impl.Bounce("a", "x@b", full))
	// A bounce tells of the message as it was when it was submitted.
	run = checkQueue(t, "a bounce later on", plainQueue(), saysLater("z"), mailTo("x@z"), passing(110))
	wantText(t, "the bounce", "later on", run.Boxes[0].Message, impl.Bounce("a", "x@z", full))
	long := "A: b\r\n\r\n" + strings.Repeat("0123456789", 1000)
	run = checkQueue(t, "a long one", plainQueue(), saysNever("z"), submitting("ann@a", some("x@z"), long))
	wantText(t, "the bounce", "long", run.Boxes[0].Message, impl.Bounce("a", "x@z", full[:len(full)-len(plainMail)]+long))
}

// queueConfig is made up, with short delays, so that much comes to pass.
func (d *dice) queueConfig() impl.QueueConfig {
	c := impl.QueueConfig{Local: d.pick("a", "b"), Aliases: d.aliases(), Mx: d.mxTable(d.below(9)), MaxAge: int64(d.below(60))}
	for range 1 + d.below(5) {
		c.Delays = append(c.Delays, int64(1+d.below(20)))
	}
	return c
}

func (d *dice) queueKey() string {
	return d.pick("n0@a", "n1@a", "n2@a", "x1@b", "x2@b", "y1@a", "z@c", "z@c.d", "z@e", "z@f", "z@c@b")
}

func (d *dice) queueOp() impl.QueueOp {
	switch d.below(8) {
	case 0, 1:
		return passing(int64(d.below(40)))
	case 2, 3:
		return hostSays(d.pick("h1", "h2", "h3", "h4", "H1", "b", "c", "e", "f"), int64(d.below(3)))
	case 4:
		op := d.queueOp()
		op.Kind, op.From, op.Wait, op.Answer = int64(d.below(5)), d.pick("", "x", op.From), op.Wait-1, op.Answer-1
		return op
	}
	op := submitting(d.queueKey(), nil, d.pick(plainMail, "\r\n", "", "x", "Received: x\r\n"+plainMail))
	if d.below(3) == 0 {
		op.From = ""
	}
	for range d.below(5) {
		op.To = append(op.To, d.queueKey())
	}
	return op
}

func (d *dice) queueOps(size int) []impl.QueueOp {
	var ops []impl.QueueOp
	for range size {
		ops = append(ops, d.queueOp())
	}
	return ops
}

func TestRunQueueOfAnyOps(t *testing.T) {
	d := &dice{state: 1605}
	kinds, codes := map[int64]int{}, map[int64]int{}
	for range 1500 {
		run := checkQueue(t, "made up", d.queueConfig(), d.queueOps(40)...)
		for _, out := range run.Outs {
			codes[out.Code]++
			for _, event := range out.Events {
				kinds[event.Kind]++
			}
		}
	}
	for kind := int64(1); kind <= 4; kind++ {
		if kinds[kind] < 1000 {
			t.Errorf("only %d events of kind %d", kinds[kind], kind)
		}
	}
	for _, code := range ids(impl.OK, impl.ErrForm, impl.ErrSyntax, impl.ErrLoop) {
		if codes[code] < 300 {
			t.Errorf("only %d codes %d", codes[code], code)
		}
	}
}

// itemStory is all that was told of an item.
type itemStory struct {
	from, to string
	events   []impl.QueueEvent
	boxes    int
}

// storiesOf puts together what a run has told of each item. Those that no submission has told come of a bounce.
func storiesOf(t *testing.T, ops []impl.QueueOp, run impl.QueueRun) map[int64]*itemStory {
	t.Helper()
	stories := map[int64]*itemStory{}
	for at, out := range run.Outs {
		for _, number := range out.Items {
			if stories[number] != nil {
				t.Fatalf("the number %d is told twice", number)
			}
			stories[number] = &itemStory{from: ops[at].From}
		}
		for _, event := range out.Events {
			if stories[event.Item] == nil {
				stories[event.Item] = &itemStory{}
			}
			story := stories[event.Item]
			story.to, story.events = event.To, append(story.events, event)
		}
	}
	for _, one := range run.Boxes {
		stories[one.Item].boxes++
	}
	for number := int64(1); number <= int64(len(stories)); number++ {
		if stories[number] == nil || len(stories[number].events) == 0 {
			t.Fatalf("nothing is told of item %d of %d", number, len(stories))
		}
	}
	return stories
}

// TestPromise23 has nothing lost, and nothing come twice.
func TestPromise23(t *testing.T) {
	d := &dice{state: 1606}
	bounced, waiting := 0, 0
	for range 600 {
		c, ops := d.queueConfig(), d.queueOps(60)
		run := impl.RunQueue(c, ops)
		stories := storiesOf(t, ops, run)
		atWork := int64(0)
		for number, story := range stories {
			ends := map[int64]int{}
			for _, event := range story.events {
				ends[event.Kind]++
			}
			last := story.events[len(story.events)-1]
			ended := ends[impl.EvDelivered] + ends[impl.EvBounced] + ends[impl.EvDropped]
			here := last.Kind == impl.EvDelivered && strings.HasSuffix(last.To, "@"+c.Local)
			if ended > 1 || ended == 1 && last.Kind == impl.EvLater || (story.boxes == 1) != here || story.boxes > 1 {
				t.Fatalf("item %d: %v, in %d boxes", number, story.events, story.boxes)
			}
			if last.Kind == impl.EvBounced && story.from == "" || last.Kind == impl.EvDropped && story.from != "" {
				t.Fatalf("item %d from %q: %v", number, story.from, story.events)
			}
			if ended == 0 {
				atWork++
				waiting++
			}
		}
		if held := run.Outs[len(run.Outs)-1].Held; held != atWork {
			t.Fatalf("%d are held, and %d have come to no end", held, atWork)
		}
		bounced += checkSenders(t, run, stories)
	}
	if bounced < 1000 || waiting < 150 {
		t.Errorf("%d were bounced, %d waited", bounced, waiting)
	}
}

// checkSenders wants just one item to the sender of each that was bounced, right behind it, and no other item but those of submissions.
func checkSenders(t *testing.T, run impl.QueueRun, stories map[int64]*itemStory) int {
	t.Helper()
	submitted, bounced := 0, 0
	for _, out := range run.Outs {
		submitted += len(out.Items)
		for at, event := range out.Events {
			if event.Kind != impl.EvBounced {
				continue
			}
			bounced++
			if at+1 == len(out.Events) {
				t.Fatalf("nothing is told behind %v", event)
			}
			next := out.Events[at+1]
			if story := stories[next.Item]; next.To != stories[event.Item].from || story.events[0] != next || story.from != "" || next.Time != event.Time {
				t.Fatalf("behind %v: %v", event, next)
			}
		}
	}
	if submitted+bounced != len(stories) {
		t.Fatalf("%d items, of which %d were submitted and %d come of bounces", len(stories), submitted, bounced)
	}
	return bounced
}

// TestPromise24 holds the times of all tries against the delays and the age.
func TestPromise24(t *testing.T) {
	d := &dice{state: 1607}
	often, aged := 0, 0
	for range 600 {
		c, ops := d.queueConfig(), d.queueOps(60)
		run := impl.RunQueue(c, ops)
		now := int64(0)
		for at, out := range run.Outs {
			before := now
			if ops[at].Kind == impl.QuPass && out.Code == impl.OK {
				now += ops[at].Wait
			}
			for _, event := range out.Events {
				if event.Time < before || event.Time > now {
					t.Fatalf("%v in an operation from %d to %d", event, before, now)
				}
				before = event.Time
			}
		}
		for number, story := range storiesOf(t, ops, run) {
			often += checkTries(t, c, number, story.events, now)
			if last := story.events[len(story.events)-1]; last.Kind == impl.EvBounced && len(story.events) > 1 {
				aged++
			}
		}
	}
	if often < 3000 || aged < 300 {
		t.Errorf("%d tries put off, %d bounced later on", often, aged)
	}
}

func checkTries(t *testing.T, c impl.QueueConfig, number int64, events []impl.QueueEvent, now int64) (putOff int) {
	t.Helper()
	next := events[0].Time
	for try, event := range events {
		if event.Time != next || event.Time > events[0].Time+c.MaxAge {
			t.Fatalf("item %d is tried at %d, want %d, age %d: %v", number, event.Time, next, c.MaxAge, events)
		}
		if event.Kind == impl.EvLater {
			putOff++
			next += c.Delays[min(try, len(c.Delays)-1)]
		}
	}
	if last := events[len(events)-1]; last.Kind == impl.EvLater && (next <= now || next > events[0].Time+c.MaxAge) {
		t.Fatalf("item %d waits at %d for %d, age %d: %v", number, now, next, c.MaxAge, events)
	}
	return putOff
}

// roomyQueue has texts of its own, and room behind its lists, with something in it.
func roomyQueue(c impl.QueueConfig) impl.QueueConfig {
	c.Local = strings.Clone(c.Local)
	c.Aliases, c.Mx = roomyAliases(c.Aliases), roomyMx(c.Mx)
	c.Delays = append(slices.Clone(c.Delays), 7777, 7777)[:len(c.Delays)]
	return c
}

func roomyTexts(texts []string) []string {
	var out []string
	for _, text := range texts {
		out = append(out, strings.Clone(text))
	}
	return append(out, "room", "room")[:len(texts)]
}

func roomyAliases(aliases []impl.Alias) []impl.Alias {
	var out []impl.Alias
	for _, a := range aliases {
		out = append(out, alias(strings.Clone(a.Name), roomyTexts(a.To)...))
	}
	return append(out, alias("room"), alias("room"))[:len(aliases)]
}

func roomyMx(table []impl.Mx) []impl.Mx {
	var out []impl.Mx
	for _, one := range table {
		out = append(out, mx(strings.Clone(one.Domain), one.Prefer, strings.Clone(one.Host)))
	}
	return append(out, mx("room", 0, "room"), mx("room", 0, "room"))[:len(table)]
}

func roomyQueueOps(ops []impl.QueueOp) []impl.QueueOp {
	var out []impl.QueueOp
	for _, op := range ops {
		op.From, op.Message, op.Host, op.To = strings.Clone(op.From), strings.Clone(op.Message), strings.Clone(op.Host), roomyTexts(op.To)
		out = append(out, op)
	}
	return append(out, passing(77), passing(77))[:len(ops)]
}

// queueWithRoom tells all that was handed in, and what stands in the room behind it.
func queueWithRoom(c impl.QueueConfig, ops []impl.QueueOp) string {
	var out strings.Builder
	fmt.Fprint(&out, c.Local, c.MaxAge, c.Delays[:len(c.Delays)+2], c.Mx[:len(c.Mx)+2])
	for _, a := range c.Aliases {
		fmt.Fprint(&out, a.Name, a.To[:len(a.To)+2])
	}
	fmt.Fprint(&out, c.Aliases[:len(c.Aliases)+2][len(c.Aliases):])
	for _, op := range ops {
		fmt.Fprint(&out, op, op.To[:len(op.To)+2])
	}
	fmt.Fprint(&out, ops[:len(ops)+2][len(ops):])
	return out.String()
}

func queueSpans(c impl.QueueConfig, ops []impl.QueueOp) (lists, texts []span) {
	lists = append(lists, spanOf(c.Aliases), spanOf(c.Mx), spanOf(c.Delays), spanOf(ops))
	texts = append(texts, textSpan(c.Local))
	addTexts := func(list []string) {
		lists = append(lists, spanOf(list))
		for _, text := range list {
			texts = append(texts, textSpan(text))
		}
	}
	for _, a := range c.Aliases {
		texts = append(texts, textSpan(a.Name))
		addTexts(a.To)
	}
	for _, one := range c.Mx {
		texts = append(texts, textSpan(one.Domain), textSpan(one.Host))
	}
	for _, op := range ops {
		texts = append(texts, textSpan(op.From), textSpan(op.Message), textSpan(op.Host))
		addTexts(op.To)
	}
	return lists, texts
}

func runSpans(run impl.QueueRun) (lists, texts []span) {
	lists = append(lists, spanOf(run.Outs), spanOf(run.Boxes))
	for _, out := range run.Outs {
		lists = append(lists, spanOf(out.Items), spanOf(out.Events))
		for _, event := range out.Events {
			texts = append(texts, textSpan(event.To), textSpan(event.Host))
		}
	}
	for _, one := range run.Boxes {
		texts = append(texts, textSpan(one.To), textSpan(one.From), textSpan(one.Message))
	}
	return lists, texts
}

// distinctTexts leaves out those that lie where another one does: texts of one answer may be the same.
func distinctTexts(texts []span) []span {
	texts = inOrder(texts)
	return slices.Compact(texts)
}

// TestQueuesShareNothing has answers with memory of their own, and arguments that stay as they are.
func TestQueuesShareNothing(t *testing.T) {
	d := &dice{state: 1608}
	for range 300 {
		c, ops := roomyQueue(d.queueConfig()), roomyQueueOps(d.queueOps(50))
		seen := queueWithRoom(c, ops)
		run := impl.RunQueue(c, ops)
		givenLists, givenTexts := queueSpans(c, ops)
		lists, texts := runSpans(run)
		wantEachApart(t, "lists", lists)
		wantApartFrom(t, "lists", lists, givenLists)
		wantApartFrom(t, "texts", distinctTexts(texts), givenTexts)
		expanded := impl.Expand(c.Aliases, "n0@a")
		plain := impl.Expand(c.Aliases, ops[0].From)
		for _, list := range [][]string{expanded.To, plain.To, impl.HostsOf(c.Mx, c.Local), impl.HostsOf(c.Mx, ops[0].Host)} {
			wantApartFrom(t, "lists", []span{spanOf(list)}, givenLists)
			for _, text := range list {
				wantApartFrom(t, "texts", []span{textSpan(text)}, givenTexts)
			}
		}
		impl.QueueFault(c)
		impl.Bounce(c.Local, ops[0].From, ops[0].Message)
		for at := range run.Outs {
			run.Outs[at].Items = append(run.Outs[at].Items, 7)
			run.Outs[at].Events = append(run.Outs[at].Events, impl.QueueEvent{})
		}
		if seen != queueWithRoom(c, ops) {
			t.Fatal("an argument has changed")
		}
	}
	key := strings.Clone("someone@else")
	wantOwnMemory(t, "Expand", key, impl.Expand(nil, key).To...)
	wantOwnMemory(t, "HostsOf", key, impl.HostsOf(nil, key)...)
}

// TestRunQueueAgain has the same answer each time.
func TestRunQueueAgain(t *testing.T) {
	d := &dice{state: 1609}
	for range 30 {
		c, ops := d.queueConfig(), d.queueOps(60)
		first := shownWhole(impl.RunQueue(c, ops))
		for range 5 {
			if again := shownWhole(impl.RunQueue(c, ops)); again != first {
				t.Fatalf("one time %s, another %s", short(first), short(again))
			}
		}
	}
}

func shownWhole(answer any) string { return fmt.Sprintf("%#v", answer) }

// TestRunQueueGreat has runs as great as can be.
func TestRunQueueGreat(t *testing.T) {
	c := changedQueue(func(c *impl.QueueConfig) {
		c.Aliases, c.Delays, c.MaxAge = hundreds("p", maxExpand), []int64{1}, maxTime
		c.Mx = nil
		for at := range maxMx {
			c.Mx = append(c.Mx, mx("b", int64(at), fmt.Sprintf("h%d", at)))
		}
	})
	var ops []impl.QueueOp
	for at := range maxMx {
		ops = append(ops, saysLater(fmt.Sprintf("h%d", at)))
	}
	for range 20 {
		ops = append(ops, mailTo("p@a"), mailTo("p@a"), passing(100))
	}
	run := impl.RunQueue(c, ops)
	delivered, later := 0, 0
	for _, out := range run.Outs {
		for _, event := range out.Events {
			switch event.Kind {
			case impl.EvDelivered:
				delivered++
			case impl.EvLater:
				later++
			}
		}
	}
	wantNumbers(t, "events", "a great run", ids(int64(delivered), int64(later), int64(len(run.Boxes))), ids(8000, 20*400*99, 8000))
	local := changedQueue(func(c *impl.QueueConfig) { c.Local = "b" })
	great := slices.Repeat([]impl.QueueOp{submitting("", people("p", 1, maxExpand), "\r\n"+xs(90000))}, 300)
	run = impl.RunQueue(local, great)
	wantNumbers(t, "boxes", "a great run", ids(int64(len(run.Boxes)), run.Outs[299].Items[199]), ids(60000, 60000))
}
