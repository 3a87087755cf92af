package tests

import (
	"fmt"
	"slices"
	"strings"
	"testing"

	"loop.example/g00013/impl"
)

const (
	maxAddresses = 500
	maxDomain    = 255
	maxLocal     = 64
	maxName      = 200
)

func TestAddressConstants(t *testing.T) {
	wantNumbers(t, "constants", "", []int64{impl.MaxAddresses}, []int64{maxAddresses})
}

// labels is a domain of so many bytes, in atoms of at most nine.
func labels(size int) string {
	text := []byte(xs(size))
	for at := 9; at < size-1; at += 10 {
		text[at] = '.'
	}
	return string(text)
}

// box is an address without a name.
func box(local, domain string) impl.Address { return impl.Address{Local: local, Domain: domain} }

func named(name, local, domain string) impl.Address {
	return impl.Address{Name: name, Local: local, Domain: domain}
}

func entry(a impl.Address) impl.Entry { return impl.Entry{Box: a} }

func group(name string, members ...impl.Address) impl.Entry {
	return impl.Entry{Group: true, Name: name, Members: members}
}

func TestDomains(t *testing.T) {
	right := []string{
		"a", "a.b", "a.b.c", "A-Z.09", "!#$%&'*+-/=?^_{|}~`", "\x80.\xff", "é.example", "-", "1.2.3.4",
		"[]", "[1.2.3.4]", "[IPv6:::1]", "[ ]", "[a b\"(),;<>@:.!~]",
		labels(maxDomain), xs(maxDomain), "[" + xs(maxDomain-2) + "]",
	}
	for _, domain := range right {
		if got := impl.DomainFault(domain); got != impl.OK {
			t.Errorf("DomainFault of %s: %d", short(domain), got)
		}
	}
	ill := []string{
		"", ".", "..", "a.", ".a", "a..b", "a b", " a", "a ", "a\tb", "a@b", "a,b", "a;", "a:b", "<a>", "(a)", "a(b)", "\"a\"", "a\\b", "a\r\n b",
		"[", "]", "[a", "a]", "][", "[[]", "[]]", "[[]]", "[\\]", "[\\a]", "[\t]", "[\x1f]", "[\x7f]", "[\x80]", "[\xff]", "[é]", "[a].b", "b.[a]", "[]a", "a[]", "[][]", " []", "[] ",
		labels(maxDomain + 1), xs(maxDomain + 1), "[" + xs(maxDomain-1) + "]", xs(maxText), xs(maxText + 1), "[" + xs(maxText) + "]",
	}
	for _, domain := range ill {
		if got := impl.DomainFault(domain); got != impl.ErrForm {
			t.Errorf("DomainFault of %s: %d", short(domain), got)
		}
	}
}

func TestDomainBytes(t *testing.T) {
	for b := range 256 {
		text := string([]byte{byte(b)})
		atom := b >= 128 || strings.Contains("abcdefghijklmnopqrstuvwxyzABCDEFGHIJKLMNOPQRSTUVWXYZ0123456789!#$%&'*+-/=?^_{|}~`", text)
		if got := impl.DomainFault("x" + text); got == impl.OK != atom {
			t.Errorf("DomainFault of %q: %d", "x"+text, got)
		}
		if got := impl.DomainFault("x" + text + "y"); got == impl.OK != (atom || b == '.') {
			t.Errorf("DomainFault of %q: %d", "x"+text+"y", got)
		}
		inner := b >= 32 && b <= 126 && b != '[' && b != ']' && b != '\\'
		if got := impl.DomainFault("[" + text + "]"); got == impl.OK != inner {
			t.Errorf("DomainFault of %q: %d", "["+text+"]", got)
		}
	}
}

func TestAddressFaults(t *testing.T) {
	for _, a := range []impl.Address{
		box("a", "b"), box("a.b", "c.d"), box("a b", "[]"), box(" ", "b"), box(".", "b"), box("a@b", "c"), box("\"\\", "b"), box("\x80\xff", "b"),
		box(xs(maxLocal), "b"), box("a", labels(maxDomain)),
		named(" ", "a", "b"), named("N. O.", "a", "b"), named("\"\\()<>", "a", "b"), named("\x80\xff é", "a", "b"), named(xs(maxName), "a", "b"),
		named(xs(maxName), xs(maxLocal), xs(maxDomain)),
	} {
		if got := impl.AddressFault(a); got != impl.OK {
			t.Errorf("AddressFault of %s: %d", shown(a), got)
		}
	}
	for _, a := range illAddresses() {
		if got := impl.AddressFault(a); got != impl.ErrForm {
			t.Errorf("AddressFault of %s: %d", shown(a), got)
		}
		wantText(t, "WriteBox", shown(a), impl.WriteBox(a), "")
		wantText(t, "AddressKey", shown(a), impl.AddressKey(a), "")
		wantText(t, "WriteAddresses", shown(a), impl.WriteAddresses([]impl.Entry{entry(a)}), "")
		wantText(t, "WriteAddresses of a group", shown(a), impl.WriteAddresses([]impl.Entry{group("g", box("a", "b"), a)}), "")
	}
}

func illAddresses() []impl.Address {
	return []impl.Address{
		{}, box("", "b"), box("a", ""), named("n", "", ""), named("n", "a", ""), named("n", "", "b"),
		box("a\r\n b", "c"), box("a", "b."), box("a", "b c"), box("a", "[]]"), box("a", "b\x00"),
		box(xs(maxLocal+1), "b"), box("a", labels(maxDomain+1)), named(xs(maxName+1), "a", "b"),
		box(xs(maxText+1), "b"), box("a", xs(maxText+1)), named(xs(maxText+1), "a", "b"),
		named("a\r\n b", "a", "b"), named("\t", "a", "b"),
	}
}

func TestAddressBytes(t *testing.T) {
	for b := range 256 {
		text := "x" + string([]byte{byte(b)})
		right := b >= 32 && b != 127
		for _, a := range []impl.Address{box(text, "d"), named(text, "l", "d")} {
			if got := impl.AddressFault(a); got == impl.OK != right {
				t.Errorf("AddressFault of %#v: %d", a, got)
			}
		}
		if got := impl.WriteAddresses([]impl.Entry{group(text)}); got != "" != right {
			t.Errorf("WriteAddresses of a group %q: %q", text, got)
		}
	}
}

func sameEntries(a, b impl.Entry) bool {
	return a.Group == b.Group && a.Name == b.Name && a.Box == b.Box && slices.Equal(a.Members, b.Members)
}

func checkRead(t *testing.T, value string, want impl.AddressList) {
	t.Helper()
	got := impl.ReadAddresses(value)
	if got.Code != want.Code || got.At != want.At || !slices.EqualFunc(got.Entries, want.Entries, sameEntries) {
		t.Errorf("ReadAddresses of %s: %s, want %s", short(value), shown(got), shown(want))
	}
}

func list(entries ...impl.Entry) impl.AddressList { return impl.AddressList{Entries: entries} }

func ill(at int64) impl.AddressList { return impl.AddressList{Code: impl.ErrSyntax, At: at} }

func TestReadBoxes(t *testing.T) {
	for _, c := range []struct {
		value string
		want  impl.Address
	}{
		{"a@b", box("a", "b")},
		{" a @ b ", box("a", "b")},
		{"a.b@c.d", box("a.b", "c.d")},
		{"a . b\t@\r\n c . d", box("a.b", "c.d")},
		{"a.b.c@d.e.f", box("a.b.c", "d.e.f")},
		{"é\xff!#@\x80", box("é\xff!#", "\x80")},
		{`"a b"@c`, box("a b", "c")},
		{`"a".b."c d"@e`, box("a.b.c d", "e")},
		{`"a.b"@c`, box("a.b", "c")},
		{`"".a@b`, box(".a", "b")},
		{`"."@b`, box(".", "b")},
		{`"\"\\@"@b`, box(`"\@`, "b")},
		{"a@[1.2]", box("a", "[1.2]")},
		{"a@[]", box("a", "[]")},
		{"a@[ x\r\n y ]", box("a", "[ x y ]")},
		{"a@[\\a\\b]", box("a", "[ab]")},
		{"<a@b>", box("a", "b")},
		{" < a . \"b c\" @ [d] > ", box("a.b c", "[d]")},
		{"N <a@b>", named("N", "a", "b")},
		{"N<a@b>", named("N", "a", "b")},
		{"N M <a@b>", named("N M", "a", "b")},
		{"N  \r\n M <a@b>", named("N M", "a", "b")},
		{`"N  M" <a@b>`, named("N  M", "a", "b")},
		{`"N" M "O P" <a@b>`, named("N M O P", "a", "b")},
		{`"N""M" <a@b>`, named("N M", "a", "b")},
		{"\"N\r\n M\" <a@b>", named("N M", "a", "b")},
		{`"" <a@b>`, box("a", "b")},
		{`"" "" <a@b>`, named(" ", "a", "b")},
		{`"" N <a@b>`, named(" N", "a", "b")},
		{`N "" M <a@b>`, named("N  M", "a", "b")},
		// Points in a phrase: with no space ahead of them, with one behind.
		{"N. M <a@b>", named("N. M", "a", "b")},
		{"N.M <a@b>", named("N. M", "a", "b")},
		{"N .M <a@b>", named("N. M", "a", "b")},
		{". <a@b>", named(".", "a", "b")},
		{"... <a@b>", named("...", "a", "b")},
		{".N <a@b>", named(". N", "a", "b")},
		{". N . . M . <a@b>", named(". N.. M.", "a", "b")},
		{"N.\"M\".<a@b>", named("N. M.", "a", "b")},
		{`N "." M <a@b>`, named("N . M", "a", "b")},
		{`N ".M" <a@b>`, named("N .M", "a", "b")},
		// Routes.
		{"<@r:a@b>", box("a", "b")},
		{"N <@r.s,@[t]:a@b>", named("N", "a", "b")},
		{"< @ r . s , @ t : a @ b >", box("a", "b")},
		{"<,@r:a@b>", box("a", "b")},
		{"<,,,@r:a@b>", box("a", "b")},
		{"<@r,:a@b>", box("a", "b")},
		{"<@r,,,:a@b>", box("a", "b")},
		{"<@r,,@s:a@b>", box("a", "b")},
		{"<,,@r,,,@s,@t,,:a@b>", box("a", "b")},
		{"<@r(c),(d)@s(e):(f)a@b>", box("a", "b")},
		// What a route says counts for nothing.
		{"<@" + xs(maxDomain+1) + ":a@b>", box("a", "b")},
		{"<@[\\]\\[\\\\\x00\xff]:a@b>", box("a", "b")},
		// Comments.
		{"(c)a(c)@(c)b", box("a", "b")},
		{"(c) N (d) M (e) < (f) a (g) . (h) b (i) @ (j) c (k) . (l) d (m) > (n)", named("N M", "a.b", "c.d")},
		{"<a@b>(N)", box("a", "b")},
		{"<a@b(N)>", box("a", "b")},
		{"M <a@b> (N)", named("M", "a", "b")},
		{"a@b (N)", named("N", "a", "b")},
		{"a@b(N M)", named("N M", "a", "b")},
		{"a@b( N )", named(" N ", "a", "b")},
		{"a@b(N) (M)", named("N", "a", "b")},
		{"a@b()", box("a", "b")},
		{"a@b()(M)", box("a", "b")},
		{"a@[b](N)", named("N", "a", "[b]")},
		{"a@b.(M)c(N)", named("N", "a", "b.c")},
		{"a@b(M).c", box("a", "b.c")},
		{"(L)a(M)@(M)b", box("a", "b")},
		{"(L)a@b", box("a", "b")},
		{`a@b(N (M) \) "x")`, named(`N (M) \) "x"`, "a", "b")},
		{"a@b(\x80\xff)", named("\x80\xff", "a", "b")},
		// One that is no right name.
		{"a@b(N\tM)", box("a", "b")},
		{"a@b(N\r\n M)", box("a", "b")},
		{"a@b(\x00)", box("a", "b")},
		{"a@b(\x7f)", box("a", "b")},
		{"a@b(\x7f)(N)", box("a", "b")},
		{"a@b(" + xs(maxName) + ")", named(xs(maxName), "a", "b")},
		{"a@b(" + xs(maxName+1) + ")", box("a", "b")},
		{"a@b(" + xs(maxName+1) + ")(N)", box("a", "b")},
		// The edges of what is right.
		{xs(maxLocal) + "@" + labels(maxDomain), box(xs(maxLocal), labels(maxDomain))},
		{xs(maxName) + " <" + xs(maxLocal) + "@b>", named(xs(maxName), xs(maxLocal), "b")},
		{"\"" + xs(31) + "\"." + xs(32) + "@b", box(xs(31)+"."+xs(32), "b")},
		{xs(99) + " " + xs(100) + "<a@b>", named(xs(99)+" "+xs(100), "a", "b")},
		{"a@[" + xs(maxDomain-2) + "]", box("a", "["+xs(maxDomain-2)+"]")},
	} {
		checkRead(t, c.value, list(entry(c.want)))
		checkRead(t, c.value+" , "+c.value+",", list(entry(c.want), entry(c.want)))
		checkRead(t, "g:"+c.value+";", list(group("g", c.want)))
		checkRead(t, "g:,"+c.value+","+c.value+" ; , "+c.value, list(group("g", c.want, c.want), entry(c.want)))
	}
}

func TestReadLists(t *testing.T) {
	a, b := entry(box("a", "b")), entry(box("c", "d"))
	for _, c := range []struct {
		value string
		want  []impl.Entry
	}{
		{"", nil},
		{"  \r\n ", nil},
		{"(c)", nil},
		{",", nil},
		{", , ,", nil},
		{",(c),", nil},
		{"a@b,c@d", []impl.Entry{a, b}},
		{",a@b", []impl.Entry{a}},
		{"a@b,", []impl.Entry{a}},
		{",,a@b,,(x),c@d,,", []impl.Entry{a, b}},
		{"a@b(N),c@d", []impl.Entry{entry(named("N", "a", "b")), b}},
		{"a@b,(N)c@d", []impl.Entry{a, b}},
		{"a@b,(N),c@d", []impl.Entry{a, b}},
		// Groups.
		{"g:;", []impl.Entry{group("g")}},
		{"g : (c) ;", []impl.Entry{group("g")}},
		{"g:,;", []impl.Entry{group("g")}},
		{"g:,,,;", []impl.Entry{group("g")}},
		{"g:;,h:;", []impl.Entry{group("g"), group("h")}},
		{"g:;,a@b", []impl.Entry{group("g"), a}},
		{"a@b,g:;", []impl.Entry{a, group("g")}},
		{"g:a@b;", []impl.Entry{group("g", a.Box)}},
		{"g:a@b,;", []impl.Entry{group("g", a.Box)}},
		{"g:,a@b,,c@d,;,", []impl.Entry{group("g", a.Box, b.Box)}},
		{"g:N <a@b>,c@d(M),<@r:a@b>;", []impl.Entry{group("g", named("N", "a", "b"), named("M", "c", "d"), a.Box)}},
		{"g:a@b;(c),h:c@d;", []impl.Entry{group("g", a.Box), group("h", b.Box)}},
		{"g:a@b(N);,c@d", []impl.Entry{group("g", named("N", "a", "b")), b}},
		{"My \"good\" friends. All:;", []impl.Entry{group("My good friends. All")}},
		{".:;", []impl.Entry{group(".")}},
		{". g:;", []impl.Entry{group(". g")}},
		{"a..b:;", []impl.Entry{group("a.. b")}},
		{"\"g:\":a@b;", []impl.Entry{group("g:", a.Box)}},
		{"(c)g(c):a@b;", []impl.Entry{group("g", a.Box)}},
		// Nothing is asked of a group's name but that it is a phrase.
		{"\"\":;", []impl.Entry{group("")}},
		{"\"\x00\x7f\":;", []impl.Entry{group("\x00\x7f")}},
		{xs(maxName+1) + ":;", []impl.Entry{group(xs(maxName + 1))}},
	} {
		checkRead(t, c.value, list(c.want...))
	}
}

func TestReadAddressesTellsThePlace(t *testing.T) {
	for _, c := range []struct {
		value string
		at    int64
	}{
		{".ol@e.org", 0}, {"a b@c", 2}, {"a..b@c", 2},
		// An address alone.
		{"a", 1}, {"a  ", 3}, {"a (c) ", 6}, {"a@", 2}, {"a@ (c)", 6}, {"@b", 0}, {"@", 0}, {".", 0}, {"a.@b", 2}, {"a.", 2}, {"a.b", 3}, {"a@b.", 4}, {"a@b.(c) ", 8},
		{"a@.b", 2}, {"a@b..c", 4}, {"a@\"b\"", 2}, {"a@b.\"c\"", 4}, {"a@b.[c]", 4}, {"a@[b].c", 5}, {"a@[b][c]", 5}, {"a@[b]c", 5}, {"a@b[c]", 3},
		{"a@b c", 4}, {"a@b c@d", 4}, {"a@b@c", 3}, {"a@b \"c\"", 4}, {"a@b <c@d>", 4}, {"a@b>", 3}, {"a@b;", 3}, {"a@b:", 3}, {"a@b)", 3}, {"a@b]", 3}, {"a@b\\", 3},
		{"a@b(N)c", 6}, {"a@b (N) ;", 8}, {"a,b@c", 1}, {"a;b@c", 1}, {"a>b@c", 1}, {"a@,b@c", 2}, {"a@;", 2}, {"a@:", 2}, {"a@<b>", 2}, {"a@@b", 2},
		{"\"a\"\"b\"@c", 3}, {"\"a\" b@c", 4}, {"a \"b\"@c", 2}, {"a. .b@c", 3}, {"a b", 2}, {"a b,", 2}, {"a .b c@d", 5}, {". a", 0},
		{"[a]", 0}, {"[a]@b", 0}, {"a.[b]@c", 2}, {"a[b]@c", 1}, {">", 0}, {";", 0}, {")", 0}, {"]", 0}, {"\\", 0}, {"\\a@b", 0}, {"a\\@b", 1}, {" (c) ;", 5},
		{"a@b,.", 4}, {"a@b, @", 5}, {"a@b,,c", 6}, {"a@b,;", 4}, {",;", 1},
		// A box with `<`.
		{"<a@b", 4}, {"<a@b (c) ", 9}, {"N <a@b", 6}, {"<", 1}, {"N <", 3}, {"<>", 1}, {"N <>", 3}, {"<a>", 2}, {"<a", 2}, {"<a@>", 3}, {"<a@", 3}, {"<@b>", 3}, {"<@>", 2}, {"<a.@b>", 3}, {"<.a@b>", 1}, {"<a..b@c>", 3},
		{"<a b@c>", 3}, {"<a@b c>", 5}, {"<a@b,c@d>", 4}, {"<a@b;>", 4}, {"<a@b@c>", 4}, {"<N <a@b>>", 3}, {"<a@[b]c>", 6}, {"<a@b.>", 5},
		{"<a@b>>", 5}, {"<a@b> c", 6}, {"<a@b><c@d>", 5}, {"<a@b>;", 5}, {"<a@b>:", 5}, {"<a@b>.", 5}, {"N<a@b>M", 6}, {"<a@b>(c)d", 8}, {"<a@b>@c", 5},
		{"N. <a", 5}, {". <", 3}, {"\"\" <a b@c>", 6},
		// Routes.
		{"<:a@b>", 1}, {"<,:a@b>", 2}, {"<,,:a@b>", 3}, {"<,a@b>", 2}, {"<,>", 2}, {"<,", 2}, {"<@", 2}, {"<@:a@b>", 2}, {"<@,@r:a@b>", 2}, {"<@r", 3}, {"<@r>", 3}, {"<@r a@b>", 4}, {"<@r@s:a@b>", 3}, {"<@r;a@b>", 3},
		{"<@r,", 4}, {"<@r,>", 4}, {"<@r,a@b>", 4}, {"<@r,s:a@b>", 4}, {"<@r,@:a@b>", 5}, {"<@r.:a@b>", 4}, {"<@r..s:a@b>", 4}, {"<@.r:a@b>", 2}, {"<@\"r\":a@b>", 2}, {"<@[r]s:a@b>", 5}, {"<@[r].s:a@b>", 5},
		{"<@r:>", 4}, {"<@r:", 4}, {"<@r::a@b>", 4}, {"<@r:,a@b>", 4}, {"<@r:@s:a@b>", 4}, {"<@r:a@b", 7}, {"<@r:a@b,>", 7}, {"@r:a@b", 0}, {"N @r:a@b", 4}, {"<a@b:c@d>", 4},
		// Groups.
		{":", 0}, {": a@b;", 0}, {"(c):;", 3}, {"a@b,:;", 4}, {"g:", 2}, {"g: (c) ", 7}, {"g:a@b", 5}, {"g: a@b", 6}, {"g:a@b,", 6}, {"g:,", 3}, {"g:a@b (c)", 9}, {"g:<a@b>", 7}, {"g:<a@b>,", 8},
		{"g:;h", 3}, {"g:; a@b", 4}, {"g:;;", 3}, {"g:;h:;", 3}, {"g:;.", 3}, {"g:;<a@b>", 3}, {"g:;(c):", 6}, {"g:a@b;;", 6}, {"g:a@b c@d;", 6}, {"g:a@b:;", 5}, {"g:a@b.;", 6}, {"g:a;", 3}, {"g:a,;", 3}, {"g:N <a@b;", 8}, {"g:a@b>;", 5},
		{"g::;", 2}, {"g:.;", 2}, {"g:>;", 2}, {"g:@;", 2}, {"g:)", 2}, {"g h", 2}, {"g h;", 2}, {"[g]:;", 0}, {"g[h]:;", 1}, {"g@h:;", 3}, {"<g>:;", 2},
		// A group within a group is read as an address alone, which it is not.
		{"g:h:;;", 3}, {"g:h:a@b;;", 3}, {"g:h i:a@b;;", 4}, {"g:a@b,h:c@d;;", 7}, {"g:.h:;;", 2}, {"g:\"h\"i:;;", 5}, {"g:h.i:;;", 5}, {"g::a@b;", 2},
		// The first fault is told.
		{"a b@c,d e@f", 2}, {"a@b,c d@e,.", 6}, {"<,,>,:", 3}, {"g:a b@c,;,:", 4},
	} {
		checkRead(t, c.value, ill(c.at))
		// Nothing that is right ahead of it changes what is told.
		ahead := "x@y (z), N <m@n>, h:o@p;,"
		checkRead(t, ahead+c.value, ill(c.at+int64(len(ahead))))
	}
}

func TestReadAddressesFaultsInGroups(t *testing.T) {
	for _, c := range []struct {
		value string
		at    int64
	}{
		{"a b@c", 2}, {"a..b@c", 2}, {".ol@e.org", 0}, {"a", 1}, {"a@", 2}, {"a@b.", 4}, {"a@b c", 4}, {"<a@b", 4}, {"<>", 1}, {"<,:a@b>", 2}, {"<a@b>>", 5}, {"@", 0}, {"[a]", 0}, {":", 0}, {"a:", 1}, {"a b:;", 2}, {". a", 0},
	} {
		for _, behind := range []string{";", ",;", ",x@y;", ";,x@y"} {
			checkRead(t, "g: m@n, "+c.value+behind, ill(c.at+8))
		}
	}
}

func TestReadAddressesTellsIllTokens(t *testing.T) {
	for _, value := range []string{
		"\"", "a@b, \"", "a@b (", "a@[b", "a@b\x00", "\x7f", "a@b\r\n", "a@b\r\n,c@d", "a@b,\n c@d", "N \"\\", "a@b" + nested(maxNest+1, ""),
		// Also where something else is told of a place ahead of them: there are no tokens to be read.
		"a b@c, \"", ".,\x01", ": (",
		strings.Repeat(",", maxTokens+1), strings.Repeat("()", maxTokens) + "a@b", "a b@c" + strings.Repeat(",", maxTokens), strings.Repeat("a@b,", maxTokens/4) + "a",
		xs(maxText + 1), strings.Repeat(" ", maxText+1), "\x00" + xs(maxText), "a@b" + strings.Repeat(" ", maxText-2),
	} {
		tokens := impl.Tokens(value)
		if tokens.Code == impl.OK {
			t.Fatalf("Tokens of %s have no code", short(value))
		}
		checkRead(t, value, impl.AddressList{Code: tokens.Code, At: tokens.At})
	}
	// As many tokens as there may be.
	checkRead(t, strings.Repeat(",", maxTokens), list())
	checkRead(t, "a@b"+strings.Repeat("()", maxTokens-3), list(entry(box("a", "b"))))
	checkRead(t, strings.Repeat("(a)", maxTokens-3)+"a@b", list(entry(box("a", "b"))))
	checkRead(t, strings.Repeat("(a)", maxTokens-1)+".", ill(3*(maxTokens-1)))
	parts := strings.Repeat("a.", maxTokens/2)
	checkRead(t, parts, ill(int64(len(parts))))
	checkRead(t, strings.Repeat("a ", maxTokens), ill(2))
}

func TestReadAddressesLengths(t *testing.T) {
	gap := strings.Repeat(" ", maxText-3)
	checkRead(t, gap+"a@b", list(entry(box("a", "b"))))
	checkRead(t, "a@b"+gap, list(entry(box("a", "b"))))
	checkRead(t, "a@"+gap+".", ill(maxText-1))
	checkRead(t, "a@"+gap+" ", ill(maxText))
	checkRead(t, " "+gap+"a@b", impl.AddressList{Code: impl.ErrSize})
	checkRead(t, "a@b"+gap+" ", impl.AddressList{Code: impl.ErrSize})
	checkRead(t, xs(maxText-2)+"@b", ill(0))
	checkRead(t, "a@"+xs(maxText-2), ill(0))
	checkRead(t, xs(maxText-5)+"<a@b>", ill(0))
	checkRead(t, "a@b("+xs(maxText-5)+")", list(entry(box("a", "b"))))
	checkRead(t, xs(maxText-2)+":;", list(group(xs(maxText-2))))
	checkRead(t, "<@"+xs(maxText-7)+":a@b>", list(entry(box("a", "b"))))
}

func TestReadAddressesTellsIllBoxes(t *testing.T) {
	for _, c := range []struct {
		value string
		at    int64
	}{
		{xs(maxLocal+1) + "@b", 0},
		{" (c) " + xs(maxLocal+1) + "@b", 5},
		{"<" + xs(maxLocal+1) + "@b>", 0},
		{"N <" + xs(maxLocal+1) + "@b>", 0},
		{"(c)N <" + xs(maxLocal+1) + "@b>", 3},
		{"\"" + xs(32) + "\"." + xs(32) + "@b", 0},
		{"\"\"@b", 0},
		{"<\"\"@b>", 0},
		{"\"a\tb\"@c", 0},
		{"\"a\x1f\"@c", 0},
		{"\"\x7f\"@c", 0},
		{"a@" + xs(maxDomain+1), 0},
		{"a@" + labels(maxDomain+1), 0},
		{"a@[" + xs(maxDomain-1) + "]", 0},
		{"a@[\\]]", 0},
		{"a@[\\[]", 0},
		{"a@[[]", 0},
		{"a@[\\\\]", 0},
		{"a@[\t]", 0},
		{"a@[\x7f]", 0},
		{"a@[\x80]", 0},
		{"a@[\r\n\t]", 0},
		{xs(maxName+1) + " <a@b>", 0},
		{xs(maxName/2) + " " + xs(maxName/2) + " <a@b>", 0},
		{"\"\t\" <a@b>", 0},
		{"\"\r\n\t\" <a@b>", 0},
		{"a \"\x00\" <a@b>", 0},
		{"\"\x7f\" <@r:a@b>", 0},
		// It is told ahead of a token behind the box.
		{"\"\"@b c", 0},
		{"\"\"@b(c)@", 0},
		{"\"\"@b;", 0},
		{"\"\"@b>", 0},
		{"\"\"@b:", 0},
		{"\"\"@[b].c", 0},
		{"<\"\"@b>c", 0},
		{"\"\t\" <a@b>>", 0},
		{"\"\"@b,c d@e", 0},
		// A token within the box is told ahead of it.
		{"\"\" a@b", 3},
		{"\"\"@", 3},
		{"\"\".@b", 3},
		{"\"\"@b.", 5},
		{"\"\"@b..c", 5},
		{"<\"\"@b c>", 6},
		{"<\"\"@b", 5},
		{"\"\t\" <a@b", 8},
		{"\"\t\" <a b@c>", 7},
		{"\"\t\" <@r>", 7},
		{xs(maxLocal + 1), maxLocal + 1},
	} {
		checkRead(t, c.value, ill(c.at))
		checkRead(t, "x@y, "+c.value, ill(c.at+5))
		if !strings.ContainsAny(c.value, ";:,") {
			checkRead(t, "g: "+c.value+";", ill(c.at+3))
		}
	}
}

// boxesIn is a list of so many boxes, and what it is read as.
func boxesIn(count int) (value string, entries []impl.Entry) {
	for i := range count {
		local := fmt.Sprint("a", i)
		value += local + "@b,"
		entries = append(entries, entry(box(local, "b")))
	}
	return value, entries
}

func TestReadAddressesCounts(t *testing.T) {
	value, entries := boxesIn(maxAddresses)
	size := int64(len(value))
	more := func(with ...impl.Entry) impl.AddressList {
		return list(append(slices.Clone(entries), with...)...)
	}
	checkRead(t, value, list(entries...))
	checkRead(t, value[:size-1], list(entries...))
	for behind, with := range map[string][]impl.Entry{
		"  ": nil, ",,": nil, "(c)": nil, "g:;": {group("g")}, ",g:,;,h:;": {group("g"), group("h")}, ".:;": {group(".")},
	} {
		checkRead(t, value+behind, more(with...))
	}
	// Whatever it is that would have to begin a box.
	for _, behind := range []string{"c@d", "N <c@d>", "<", ".", "a b", ";", ">", ":a@b,", "@", "[a]", ")", "\\", "a", "\"\"@b", "a@b c"} {
		want := impl.AddressList{Code: impl.ErrCount, At: size}
		if behind[0] == ':' {
			// A colon without a phrase makes it an ill group.
			want.Code = impl.ErrSyntax
		}
		checkRead(t, value+behind, want)
		want.At += 5
		checkRead(t, value+", (c)"+behind, want)
	}
	for behind, at := range map[string]int64{"g:c@d;": 2, "g:,<c@d>;": 3, "g: h:;;": 3, "g:.;": 2, "g:;,c@d": 4, "g::;": 2, "g:>": 2, "g:,,c": 4} {
		checkRead(t, value+behind, impl.AddressList{Code: impl.ErrCount, At: size + at})
	}
	// Faults of another kind, and those ahead of it.
	for behind, at := range map[string]int64{"g:": 2, "g:,": 3, ":;": 0, "g:;h": 3, "g:;;": 3, "g: (c)": 6} {
		checkRead(t, value+behind, ill(size+at))
	}
	checkRead(t, value[:size-1]+";", ill(size-1))
	checkRead(t, value[:size-1]+" c@d", ill(size))
	checkRead(t, "a b,"+value+"c@d", ill(2))
	checkRead(t, "\"\"@b,"+value, ill(0))
}

func TestReadAddressesCountsInGroups(t *testing.T) {
	value, entries := boxesIn(maxAddresses)
	boxes := impl.Boxes(entries)
	size := int64(len(value))
	checkRead(t, "g:"+value+";", list(group("g", boxes...)))
	checkRead(t, "g:"+value[:size-1]+";,h:;,", list(group("g", boxes...), group("h")))
	checkRead(t, "g:"+value+"c@d;", impl.AddressList{Code: impl.ErrCount, At: size + 2})
	checkRead(t, "g:"+value+";c@d", ill(size+3))
	checkRead(t, "g:"+value+";,c@d", impl.AddressList{Code: impl.ErrCount, At: size + 4})
	checkRead(t, "g:"+value+";,h:c@d;", impl.AddressList{Code: impl.ErrCount, At: size + 6})
	checkRead(t, "g:"+value, ill(size+2))
	checkRead(t, "g:"+value+"h:;", impl.AddressList{Code: impl.ErrCount, At: size + 2})
	// Boxes in groups and alone count together.
	checkRead(t, "g:x@y;,"+value, impl.AddressList{Code: impl.ErrCount, At: size + 7 - int64(len("a499@b,"))})
	checkRead(t, "g:"+value[:len("a0@b")]+";,"+value[len("a0@b,"):], list(append([]impl.Entry{group("g", boxes[0])}, entries[1:]...)...))
}

func TestWriteBoxTexts(t *testing.T) {
	for _, c := range []struct {
		a    impl.Address
		want string
	}{
		{box("a", "b"), "a@b"},
		{box("a.b.c", "D.e"), "a.b.c@D.e"},
		{box("a", "[1 2]"), "a@[1 2]"},
		{box("a b", "c"), `"a b"@c`},
		{box("a.", "b"), `"a."@b`},
		{box(".a", "b"), `".a"@b`},
		{box("a..b", "c"), `"a..b"@c`},
		{box(".", "b"), `"."@b`},
		{box(" ", "b"), `" "@b`},
		{box("a@b", "c"), `"a@b"@c`},
		{box(`a"\`, "b"), `"a\"\\"@b`},
		{box("é.\xff", "b"), "é.\xff@b"},
		{box("(a)", "b"), `"(a)"@b`},
		{named("N", "a", "b"), "N <a@b>"},
		{named("N M", "a b", "[]"), `N M <"a b"@[]>`},
		{named("N  M", "a", "b"), `"N  M" <a@b>`},
		{named("N. M", "a", "b"), `"N. M" <a@b>`},
		{named(" ", "a", "b"), `" " <a@b>`},
		{named(`"N\`, "a", "b"), `"\"N\\" <a@b>`},
		{named("N, M", "a", "b"), `"N, M" <a@b>`},
		{named("é", "a", "b"), "é <a@b>"},
		{named(xs(maxName), xs(maxLocal), xs(maxDomain)), xs(maxName) + " <" + xs(maxLocal) + "@" + xs(maxDomain) + ">"},
		{named(strings.Repeat(`"`, maxName), strings.Repeat(`\`, maxLocal), "b"), `"` + strings.Repeat(`\"`, maxName) + `" <"` + strings.Repeat(`\\`, maxLocal) + `"@b>`},
	} {
		wantText(t, "WriteBox", shown(c.a), impl.WriteBox(c.a), c.want)
		wantText(t, "WriteAddresses", shown(c.a), impl.WriteAddresses([]impl.Entry{entry(c.a)}), c.want)
		checkRead(t, c.want, list(entry(c.a)))
	}
}

func TestWriteAddressesTexts(t *testing.T) {
	a, n := box("a", "b"), named("N. M", "c d", "E.f")
	for _, c := range []struct {
		entries []impl.Entry
		want    string
	}{
		{nil, ""},
		{[]impl.Entry{}, ""},
		{[]impl.Entry{entry(a), entry(n), entry(a)}, `a@b, "N. M" <"c d"@E.f>, a@b`},
		{[]impl.Entry{group("g")}, "g:;"},
		{[]impl.Entry{group("g", a)}, "g: a@b;"},
		{[]impl.Entry{group("g", a, n, a)}, `g: a@b, "N. M" <"c d"@E.f>, a@b;`},
		{[]impl.Entry{group("g"), group("h i", a), entry(a), group("j.")}, `g:;, h i: a@b;, a@b, "j.":;`},
		{[]impl.Entry{{Group: true, Name: "g", Members: []impl.Address{}}, {Box: a, Members: []impl.Address{}}}, "g:;, a@b"},
		{[]impl.Entry{group(xs(maxName))}, xs(maxName) + ":;"},
		{[]impl.Entry{group(`\`)}, `"\\":;`},
	} {
		wantText(t, "WriteAddresses", shown(c.entries), impl.WriteAddresses(c.entries), c.want)
	}
}

func TestWriteAddressesRefuses(t *testing.T) {
	a := box("a", "b")
	for _, c := range []impl.Entry{
		{},
		{Name: "g", Box: a},
		{Box: a, Members: []impl.Address{a}},
		{Members: []impl.Address{a}},
		{Group: true},
		{Group: true, Members: []impl.Address{a}},
		{Group: true, Name: "g", Box: a},
		{Group: true, Name: "g", Box: impl.Address{Name: "n"}},
		{Group: true, Name: "g", Box: impl.Address{Local: "l"}, Members: []impl.Address{a}},
		{Group: true, Name: "g", Box: impl.Address{Domain: "d"}},
		group(xs(maxName + 1)),
		group(xs(maxText + 1)),
		group("g\t"),
		group("g\r\n h"),
		group("g", impl.Address{}),
		group("g", a, impl.Address{Name: "n"}, a),
	} {
		for _, entries := range [][]impl.Entry{{c}, {entry(a), c}, {c, entry(a)}, {group("h", a), c, entry(a)}} {
			wantText(t, "WriteAddresses", shown(entries), impl.WriteAddresses(entries), "")
		}
	}
}

func TestWriteAddressesCounts(t *testing.T) {
	value, entries := boxesIn(maxAddresses + 1)
	most := entries[:maxAddresses]
	spaced := strings.ReplaceAll(value, ",", ", ")
	want := spaced[:strings.LastIndex(spaced, ", a500@")]
	wantText(t, "WriteAddresses", "as many as there may be", impl.WriteAddresses(most), want)
	wantText(t, "WriteAddresses", "one more", impl.WriteAddresses(entries), "")
	boxes := impl.Boxes(most)
	wantText(t, "WriteAddresses", "a full group", impl.WriteAddresses([]impl.Entry{group("g", boxes...)}), "g: "+want+";")
	wantText(t, "WriteAddresses", "a group with one more", impl.WriteAddresses([]impl.Entry{group("g", append(boxes, box("a", "b"))...)}), "")
	wantText(t, "WriteAddresses", "a full group and one", impl.WriteAddresses([]impl.Entry{group("g", boxes...), entry(box("a", "b"))}), "")
	wantText(t, "WriteAddresses", "a full list and a group", impl.WriteAddresses(append(slices.Clone(most), group("g"))), want+", g:;")
	wantText(t, "WriteAddresses", "a full list and a group of one", impl.WriteAddresses(append(slices.Clone(most), group("g", box("a", "b")))), "")
	// Groups without boxes have no limit, nor has the text.
	many := slices.Repeat([]impl.Entry{group(xs(maxName))}, 2*maxAddresses)
	wantText(t, "WriteAddresses", "many groups", impl.WriteAddresses(many), strings.Repeat(", "+xs(maxName)+":;", 2*maxAddresses)[2:])
}

func TestAddressKeys(t *testing.T) {
	for _, c := range []struct {
		a    impl.Address
		want string
	}{
		{box("a", "b"), "a@b"},
		{box("A", "B"), "A@b"},
		{named("Name", "Ab C", "De.FGHIJKLMNOPQRSTUVWXYZ"), "Ab C@de.fghijklmnopqrstuvwxyz"},
		{box("a@b", "[A@Z]"), "a@b@[a@z]"},
		{box("\"", "\xc3\x89\xe2\x84\xaa~"), "\"@\xc3\x89\xe2\x84\xaa~"},
		{box("a", "abcABC019!`{~"), "a@abcabc019!`{~"},
	} {
		wantText(t, "AddressKey", shown(c.a), impl.AddressKey(c.a), c.want)
	}
}

func TestBoxesOfEntries(t *testing.T) {
	a, b, c := box("a", "b"), named("N", "c", "d"), box("e", "f")
	for _, k := range []struct {
		entries []impl.Entry
		want    []impl.Address
	}{
		{nil, nil},
		{[]impl.Entry{group("g")}, nil},
		{[]impl.Entry{entry(a), entry(a)}, []impl.Address{a, a}},
		{[]impl.Entry{entry(c), group("g", b, a), group("h"), entry(b), group("i", c)}, []impl.Address{c, b, a, b, c}},
		// Also of entries that are not right.
		{[]impl.Entry{{}}, []impl.Address{{}}},
		{[]impl.Entry{{Name: "g", Box: a, Members: []impl.Address{b}}}, []impl.Address{a}},
		{[]impl.Entry{{Group: true, Box: a, Members: []impl.Address{b, {}}}}, []impl.Address{b, {}}},
		{[]impl.Entry{entry(box("\x00", xs(maxDomain+1)))}, []impl.Address{box("\x00", xs(maxDomain+1))}},
	} {
		if got := impl.Boxes(k.entries); !slices.Equal(got, k.want) {
			t.Errorf("Boxes of %s: %s, want %s", shown(k.entries), shown(got), shown(k.want))
		}
	}
}

func TestBoxesLimits(t *testing.T) {
	_, entries := boxesIn(maxAddresses + 10)
	var all []impl.Address
	for _, e := range entries {
		all = append(all, e.Box)
	}
	for name, given := range map[string][]impl.Entry{
		"entries":         entries,
		"a group":         {group("g", all...)},
		"a group behind":  append(slices.Clone(entries[:3]), group("g", all[3:]...)),
		"an entry behind": append([]impl.Entry{group("g", all[:maxAddresses]...)}, entries[3:]...),
	} {
		if got := impl.Boxes(given); !slices.Equal(got, all[:maxAddresses]) {
			t.Errorf("Boxes of %s too many: %d", name, len(got))
		}
	}
	for size, want := range map[int]int{maxText: 2, maxText + 1: 0} {
		long := xs(size)
		for _, e := range []impl.Entry{
			entry(named(long, "a", "b")), entry(box(long, "b")), entry(box("a", long)), {Name: long},
			group("g", named(long, "a", "b")), group("g", box(long, "b")), group("g", box("a", long)), group(long, box("a", "b")),
		} {
			if got := impl.Boxes([]impl.Entry{entry(box("a", "b")), e}); len(got) != want {
				t.Errorf("Boxes beside a text of %d bytes: %d", size, len(got))
			}
		}
	}
}

var nameSigns = []string{"a", "B", "0", "é", "\xff", " ", ".", ",", "\"", "\\", "(", ")", "<", ">", "@", ":", ";", "[", "]", "  ", "'"}

// upTo is a text of at least one and at most so many bytes.
func (d *dice) upTo(size int, pieces []string) string {
	text := d.text(1+d.below(8), pieces)
	if d.below(10) == 0 {
		text = d.text(size, pieces)
	}
	return text[:min(len(text), size)]
}

func (d *dice) domain() string {
	if d.below(3) == 0 {
		return "[" + d.upTo(maxDomain-2, []string{"a", "1", ".", " ", "\"", "(", ")", "<", "@", ",", "~"}) + "]"
	}
	text := d.text(1, []string{"a", "Z"})
	for range d.below(5) {
		text += d.text(1, []string{".a", ".b", "0", ".é", "-x", ".!"})
	}
	return text
}

func (d *dice) address() impl.Address {
	a := box(d.upTo(maxLocal, nameSigns), d.domain())
	if d.below(3) == 0 {
		a.Local = d.text(1, []string{"a", "a.b", "\xff.x.y"})
	}
	if d.below(2) == 0 {
		a.Name = d.upTo(maxName, nameSigns)
	}
	return a
}

func (d *dice) entries(count int) []impl.Entry {
	var entries []impl.Entry
	for range count {
		if d.below(3) > 0 {
			entries = append(entries, entry(d.address()))
			continue
		}
		g := group(d.upTo(maxName, nameSigns))
		for range d.below(4) {
			g.Members = append(g.Members, d.address())
		}
		entries = append(entries, g)
	}
	return entries
}

func TestPromise4Lists(t *testing.T) {
	d := &dice{state: 40}
	for range 10000 {
		entries := d.entries(d.below(6))
		written := impl.WriteAddresses(entries)
		if written == "" && len(entries) > 0 {
			t.Errorf("WriteAddresses of %s is empty", shown(entries))
		}
		checkRead(t, written, list(entries...))
	}
	_, most := boxesIn(maxAddresses)
	checkRead(t, impl.WriteAddresses(most), list(most...))
	full := group("g", impl.Boxes(most)...)
	checkRead(t, impl.WriteAddresses([]impl.Entry{full, group("h")}), list(full, group("h")))
	groups := slices.Repeat([]impl.Entry{group("g h")}, maxTokens/5)
	checkRead(t, impl.WriteAddresses(groups), list(groups...))
}

func TestPromise4Boxes(t *testing.T) {
	d := &dice{state: 41}
	for range 20000 {
		a := d.address()
		written := impl.WriteBox(a)
		checkRead(t, written, list(entry(a)))
		if len(written) < len(a.Local)+len(a.Domain)+1 {
			t.Errorf("WriteBox of %s: %s", shown(a), short(written))
		}
	}
	for b := 32; b < 256; b++ {
		if text := string([]byte{byte(b)}); b != 127 {
			for _, a := range []impl.Address{box(text, "d"), named(text, "l", "d"), named(text+text, text+".x", "[d]"), named(". "+text, text+" ", "d")} {
				checkRead(t, impl.WriteBox(a), list(entry(a)))
			}
		}
	}
}

func (d *dice) gap() string {
	return d.text(1, []string{"", "", "", " ", "\r\n ", "(c)", " (\x00(d)) \t", "(e)(f)"})
}

// spread puts gaps around each token.
func (d *dice) spread(tokens ...string) string {
	text := d.gap()
	for _, token := range tokens {
		text += token + d.gap()
	}
	return text
}

// TestReadAddressesWithGaps has boxes and groups in all their forms, with comments and nothing between commas.
func TestReadAddressesWithGaps(t *testing.T) {
	d := &dice{state: 42}
	form := func(in impl.Address) (string, impl.Address) {
		tokens := []string{"ab", ".", `"c d"`, "@", in.Domain}
		if d.below(2) == 0 {
			tokens = []string{"ab", ".", `"c d"`, "@", "e", ".", "f"}
			in.Domain = "e.f"
		}
		in.Local = "ab.c d"
		switch d.below(4) {
		case 0:
			in.Name = "note"
			last := len(tokens) - 1
			return d.spread(tokens[:last]...) + tokens[last] + "(note)" + d.gap(), in
		case 1:
			in.Name = ""
			last := len(tokens) - 1
			return d.spread(tokens[:last]...) + tokens[last], in
		case 2:
			in.Name = "J. \"R\" O."
			tokens = slices.Concat([]string{"J", ".", `"\"R\""`, "O", ".", "<", "@", "r", ",", ",", "@", "[s]", ":"}, tokens, []string{">"})
		case 3:
			in.Name = ""
			tokens = slices.Concat([]string{"<"}, tokens, []string{">"})
		}
		return d.spread(tokens...), in
	}
	for range 10000 {
		var parts []string
		var want []impl.Entry
		for range d.below(5) {
			switch d.below(4) {
			case 0:
				parts = append(parts, d.gap())
			case 1:
				g := group("My .. friends")
				g.Name = "My.. friends"
				var members []string
				for range d.below(4) {
					text, a := form(d.address())
					members = append(members, text, d.gap())
					g.Members = append(g.Members, a)
				}
				parts = append(parts, d.spread("My", ".", ".", "friends", ":")+strings.Join(members, ",")+d.spread(";"))
				want = append(want, g)
			default:
				text, a := form(d.address())
				parts = append(parts, text)
				want = append(want, entry(a))
			}
		}
		checkRead(t, strings.Join(parts, ","), list(want...))
	}
}

func hasIllName(e impl.Entry) bool {
	return e.Group && impl.WriteAddresses([]impl.Entry{group(e.Name)}) == ""
}

// TestReadAddressesTakesWhateverComes holds what is read, or told, against what must be so of any value.
func TestReadAddressesTakesWhateverComes(t *testing.T) {
	d := &dice{state: 43}
	pieces := []string{"a", "b", ".", "@", "@", ",", "<", ">", ":", ";", " ", "\"q\"", "(c)", "[l]", "a@b", "<a@b>", "g:", "\\", "\"", "\x00", "\r\n "}
	read := 0
	for range 100000 {
		value := d.text(d.below(12), pieces)
		got := impl.ReadAddresses(value)
		if got.Code != impl.OK {
			if got.Code != impl.ErrSyntax || got.At < 0 || got.At > int64(len(value)) || len(got.Entries) > 0 {
				t.Errorf("ReadAddresses of %q: %s", value, shown(got))
			}
			continue
		}
		read++
		for _, a := range impl.Boxes(got.Entries) {
			if impl.AddressFault(a) != impl.OK {
				t.Errorf("ReadAddresses of %q: %s", value, shown(got))
			}
		}
		// Of a group's name less is asked where it is read.
		if !slices.ContainsFunc(got.Entries, hasIllName) {
			checkRead(t, impl.WriteAddresses(got.Entries), list(got.Entries...))
		}
	}
	if read < 1000 {
		t.Errorf("only %d lists were read", read)
	}
}

func TestAddressesAreNewMemory(t *testing.T) {
	value := "Name <local@domain>, alone@[literal](note), group: member@domain;"
	read := impl.ReadAddresses(value)
	for _, e := range read.Entries {
		wantOwnMemory(t, "ReadAddresses", value, e.Name, e.Box.Name, e.Box.Local, e.Box.Domain)
		for _, a := range e.Members {
			wantOwnMemory(t, "ReadAddresses", value, a.Name, a.Local, a.Domain)
		}
	}
	name, local, domain := strings.Clone("name"), strings.Clone("local"), strings.Clone("domain")
	a := named(name, local, domain)
	room := []impl.Address{a, a, a}
	entries := []impl.Entry{{Group: true, Name: "g", Members: room[:1]}, entry(a), entry(a)}
	for _, got := range impl.Boxes(entries[:2]) {
		for _, text := range []string{got.Name, got.Local, got.Domain} {
			wantOwnMemory(t, "Boxes", name, text)
			wantOwnMemory(t, "Boxes", local, text)
			wantOwnMemory(t, "Boxes", domain, text)
		}
	}
	boxes := impl.Boxes(entries[:1])
	boxes[0] = impl.Address{}
	impl.WriteAddresses(entries[:2])
	if !slices.Equal(room, []impl.Address{a, a, a}) || !sameEntries(entries[2], entry(a)) {
		t.Errorf("an argument was changed: %s", shown(entries))
	}
}
