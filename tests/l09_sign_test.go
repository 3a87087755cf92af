package tests

import (
	"math"
	"math/big"
	"regexp"
	"slices"
	"strconv"
	"strings"
	"testing"

	"loop.example/g00013/impl"
)

const (
	signPrime     = 2147483647
	maxSignatures = 10
	maxSignNames  = 30
	maxSignKeys   = 100
	maxSelector   = 60
)

func TestSignConstants(t *testing.T) {
	got := []int64{impl.SignPrime, impl.MaxSignatures, impl.MaxSignNames, impl.FormSimple, impl.FormRelaxed}
	wantNumbers(t, "constants", "", got, []int64{signPrime, maxSignatures, maxSignNames, 0, 1})
	got = []int64{impl.SignPass, impl.SignNoKey, impl.SignIll, impl.SignBody, impl.SignHead}
	wantNumbers(t, "constants", "", got, []int64{0, 1, 2, 3, 4})
}

// factors is a key with these numbers, and an ordinary name.
func factors(a, b int64) impl.SignKey {
	return impl.SignKey{Domain: "a.example", Selector: "s", A: a, B: b}
}

// signer has an ordinary key, and signs simply.
func signer(names ...string) impl.Signer {
	return impl.Signer{Key: factors(1000003, 77), Names: names}
}

func inForms(s impl.Signer, head, body int64) impl.Signer {
	s.Head, s.Body = head, body
	return s
}

var forms = []int64{impl.FormSimple, impl.FormRelaxed}

// wrongForms are numbers that are no form, some of which look like one in fewer bits.
var wrongForms = []int64{-1, 2, 3, -2, 256, 257, 1 << 32, 1<<32 + 1, math.MinInt64, math.MinInt64 + 1, math.MaxInt64}

var wrongFactors = []int64{0, -1, -2, signPrime, signPrime + 1, -signPrime, 2 * signPrime, 2*signPrime + 1, math.MaxInt64, math.MinInt64, math.MinInt64 + 1, 1<<32 + 1}

// slowSum is a sum by numbers of any size.
func slowSum(factor int64, text string) int64 {
	sum, prime := big.NewInt(1), big.NewInt(signPrime)
	for _, b := range []byte(text) {
		sum.Mul(sum, big.NewInt(factor))
		sum.Add(sum, big.NewInt(int64(b)))
		sum.Add(sum, big.NewInt(1))
		sum.Mod(sum, prime)
	}
	return sum.Int64()
}

func checkSum(t *testing.T, k impl.SignKey, text string, want impl.Sum) {
	t.Helper()
	if got := impl.SumOf(k, text); got != want {
		t.Errorf("SumOf of %s, %s: %v, want %v", shown(k), short(text), got, want)
	}
}

func TestSumsOfTexts(t *testing.T) {
	for _, c := range []struct {
		a, b int64
		text string
		want impl.Sum
	}{
		{2, 3, "", impl.Sum{A: 1, B: 1}},
		{1, 1, "", impl.Sum{A: 1, B: 1}},
		{signPrime - 1, signPrime - 1, "", impl.Sum{A: 1, B: 1}},
		{2, 3, "\x00", impl.Sum{A: 3, B: 4}},
		{2, 3, "\xff", impl.Sum{A: 258, B: 259}},
		{2, 3, "\x00\x00", impl.Sum{A: 7, B: 13}},
		{2, 3, "\x00\xff", impl.Sum{A: 262, B: 268}},
		{2, 3, "\xff\x00", impl.Sum{A: 517, B: 778}},
		{1, 2, "abc", impl.Sum{A: 1 + 98 + 99 + 100, B: 8 + 98*4 + 99*2 + 100}},
		{1, 1, "\xff\xff", impl.Sum{A: 513, B: 513}},
		// Times the greatest number is times -1.
		{signPrime - 1, 1, "\x00", impl.Sum{A: 0, B: 2}},
		{signPrime - 1, 1, "\x00\x00", impl.Sum{A: 1, B: 3}},
		{1, signPrime - 1, "\x01", impl.Sum{A: 3, B: 1}},
		{signPrime - 1, signPrime - 1, "\xff\x00", impl.Sum{A: signPrime - 254, B: signPrime - 254}},
		{signPrime - 1, signPrime - 1, "\x00\xff", impl.Sum{A: 256, B: 256}},
	} {
		checkSum(t, factors(c.a, c.b), c.text, c.want)
	}
	d := dice{state: 1001}
	someFactors := []int64{1, 2, 3, 257, 46341, 65536, 1 << 30, signPrime / 2, signPrime - 2, signPrime - 1}
	for range 300 {
		a, b := someFactors[d.below(len(someFactors))], int64(1+d.below(signPrime-1))
		text := d.text(d.below(60), []string{"\x00", "\xff", "a", " ", "\r\n", "\x7f", "\x80"})
		checkSum(t, factors(a, b), text, impl.Sum{A: slowSum(a, text), B: slowSum(b, text)})
		checkSum(t, factors(b, a), text, impl.Sum{A: slowSum(b, text), B: slowSum(a, text)})
	}
}

func TestSumsOfKeys(t *testing.T) {
	for _, wrong := range wrongFactors {
		for _, text := range []string{"", "a", "\x00"} {
			checkSum(t, factors(wrong, 3), text, impl.Sum{})
			checkSum(t, factors(3, wrong), text, impl.Sum{})
			checkSum(t, factors(wrong, wrong), text, impl.Sum{})
		}
	}
	// Its name counts for nothing, unless it is a text that no call takes.
	for _, name := range []string{"", "[", "\x00;=", xs(maxText)} {
		checkSum(t, impl.SignKey{Domain: name, A: 2, B: 3}, "a", impl.Sum{A: 100, B: 101})
		checkSum(t, impl.SignKey{Selector: name, A: 2, B: 3}, "a", impl.Sum{A: 100, B: 101})
	}
	checkSum(t, impl.SignKey{Domain: xs(maxText + 1), A: 2, B: 3}, "a", impl.Sum{})
	checkSum(t, impl.SignKey{Selector: xs(maxText + 1), A: 2, B: 3}, "a", impl.Sum{})
}

func TestSumsOfLongTexts(t *testing.T) {
	k := factors(signPrime-2, 65537)
	for _, size := range []int{maxText, maxText + 1, 2*maxText - 1, 2 * maxText} {
		for _, text := range []string{xs(size), strings.Repeat("\x00", size), strings.Repeat("\xff", size)} {
			checkSum(t, k, text, impl.Sum{A: slowSum(k.A, text), B: slowSum(k.B, text)})
		}
	}
	for _, size := range []int{2*maxText + 1, 2*maxText + 2, 3 * maxText} {
		checkSum(t, k, xs(size), impl.Sum{})
	}
}

// changed is a text with another byte at a place.
func changed(text string, at int, b byte) string {
	out := []byte(text)
	out[at] = b
	return string(out)
}

// checkTold wants another sum, in both numbers, of a text with another byte at a place.
func checkTold(t *testing.T, k impl.SignKey, text string, at int, b byte) {
	t.Helper()
	one, other := impl.SumOf(k, text), impl.SumOf(k, changed(text, at, b))
	if text[at] != b && (one.A == other.A || one.B == other.B) {
		t.Errorf("SumOf of %s, %s: with the byte %d at %d both are %v, %v", shown(k), short(text), b, at, one, other)
	}
}

func TestPromise11Sums(t *testing.T) {
	keys := []impl.SignKey{factors(1, signPrime-1), factors(2, 1), factors(257, 256), factors(1000003, 77), factors(signPrime-2, signPrime/2)}
	for _, k := range keys {
		for _, text := range []string{"a", "\x00", "\xff", "From: a\r\n", "\x00\x00\x00", "\xff\xff\xff\xff", strings.Repeat("ab", 20)} {
			for at := range len(text) {
				for b := range 256 {
					checkTold(t, k, text, at, byte(b))
				}
			}
		}
		d := dice{state: 1002}
		long := d.text(2*maxText, []string{"a", "\x00", "\xff", " ", "\n"})
		for _, at := range []int{0, 1, maxText, 2*maxText - 2, 2*maxText - 1} {
			checkTold(t, k, long, at, byte(d.below(256)))
		}
	}
}

func checkField(t *testing.T, f impl.Field, form int64, want string) {
	t.Helper()
	wantText(t, "CanonField in "+strconv.FormatInt(form, 10), f.Name+":"+f.Value, impl.CanonField(f, form), want)
}

func TestFieldsAsSigned(t *testing.T) {
	for _, c := range []struct{ name, value, relaxed string }{
		{"Subject", " hi", "subject:hi\r\n"},
		{"Subject", "hi", "subject:hi\r\n"},
		{"subject", "", "subject:\r\n"},
		{"SUBJECT", " A B", "subject:A B\r\n"},
		{"SubJect-X1", "Z", "subject-x1:Z\r\n"},
		{"@[`{", "@[`{", "@[`{:@[`{\r\n"},
		{"A", "  a  b  ", "a:a b\r\n"},
		{"A", "\ta\tb\t", "a:a b\r\n"},
		{"A", " \t a \t\t b\t \t", "a:a b\r\n"},
		{"A", "a b c", "a:a b c\r\n"},
		// Blanks alone.
		{"A", " ", "a:\r\n"}, {"A", "\t", "a:\r\n"}, {"A", " \t ", "a:\r\n"}, {"A", "\r\n ", "a:\r\n"}, {"A", " \r\n\t\r\n ", "a:\r\n"},
		// Folded.
		{"A", " a\r\n b", "a:a b\r\n"},
		{"A", " a\r\n\tb", "a:a b\r\n"},
		{"A", "a \r\n b", "a:a b\r\n"},
		{"A", "a\r\n \r\n b\r\n ", "a:a b\r\n"},
		{"A", "\r\n a", "a:a\r\n"},
		{"A", " \r\n\t a\r\n\t ", "a:a\r\n"},
		// Only blanks are left out.
		{"A", "\x00 \x0b \x0c\x7f", "a:\x00 \x0b \x0c\x7f\r\n"},
		{"A", "\xa0 \xc2\xa0\xff", "a:\xa0 \xc2\xa0\xff\r\n"},
		{"A", "\xe2\x84\xaa\xc3\x89", "a:\xe2\x84\xaa\xc3\x89\r\n"},
		{xs(70), ":", xs(70) + "::\r\n"},
	} {
		f := impl.Field{Name: c.name, Value: c.value}
		checkField(t, f, impl.FormSimple, c.name+":"+c.value+"\r\n")
		checkField(t, f, impl.FormRelaxed, c.relaxed)
		for _, form := range wrongForms {
			checkField(t, f, form, "")
		}
	}
}

func TestFieldsThatAreNotSigned(t *testing.T) {
	for _, f := range fields(
		"", "a", "a b", "a", "a:", "a", "\x7f", "a", "\xc3\xa9", "a", "A\r\n", "a", xs(71), "a",
		"A", "\r\n", "A", "a\r\nb", "A", "a\r b", "A", "a\n b", "A", "a\r", "A", "a\n", "A", "a\r\n", "A", "a\r\n \r\n",
		"A", xs(maxText-3), "A", xs(maxText), "A", xs(maxText+1), xs(maxText+1), "a",
	) {
		for _, form := range append(slices.Clone(wrongForms), forms...) {
			checkField(t, f, form, "")
		}
	}
	long := xs(maxText - 4)
	checkField(t, impl.Field{Name: "A", Value: long}, impl.FormSimple, "A:"+long+"\r\n")
	checkField(t, impl.Field{Name: "A", Value: long}, impl.FormRelaxed, "a:"+long+"\r\n")
	gap := strings.Repeat(" ", maxText-4)
	checkField(t, impl.Field{Name: "A", Value: gap}, impl.FormRelaxed, "a:\r\n")
	// What WriteHead does not write is told by what stands there, not by what is left of it.
	checkField(t, impl.Field{Name: "A", Value: gap + " "}, impl.FormRelaxed, "")
}

var (
	someBlanks  = regexp.MustCompile(`[ \t]+`)
	blanksAtEnd = regexp.MustCompile(`[ \t]+(\r\n|$)`)
	foldMark    = regexp.MustCompile(`\r\n([ \t])`)
)

func slowField(f impl.Field, form int64) string {
	if form == impl.FormSimple {
		return f.Name + ":" + f.Value + "\r\n"
	}
	value := someBlanks.ReplaceAllString(foldMark.ReplaceAllString(f.Value, "$1"), " ")
	return strings.ToLower(f.Name) + ":" + strings.Trim(value, " ") + "\r\n"
}

func slowBody(body string, form int64) string {
	if form == impl.FormRelaxed {
		body = blanksAtEnd.ReplaceAllString(body, "$1")
		body = someBlanks.ReplaceAllString(body, " ")
	}
	for strings.HasSuffix(body, "\r\n") {
		body = strings.TrimSuffix(body, "\r\n")
	}
	if form == impl.FormRelaxed && body == "" {
		return ""
	}
	return body + "\r\n"
}

func checkBody(t *testing.T, body string, form int64, want string) {
	t.Helper()
	wantText(t, "CanonBody in "+strconv.FormatInt(form, 10), body, impl.CanonBody(body, form), want)
}

func TestBodiesAsSigned(t *testing.T) {
	for _, c := range []struct{ body, simple, relaxed string }{
		{"", "\r\n", ""},
		{"\r\n", "\r\n", ""},
		{"\r\n\r\n\r\n", "\r\n", ""},
		{"a", "a\r\n", "a\r\n"},
		{"a\r\n", "a\r\n", "a\r\n"},
		{"a\r\nb", "a\r\nb\r\n", "a\r\nb\r\n"},
		{"a\r\n\r\n", "a\r\n", "a\r\n"},
		{"a\r\n\r\n\r\n\r\n", "a\r\n", "a\r\n"},
		// Empty lines ahead and between stay.
		{"\r\na", "\r\na\r\n", "\r\na\r\n"},
		{"\r\n\r\na\r\n\r\n\r\nb\r\n\r\n", "\r\n\r\na\r\n\r\n\r\nb\r\n", "\r\n\r\na\r\n\r\n\r\nb\r\n"},
		// Blanks at a line's end, and lines of blanks alone.
		{"a ", "a \r\n", "a\r\n"},
		{"a\t \t\r\n", "a\t \t\r\n", "a\r\n"},
		{"a \r\nb\t\r\n", "a \r\nb\t\r\n", "a\r\nb\r\n"},
		{" ", " \r\n", ""},
		{" \r\n", " \r\n", ""},
		{"\t\r\n \r\n", "\t\r\n \r\n", ""},
		{"a\r\n \t \r\n\r\n", "a\r\n \t \r\n", "a\r\n"},
		{"a\r\n\r\n \r\n", "a\r\n\r\n \r\n", "a\r\n"},
		{" \r\na", " \r\na\r\n", "\r\na\r\n"},
		{"a\r\n \t\r\nb", "a\r\n \t\r\nb\r\n", "a\r\n\r\nb\r\n"},
		// Blanks elsewhere: one is left at a line's beginning.
		{"  a", "  a\r\n", " a\r\n"},
		{"\ta", "\ta\r\n", " a\r\n"},
		{" \t a \t b\t\tc\r\n\t d", " \t a \t b\t\tc\r\n\t d\r\n", " a b c\r\n d\r\n"},
		{"a\tb", "a\tb\r\n", "a b\r\n"},
		// Other bytes are no blanks and no line ends.
		{"\n", "\n\r\n", "\n\r\n"}, {"\r", "\r\r\n", "\r\r\n"}, {"a\n\n", "a\n\n\r\n", "a\n\n\r\n"}, {"a \n", "a \n\r\n", "a \n\r\n"}, {"a \r", "a \r\r\n", "a \r\r\n"},
		{"\r\r\n", "\r\r\n", "\r\r\n"}, {"a\r\n\n\r\n", "a\r\n\n\r\n", "a\r\n\n\r\n"}, {"a\x00 \x00\r\n", "a\x00 \x00\r\n", "a\x00 \x00\r\n"}, {"a\xa0\xff\x0b\r\n", "a\xa0\xff\x0b\r\n", "a\xa0\xff\x0b\r\n"},
	} {
		checkBody(t, c.body, impl.FormSimple, c.simple)
		checkBody(t, c.body, impl.FormRelaxed, c.relaxed)
		for _, form := range wrongForms {
			checkBody(t, c.body, form, "")
		}
	}
	d := dice{state: 1003}
	for range 3000 {
		body := d.text(d.below(12), []string{"a", "B", " ", "\t", "\r\n", "\r\n", "\r", "\n", " \r\n", "\x00"})
		for _, form := range forms {
			checkBody(t, body, form, slowBody(body, form))
		}
	}
}

func TestBodiesOfSizes(t *testing.T) {
	for _, form := range forms {
		checkBody(t, xs(maxText), form, xs(maxText)+"\r\n")
		checkBody(t, xs(maxText+1), form, "")
		ends := strings.Repeat("\r\n", maxText/2)
		checkBody(t, ends, form, slowBody("", form))
		checkBody(t, ends+"\r", form, "")
		checkBody(t, "a"+ends[:maxText-2], form, "a\r\n")
		checkBody(t, "a"+ends, form, "")
	}
	gaps := strings.Repeat(" ", maxText)
	checkBody(t, gaps, impl.FormSimple, gaps+"\r\n")
	checkBody(t, gaps, impl.FormRelaxed, "")
	checkBody(t, gaps+" ", impl.FormSimple, "")
	for _, form := range wrongForms {
		checkBody(t, gaps, form, "")
		checkBody(t, gaps+" ", form, "")
	}
}

func checkSigner(t *testing.T, s impl.Signer, want int64) {
	t.Helper()
	if got := impl.SignerFault(s); got != want {
		t.Errorf("SignerFault of %s: %d, want %d", short(shown(s)), got, want)
	}
	const message = "From: a@a.example\r\n\r\nhi\r\n"
	if signed := impl.Sign(message, s); (signed != "") != (want == impl.OK) {
		t.Errorf("Sign by %s: %s", short(shown(s)), short(signed))
	}
}

func TestSignersDomains(t *testing.T) {
	domain := func(text string) impl.Signer {
		s := signer("From")
		s.Key.Domain = text
		return s
	}
	for _, text := range []string{"a", "A", "a.example", "A-1.b_c.D", "x", xs(255), labels(255), "!#$%&'*+-/?^_{|}~`", "1", "a.b.c.d.e"} {
		checkSigner(t, domain(text), impl.OK)
	}
	for _, text := range []string{
		"", ".", "a.", ".a", "a..b", "a b", "a@b", "a,b", "a:b", "a\r\n", "a\x00", "a\x7f", "\"a\"", "(a)", xs(256), labels(256), xs(maxText + 1),
		// Literals.
		"[]", "[1.2.3.4]", "[a]", "[", "[;=]",
		// A byte above 127.
		"\x80", "a\xff", "\xc3\xa9.example", "a.\x80", "a.b\x80.c",
		// Bytes that say something in a signature.
		";", "a;b", "a;", "=", "a=b", "a.b=", "=a.b", "a.=.b",
	} {
		checkSigner(t, domain(text), impl.ErrForm)
	}
	for b := range 256 {
		text := "a" + string([]byte{byte(b)}) + "b"
		want := int64(impl.ErrForm)
		if impl.DomainFault(text) == impl.OK && b < 128 && b != ';' && b != '=' {
			want = impl.OK
		}
		checkSigner(t, domain(text), want)
	}
}

func TestSignersSelectors(t *testing.T) {
	selector := func(text string) impl.Signer {
		s := signer("From")
		s.Key.Selector = text
		return s
	}
	for _, text := range []string{"a", "z", "0", "9", "s1", "2026a", xs(maxSelector - 1), xs(maxSelector), "abcdefghijklmnopqrstuvwxyz0123456789"} {
		checkSigner(t, selector(text), impl.OK)
	}
	for _, text := range []string{"", xs(maxSelector + 1), xs(maxText + 1), "A", "a ", " a", "a-b", "a.b", "a_b", "aZ", "a;", "a=", "\xc3\xa9", "\x00", "a\r\n"} {
		checkSigner(t, selector(text), impl.ErrForm)
	}
	for b := range 256 {
		want := int64(impl.ErrForm)
		if 'a' <= b && b <= 'z' || '0' <= b && b <= '9' {
			want = impl.OK
		}
		checkSigner(t, selector(string([]byte{byte(b)})), want)
		checkSigner(t, selector("a"+string([]byte{byte(b)})), want)
	}
}

func TestSignersNumbers(t *testing.T) {
	for _, right := range []int64{1, 2, signPrime / 2, signPrime - 2, signPrime - 1} {
		for _, other := range []int64{1, signPrime - 1} {
			checkSigner(t, impl.Signer{Key: factors(right, other), Names: []string{"A"}}, impl.OK)
			checkSigner(t, impl.Signer{Key: factors(other, right), Names: []string{"A"}}, impl.OK)
		}
	}
	for _, wrong := range wrongFactors {
		checkSigner(t, impl.Signer{Key: factors(wrong, 1), Names: []string{"A"}}, impl.ErrForm)
		checkSigner(t, impl.Signer{Key: factors(1, wrong), Names: []string{"A"}}, impl.ErrForm)
	}
	for _, head := range forms {
		for _, body := range forms {
			checkSigner(t, inForms(signer("A"), head, body), impl.OK)
		}
	}
	for _, wrong := range wrongForms {
		checkSigner(t, inForms(signer("A"), wrong, 0), impl.ErrForm)
		checkSigner(t, inForms(signer("A"), 1, wrong), impl.ErrForm)
	}
}

func TestSignersNames(t *testing.T) {
	for _, names := range [][]string{
		{"A"}, {"a", "b"}, {"From", "from", "FROM"}, {"!", "~"}, {xs(70)}, {"Signature"}, {"[/,.]"}, slices.Repeat([]string{"A"}, maxSignNames), slices.Repeat([]string{xs(70)}, maxSignNames),
	} {
		checkSigner(t, signer(names...), impl.OK)
	}
	checkSigner(t, signer(), impl.ErrForm)
	checkSigner(t, impl.Signer{Key: factors(1, 1), Names: []string{}}, impl.ErrForm)
	checkSigner(t, signer(slices.Repeat([]string{"A"}, maxSignNames+1)...), impl.ErrForm)
	checkSigner(t, signer(slices.Repeat([]string{"A"}, maxText)...), impl.ErrForm)
	for _, wrong := range []string{"", " ", "a b", "a:", ":", "a:b", "a;b", ";", "a=b", "=", "a;", "a=", "\x7f", "\x80", "\xc3\xa9", "a\r\n", "a\x00", xs(71), xs(maxText + 1)} {
		checkSigner(t, signer(wrong), impl.ErrForm)
		checkSigner(t, signer("A", wrong), impl.ErrForm)
		checkSigner(t, signer(wrong, "A"), impl.ErrForm)
		checkSigner(t, signer(append(slices.Repeat([]string{"A"}, maxSignNames-1), wrong)...), impl.ErrForm)
	}
	for b := range 256 {
		want := int64(impl.ErrForm)
		if b > 32 && b < 127 && b != ':' && b != ';' && b != '=' {
			want = impl.OK
		}
		checkSigner(t, signer("a"+string([]byte{byte(b)})), want)
	}
	checkSigner(t, impl.Signer{}, impl.ErrForm)
}

func slowSums(k impl.SignKey, text string) string {
	return strconv.FormatInt(slowSum(k.A, text), 10) + "-" + strconv.FormatInt(slowSum(k.B, text), 10)
}

// slowValue is what a signature says ahead of the head's sum.
func slowValue(s impl.Signer, body string) string {
	words := []string{"simple", "relaxed"}
	return " d=" + s.Key.Domain + "; s=" + s.Key.Selector + "; c=" + words[s.Head] + "/" + words[s.Body] + "; h=" + strings.Join(s.Names, ":") + "; b=" + slowSums(s.Key, slowBody(body, s.Body)) + "; x="
}

// slowHead is the text of which a head's sum is told.
func slowHead(s impl.Signer, list []impl.Field, own impl.Field) string {
	out := ""
	taken := map[int]bool{}
	for _, name := range s.Names {
		found := -1
		for at, f := range list {
			if !taken[at] && strings.EqualFold(f.Name, name) {
				found = at
			}
		}
		if found >= 0 {
			taken[found] = true
			out += slowField(list[found], s.Head)
		}
	}
	own.Value = own.Value[:strings.LastIndex(own.Value, "x=")+2]
	return out + strings.TrimSuffix(slowField(own, s.Head), "\r\n")
}

// slowSign signs a message that can be signed by a signer that is right.
func slowSign(message string, s impl.Signer) string {
	head := impl.ReadHead(message)
	own := impl.Field{Name: "Signature", Value: slowValue(s, message[head.Body:])}
	return "Signature:" + own.Value + slowSums(s.Key, slowHead(s, head.Fields, own)) + "\r\n" + message
}

// checkSigned wants a message to be signed as slowSign does it, and its signature to pass.
func checkSigned(t *testing.T, message string, s impl.Signer) string {
	t.Helper()
	signed := impl.Sign(message, s)
	wantText(t, "Sign by "+short(shown(s)), message, signed, slowSign(message, s))
	// Signatures that stood there already have answers, too, which are looked at elsewhere.
	if answers := impl.CheckSigns(signed, []impl.SignKey{s.Key}); len(answers) == 0 || answers[0] != passes(s) {
		t.Errorf("CheckSigns of %s, signed by %s: %v", short(signed), short(shown(s)), answers)
	}
	return signed
}

func passes(s impl.Signer) impl.SignAnswer {
	return impl.SignAnswer{Domain: s.Key.Domain, Result: impl.SignPass}
}

func checkAnswers(t *testing.T, message string, keys []impl.SignKey, want ...impl.SignAnswer) {
	t.Helper()
	if got := impl.CheckSigns(message, keys); !slices.Equal(got, want) {
		t.Errorf("CheckSigns of %s, %s: %v, want %v", short(message), short(shown(keys)), got, want)
	}
}

// checkSignResult wants one answer, under the signer's key.
func checkSignResult(t *testing.T, message string, s impl.Signer, want int64) {
	t.Helper()
	answer := impl.SignAnswer{Domain: s.Key.Domain, Result: want}
	if want == impl.SignIll {
		answer.Domain = ""
	}
	checkAnswers(t, message, []impl.SignKey{s.Key}, answer)
}

func inAllForms(s impl.Signer) (all []impl.Signer) {
	for _, head := range forms {
		for _, body := range forms {
			all = append(all, inForms(s, head, body))
		}
	}
	return all
}

func TestSignWithSmallNumbers(t *testing.T) {
	// With factors of 1 a sum is 1, and 1 and the byte for each one: what is signed can be reckoned by hand.
	weight := func(text string) string {
		sum := 1
		for _, b := range []byte(text) {
			sum += int(b) + 1
		}
		return strconv.Itoa(sum) + "-" + strconv.Itoa(sum)
	}
	k := impl.SignKey{Domain: "B.org", Selector: "k9", A: 1, B: 1}
	message := "To:  x\r\nA: 1\r\na: 2\r\nTo: y \r\n\r\nhi  \r\n\r\n"
	for _, c := range []struct {
		s                impl.Signer
		said, body, head string
	}{
		{impl.Signer{Key: k, Names: []string{"A"}}, "simple/simple; h=A", "hi  \r\n", "a: 2\r\n"},
		{impl.Signer{Key: k, Names: []string{"A"}, Head: 1}, "relaxed/simple; h=A", "hi  \r\n", "a:2\r\n"},
		{impl.Signer{Key: k, Names: []string{"A"}, Body: 1}, "simple/relaxed; h=A", "hi\r\n", "a: 2\r\n"},
		{impl.Signer{Key: k, Names: []string{"A"}, Head: 1, Body: 1}, "relaxed/relaxed; h=A", "hi\r\n", "a:2\r\n"},
		{impl.Signer{Key: k, Names: []string{"a", "B", "TO"}}, "simple/simple; h=a:B:TO", "hi  \r\n", "a: 2\r\nTo: y \r\n"},
		{impl.Signer{Key: k, Names: []string{"to", "To", "A", "To"}}, "simple/simple; h=to:To:A:To", "hi  \r\n", "To: y \r\nTo:  x\r\na: 2\r\n"},
		{impl.Signer{Key: k, Names: []string{"X", "A", "A", "A", "a"}, Head: 1}, "relaxed/simple; h=X:A:A:A:a", "hi  \r\n", "a:2\r\na:1\r\n"},
	} {
		value := " d=B.org; s=k9; c=" + c.said + "; b=" + weight(c.body) + "; x="
		own := "Signature:" + value
		if c.s.Head == 1 {
			own = "signature:" + value[1:]
		}
		want := "Signature:" + value + weight(c.head+own) + "\r\n" + message
		wantText(t, "Sign by "+shown(c.s), message, impl.Sign(message, c.s), want)
		wantText(t, "slowSign", message, slowSign(message, c.s), want)
		checkSignResult(t, want, c.s, impl.SignPass)
	}
}

func TestSignMessages(t *testing.T) {
	for _, s := range []impl.Signer{
		signer("From"), signer("from", "TO", "Subject", "Nobody"), signer("To", "To", "To", "to"), signer("X-None"), signer("Signature"), signer("Signature", "Signature", "From"), {Key: factors(1, signPrime-1), Names: []string{"From", "Subject"}}, {Key: factors(signPrime-1, 1), Names: slices.Repeat([]string{"To"}, maxSignNames)},
	} {
		for _, s := range inAllForms(s) {
			for _, message := range []string{
				// Without a body, and without fields.
				"", "\r\n", "\r\n\r\n", "\r\nhi", "From: a", "From: a\r\n", "From: a\r\n\r\n", "From: a\r\n\r\n\r\n",
				"From: a@b\r\nTo: c\r\n\r\nhello\r\n", "From: a@b\r\nTo: c\r\n\r\nhello", "FROM:a\r\nfRom :  b\t\r\n\r\n \t\r\n x  y \r\n \r\n",
				// Fields that stand twice, folded ones, blanks.
				"To: a\r\nFrom: x\r\nTo: b\r\n to: c\r\nTO: d\r\n\r\nx", "Subject:  a\r\n\tb \r\n  c\r\nFrom:\r\n\r\nx\r\n\r\n", "To:\r\n \r\nFrom: \t \r\n\r\n",
				"Signature: x\r\nFrom: a\r\n\r\n", "Signature: x\r\nSIGNATURE: y\r\nFrom: a\r\n\r\nz",
				"From: \xff\x00\xc3\xa9\r\n\r\n\x00\xff\r\r\n\n",
			} {
				checkSigned(t, message, s)
			}
		}
	}
}

func TestSignRefuses(t *testing.T) {
	right := signer("A")
	for _, message := range []string{" ", "x", " A: b\r\n\r\n", "A: b\r\nx\r\n\r\n", "A: b\rc\r\n\r\n", ": a\r\n\r\n", "A: b\r\n\n", xs(71) + ": a\r\n\r\n", strings.Repeat("A:\r\n", maxFields+1), xs(maxText + 1)} {
		for _, s := range inAllForms(right) {
			wantText(t, "Sign", message, impl.Sign(message, s), "")
		}
	}
	for _, count := range []int{maxFields - 2, maxFields - 1} {
		many := strings.Repeat("A: b\r\n", count)
		checkSigned(t, many, right)
		checkSigned(t, many+"\r\nx", right)
		checkSigned(t, strings.Repeat("a: b\r\n", count), inForms(signer(slices.Repeat([]string{"A"}, maxSignNames)...), 1, 1))
	}
	many := strings.Repeat("A: b\r\n", maxFields)
	wantText(t, "Sign", many, impl.Sign(many, right), "")
	wantText(t, "Sign", many, impl.Sign(many+"\r\nx", right), "")
}

func TestSignSizes(t *testing.T) {
	// Blanks at the end of a relaxed body change its size and no sum.
	s := inForms(signer("A", "B"), 0, 1)
	for _, message := range []string{"A: b\r\n\r\n", "A: b\r\n\r\nhi", "\r\n", "A: b\r\n\r\n" + xs(maxText/2)} {
		room := maxText - len(impl.Sign(message, s))
		for _, less := range []int{2, 1, 0} {
			full := checkSigned(t, message+strings.Repeat(" ", room-less), s)
			if len(full) != maxText-less {
				t.Errorf("Sign of %s: %d bytes, want %d", short(message), len(full), maxText-less)
			}
		}
		for more := 1; more < 4; more++ {
			long := message + strings.Repeat(" ", room+more)
			wantText(t, "Sign", long, impl.Sign(long, s), "")
		}
		long := message + strings.Repeat(" ", maxText-len(message))
		wantText(t, "Sign", long, impl.Sign(long, s), "")
		wantText(t, "Sign", long+" ", impl.Sign(long+" ", s), "")
	}
	// A head that fills the text, and a body that does.
	head := "A:" + xs(maxText-2000) + "\r\n\r\n"
	checkSigned(t, head, inForms(signer("A"), 0, 0))
	checkSigned(t, head, inForms(signer("A"), 1, 1))
	checkSigned(t, "\r\n"+xs(maxText-2000), inForms(signer("A"), 1, 0))
	checkSigned(t, strings.Repeat("A:"+xs(480)+"\r\n", maxFields-1), inForms(signer(slices.Repeat([]string{"A"}, maxSignNames)...), 0, 0))
	longest := signer(slices.Repeat([]string{xs(70)}, maxSignNames)...)
	longest.Key.Domain, longest.Key.Selector = labels(255), xs(maxSelector)
	checkSigned(t, xs(70)+": a\r\n\r\nhi", longest)
}

var signedAs = regexp.MustCompile(`^ d=([^;]*); s=([^;]*); c=(simple|relaxed)/(simple|relaxed); h=([^;]*); b=(0|[1-9][0-9]{0,9})-(0|[1-9][0-9]{0,9}); x=(0|[1-9][0-9]{0,9})-(0|[1-9][0-9]{0,9})$`)

// slowCheck looks at signatures one by one, in another way.
func slowCheck(message string, keys []impl.SignKey) (answers []impl.SignAnswer) {
	head := impl.ReadHead(message)
	if head.Code != impl.OK || len(keys) > maxSignKeys {
		return nil
	}
	for at, f := range head.Fields {
		if strings.EqualFold(f.Name, "Signature") && len(answers) < maxSignatures {
			others := append(slices.Clone(head.Fields[:at]), head.Fields[at+1:]...)
			answers = append(answers, slowAnswer(f, others, message[head.Body:], keys))
		}
	}
	return answers
}

func slowAnswer(own impl.Field, others []impl.Field, body string, keys []impl.SignKey) impl.SignAnswer {
	ill := impl.SignAnswer{Result: impl.SignIll}
	m := signedAs.FindStringSubmatch(own.Value)
	if m == nil {
		return ill
	}
	for _, number := range m[6:] {
		if n, err := strconv.Atoi(number); err != nil || n >= signPrime {
			return ill
		}
	}
	s := impl.Signer{Key: impl.SignKey{Domain: m[1], Selector: m[2], A: 1, B: 1}, Names: strings.Split(m[5], ":")}
	if m[3] == "relaxed" {
		s.Head = 1
	}
	if m[4] == "relaxed" {
		s.Body = 1
	}
	if impl.SignerFault(s) != impl.OK {
		return ill
	}
	answer := impl.SignAnswer{Domain: m[1], Result: impl.SignNoKey}
	found := slices.IndexFunc(keys, func(k impl.SignKey) bool { return k.Domain == m[1] && k.Selector == m[2] })
	if found < 0 || min(keys[found].A, keys[found].B) < 1 || max(keys[found].A, keys[found].B) >= signPrime {
		return answer
	}
	switch {
	case slowSums(keys[found], slowBody(body, s.Body)) != m[6]+"-"+m[7]:
		answer.Result = impl.SignBody
	case slowSums(keys[found], slowHead(s, others, own)) != m[8]+"-"+m[9]:
		answer.Result = impl.SignHead
	default:
		answer.Result = impl.SignPass
	}
	return answer
}

func TestCheckSignsWithout(t *testing.T) {
	s := signer("From")
	keys := []impl.SignKey{s.Key}
	for _, message := range []string{"", "\r\n", "From: a\r\n\r\nhi", "Signatures: x\r\n\r\n", "X-Signature: x\r\n\r\n", "Signatur: x\r\n\r\n", "A: b\r\n\r\nSignature: x\r\n"} {
		checkAnswers(t, message, keys)
		checkAnswers(t, message, nil)
	}
	// A head with a code has no answers, whatever stands in it.
	signed := impl.Sign("From: a\r\n\r\nhi", s)
	for _, message := range []string{signed[:40] + "\r" + signed[40:], "x\r\n" + signed, " " + signed, strings.Repeat("A:\r\n", maxFields) + signed, signed + xs(maxText)} {
		checkAnswers(t, message, keys)
	}
	// A message that is full.
	full := impl.Sign("From: a\r\n\r\nhi", inForms(s, 0, 1))
	full += strings.Repeat(" ", maxText-len(full))
	checkAnswers(t, full, keys, passes(s))
	checkAnswers(t, full+" ", keys)
	most := strings.Repeat("A:\r\n", maxFields-2) + signed
	checkAnswers(t, most, keys, passes(s))
	checkAnswers(t, "A:\r\n"+most, keys)
}

func TestCheckSignsCounts(t *testing.T) {
	s := signer("From")
	signed := impl.Sign("From: a\r\n\r\nhi", s)
	ill := impl.SignAnswer{Result: impl.SignIll}
	for count := range maxSignatures + 3 {
		want := slices.Repeat([]impl.SignAnswer{ill}, min(count, maxSignatures))
		if count < maxSignatures {
			want = append(want, passes(s))
		}
		checkAnswers(t, strings.Repeat("Signature:\r\nX: y\r\n", count)+signed, []impl.SignKey{s.Key}, want...)
		want = append([]impl.SignAnswer{passes(s)}, slices.Repeat([]impl.SignAnswer{ill}, min(count, maxSignatures-1))...)
		own, rest, _ := strings.Cut(signed, "\r\n")
		checkAnswers(t, own+"\r\n"+strings.Repeat("signature: x\r\n", count)+rest, []impl.SignKey{s.Key}, want...)
	}
}

func TestCheckSignsIllValues(t *testing.T) {
	for _, s := range inAllForms(signer("From", "To")) {
		message := "From: a\r\n\r\nhi"
		signed := impl.Sign(message, s)
		value := strings.TrimSuffix(strings.TrimPrefix(signed, "Signature:"), "\r\n"+message)
		for _, c := range []struct{ old, new string }{
			// One thing is otherwise.
			{" d=", "d="}, {" d=", "  d="}, {" d=", "\td="}, {" d=", " D="}, {" d=", " "}, {" d=", " d = "}, {" d=", " e="}, {" d=", ""},
			{"; s=", ";s="}, {"; s=", " ; s="}, {"; s=", ";  s="}, {"; s=", ";\ts="}, {"; s=", "; S="}, {"; s=", ", s="}, {"; s=", "; s"}, {"; s=", "; s ="}, {"; s=s", ""}, {"; s=s", "; s=s; s=s"},
			{"; c=", ";c="}, {"; c=", ";  c="}, {"; c=", "; C="}, {"; c=", "; c= "}, {"; c=", "; d="},
			{"; h=", ";h="}, {"; h=", "; H="}, {"; h=", ";; h="}, {"; h=", "; h= "}, {"; h=From:To", "; h="}, {"; h=From:To", ""}, {"From:To", "From::To"}, {"From:To", ":From:To"}, {"From:To", "From:To:"}, {"From:To", "From: To"}, {"From:To", "From To"}, {"From:To", "From;To"}, {"From:To", "From=To"}, {"From:To", "Fr\xc3\xb6m:To"}, {"From:To", "From:" + xs(71)}, {"From:To", "From" + strings.Repeat(":A", maxSignNames)},
			{"; b=", ";b="}, {"; b=", "; B="}, {"; b=", "; b= "}, {"; x=", ";x="}, {"; x=", "; X="}, {"; x=", "; x= "}, {"; x=", "; y="}, {"; x=", "; x=1-"}, {"; x=", "; x=-"}, {"; x=", ";; x="}, {"; x=", "; x=1-1; x="},
			// The domain and the selector.
			{"a.example", ""}, {"a.example", "."}, {"a.example", "a..example"}, {"a.example", "[a]"}, {"a.example", "a=b"}, {"a.example", "a;b"}, {"a.example", "a\xff"}, {"a.example", "a b"}, {"a.example", xs(256)}, {"a.example", "a.example "},
			{"s=s", "s="}, {"s=s", "s=S"}, {"s=s", "s=s-s"}, {"s=s", "s=" + xs(maxSelector+1)}, {"s=s", "s=s "}, {"s=s", "s=\xc3\xa9"},
			// Folded.
			{" d=", "\r\n d="}, {"; s=", ";\r\n s="}, {"; c=", ";\r\n\tc="}, {"; b=", "\r\n ; b="}, {"; h=From", "; h=\r\n From"},
		} {
			if !strings.Contains(value, c.old) {
				t.Fatalf("nothing to change: %s in %s", c.old, value)
			}
			checkSignResult(t, "Signature:"+strings.Replace(value, c.old, c.new, 1)+"\r\n"+message, s, impl.SignIll)
		}
		for _, other := range []string{
			"", " ", "x", " d=", value[1:], " " + value, value + " ", value + "\t", value + "\r\n ", value + ";", value + "; ", value + "; y=1", value + "-1", value + "-", value + "0x", value + value, value + "; d=a.example", strings.TrimRight(value, "0123456789"), value[:strings.LastIndex(value, "-")], value[:strings.LastIndex(value, "; x=")], value[:strings.LastIndex(value, "; x=")+4], value[:strings.LastIndex(value, "; b=")], strings.ToUpper(value), strings.ReplaceAll(value, " ", ""), impl.Fold(value, 10),
		} {
			checkSignResult(t, "Signature:"+other+"\r\n"+message, s, impl.SignIll)
		}
		checkSignResult(t, "Signature:"+value+"\r\n"+message, s, impl.SignPass)
	}
}

func TestCheckSignsFormWords(t *testing.T) {
	s := signer("From")
	message := "From: a\r\n\r\nhi"
	signed := impl.Sign(message, s)
	for _, words := range []string{"", "/", "simple", "simple/", "/simple", "relaxed", "simple/simple/simple", "Simple/simple", "simple/SIMPLE", "relaxed/Relaxed", "simple /simple", "simple/ simple", "simple-simple", "simple/strict", "strict/simple", "0/0", "relax/relaxed", "simplerelaxed", "simple//relaxed", "simple/relaxed "} {
		checkSignResult(t, strings.Replace(signed, "simple/simple", words, 1), s, impl.SignIll)
	}
	// What these say is right, but it was not signed.
	for _, words := range []string{"relaxed/simple", "relaxed/relaxed", "simple/relaxed"} {
		checkSignResult(t, strings.Replace(signed, "simple/simple", words, 1), s, impl.SignHead)
	}
	blank := impl.Sign("From: a\r\n\r\n", s)
	checkSignResult(t, strings.Replace(blank, "simple/simple", "simple/relaxed", 1), s, impl.SignBody)
}

// withSums is a message that is signed with these sums in place of its own.
func withSums(s impl.Signer, message, body, head string) string {
	value := slowValue(s, "")
	value = value[:strings.LastIndex(value, "b=")+2]
	return "Signature:" + value + body + "; x=" + head + "\r\n" + message
}

func TestCheckSignsSums(t *testing.T) {
	s := signer("From")
	message := "From: a\r\n\r\nhi\r\n"
	head := impl.ReadHead(message)
	body := slowSums(s.Key, "hi\r\n")
	headOf := func(body string) string {
		own := impl.Field{Name: "Signature", Value: strings.Split(slowValue(s, ""), "b=")[0] + "b=" + body + "; x="}
		return slowSums(s.Key, slowHead(s, head.Fields, own))
	}
	checkSignResult(t, withSums(s, message, body, headOf(body)), s, impl.SignPass)
	for _, sum := range []string{"0-0", "0-1", "1-0", "1-1", "2147483646-2147483646", "0-2147483646", "2147483646-0", "10-100"} {
		checkSignResult(t, withSums(s, message, sum, headOf(sum)), s, impl.SignBody)
		checkSignResult(t, withSums(s, message, body, sum), s, impl.SignHead)
		checkSignResult(t, withSums(s, message, sum, sum), s, impl.SignBody)
	}
	for _, sum := range []string{
		"", "-", "--", "1", "1-", "-1", "1--1", "-1-1", "1-1-1", "1-1-", "--1", "-1--1", "1 -1", "1- 1", " 1-1", "1-1 ", "+1-1", "1-+1", "1_0-1", "0x1-1", "1-a", "a-1", "1.0-1", "1,1", "1/1", "1:1", "1\r\n -1", "1-1\r\n ",
		// Needless noughts.
		"00-0", "0-00", "01-1", "1-01", "000-1", "1-007", "02147483646-1",
		// Numbers of the prime and more, also some that fewer bits would make small.
		"2147483647-1", "1-2147483647", "2147483647-2147483647", "2147483648-1", "1-4294967297", "9223372036854775807-1", "1-9223372036854775808", "18446744073709551617-1", "1-18446744073709551617", "1-" + strings.Repeat("9", 100), strings.Repeat("1", 20000) + "-1", "-0-1", "1--0",
		"\xd9\xa1-1",
	} {
		checkSignResult(t, withSums(s, message, sum, headOf(body)), s, impl.SignIll)
		checkSignResult(t, withSums(s, message, body, sum), s, impl.SignIll)
	}
	// The right numbers, otherwise written.
	for _, sum := range []string{"0" + body, strings.Replace(body, "-", "-0", 1), "+" + body, body + "-", strings.Replace(body, "-", " - ", 1)} {
		checkSignResult(t, withSums(s, message, sum, headOf(sum)), s, impl.SignIll)
	}
}

func TestSumsAtTheEnds(t *testing.T) {
	// Times the greatest number is times -1: by turns, a byte adds and takes off, and sums come to both ends.
	s := impl.Signer{Key: factors(signPrime-1, signPrime-1), Names: []string{"From"}}
	for _, c := range []struct{ body, sum string }{
		{"\x04", "1-1"}, {"\x03", "0-0"}, {"\x02", "2147483646-2147483646"},
	} {
		signed := checkSigned(t, "\r\n"+c.body, s)
		if !strings.Contains(signed, "; b="+c.sum+"; x=") {
			t.Errorf("Sign of %q: %s, want the sum %s", c.body, signed, c.sum)
		}
	}
}

func TestCheckSignsKeys(t *testing.T) {
	s := signer("From")
	right := s.Key
	signed := impl.Sign("From: a\r\n\r\nhi", s)
	named := func(domain, selector string) impl.SignKey {
		return impl.SignKey{Domain: domain, Selector: selector, A: right.A, B: right.B}
	}
	for _, c := range []struct {
		keys []impl.SignKey
		want int64
	}{
		{nil, impl.SignNoKey}, {[]impl.SignKey{}, impl.SignNoKey}, {[]impl.SignKey{{}}, impl.SignNoKey},
		{[]impl.SignKey{right}, impl.SignPass},
		{[]impl.SignKey{named("b.example", "s"), named("a.example", "t"), right}, impl.SignPass},
		// Names that are not the same one.
		{[]impl.SignKey{named("A.example", "s")}, impl.SignNoKey}, {[]impl.SignKey{named("a.example.", "s")}, impl.SignNoKey}, {[]impl.SignKey{named("example", "s")}, impl.SignNoKey}, {[]impl.SignKey{named("b.a.example", "s")}, impl.SignNoKey}, {[]impl.SignKey{named("a.example", "S")}, impl.SignNoKey}, {[]impl.SignKey{named("a.example", "")}, impl.SignNoKey}, {[]impl.SignKey{named("a.example", "ss")}, impl.SignNoKey}, {[]impl.SignKey{named("", "s")}, impl.SignNoKey}, {[]impl.SignKey{named("s", "a.example")}, impl.SignNoKey}, {[]impl.SignKey{named("a.examples", "")}, impl.SignNoKey},
		// One that stands twice: the first one counts, right or not.
		{[]impl.SignKey{right, right}, impl.SignPass}, {[]impl.SignKey{right, factors(0, 0)}, impl.SignPass}, {[]impl.SignKey{right, factors(5, 7)}, impl.SignPass},
		{[]impl.SignKey{factors(0, right.B), right}, impl.SignNoKey}, {[]impl.SignKey{factors(5, 7), right}, impl.SignBody},
		// Other numbers.
		{[]impl.SignKey{factors(right.B, right.A)}, impl.SignBody}, {[]impl.SignKey{factors(right.A, right.B+1)}, impl.SignBody}, {[]impl.SignKey{factors(right.A+1, right.B)}, impl.SignBody},
	} {
		checkAnswers(t, signed, c.keys, impl.SignAnswer{Domain: "a.example", Result: c.want})
	}
	for _, wrong := range wrongFactors {
		checkAnswers(t, signed, []impl.SignKey{factors(wrong, right.B)}, impl.SignAnswer{Domain: "a.example", Result: impl.SignNoKey})
		checkAnswers(t, signed, []impl.SignKey{factors(right.A, wrong), right}, impl.SignAnswer{Domain: "a.example", Result: impl.SignNoKey})
		// The same key by its rest, but no right one.
		checkAnswers(t, signed, []impl.SignKey{factors(right.A+signPrime, right.B)}, impl.SignAnswer{Domain: "a.example", Result: impl.SignNoKey})
	}
	// An ill value is told ahead of a key that lacks; it needs none.
	checkAnswers(t, "Signature: x\r\n"+signed, nil, impl.SignAnswer{Result: impl.SignIll}, impl.SignAnswer{Domain: "a.example", Result: impl.SignNoKey})
}

func TestCheckSignsKeyLimits(t *testing.T) {
	s := signer("From")
	signed := impl.Sign("From: a\r\n\r\nhi", s)
	other := impl.SignKey{Domain: "b.example", Selector: "s", A: 1, B: 1}
	checkAnswers(t, signed, append(slices.Repeat([]impl.SignKey{other}, maxSignKeys-1), s.Key), passes(s))
	checkAnswers(t, signed, slices.Repeat([]impl.SignKey{other}, maxSignKeys), impl.SignAnswer{Domain: "a.example", Result: impl.SignNoKey})
	checkAnswers(t, signed, append([]impl.SignKey{s.Key}, slices.Repeat([]impl.SignKey{other}, maxSignKeys-1)...), passes(s))
	checkAnswers(t, signed, append([]impl.SignKey{s.Key}, slices.Repeat([]impl.SignKey{other}, maxSignKeys)...))
	checkAnswers(t, "Signature: x\r\n\r\n", slices.Repeat([]impl.SignKey{other}, maxSignKeys+1))
	checkAnswers(t, "Signature: x\r\n\r\n", slices.Repeat([]impl.SignKey{other}, maxSignKeys), impl.SignAnswer{Result: impl.SignIll})
	// Keys that name nothing right are no fault, but a text that no call takes is refused.
	checkAnswers(t, signed, []impl.SignKey{{Domain: xs(maxText)}, {Selector: xs(maxText)}, s.Key}, passes(s))
	checkAnswers(t, signed, []impl.SignKey{s.Key, {Domain: xs(maxText + 1)}})
	checkAnswers(t, signed, []impl.SignKey{s.Key, {Selector: xs(maxText + 1)}})
}

func TestCheckSignsBodies(t *testing.T) {
	for _, head := range forms {
		simple, relaxed := inForms(signer("From"), head, 0), inForms(signer("From"), head, 1)
		bySimple, byRelaxed := impl.Sign("From: a\r\n\r\na  b\r\n\r\nc\r\n", simple), impl.Sign("From: a\r\n\r\na  b\r\n\r\nc\r\n", relaxed)
		for _, c := range []struct {
			body            string
			simple, relaxed int64
		}{
			{"a  b\r\n\r\nc\r\n", impl.SignPass, impl.SignPass},
			// Both forgive empty lines at the end, and that the last line end lacks.
			{"a  b\r\n\r\nc", impl.SignPass, impl.SignPass}, {"a  b\r\n\r\nc\r\n\r\n", impl.SignPass, impl.SignPass}, {"a  b\r\n\r\nc\r\n\r\n\r\n\r\n", impl.SignPass, impl.SignPass},
			// The relaxed form forgives blanks where there are some, and at a line's end.
			{"a b\r\n\r\nc\r\n", impl.SignBody, impl.SignPass}, {"a\tb\r\n\r\nc\r\n", impl.SignBody, impl.SignPass}, {"a  b \r\n\r\nc\r\n", impl.SignBody, impl.SignPass}, {"a  b\r\n \t\r\nc\t", impl.SignBody, impl.SignPass}, {"a  b\r\n\r\nc\r\n \r\n\t\r\n", impl.SignBody, impl.SignPass},
			// Neither forgives this.
			{"ab\r\n\r\nc\r\n", impl.SignBody, impl.SignBody}, {" a  b\r\n\r\nc\r\n", impl.SignBody, impl.SignBody}, {"a  b\r\nc\r\n", impl.SignBody, impl.SignBody}, {"a  b\r\n\r\n\r\nc\r\n", impl.SignBody, impl.SignBody}, {"\r\na  b\r\n\r\nc\r\n", impl.SignBody, impl.SignBody}, {"a  b\r\n\r\nC\r\n", impl.SignBody, impl.SignBody}, {"a  b\r\n\r\nc\r\nx", impl.SignBody, impl.SignBody}, {"", impl.SignBody, impl.SignBody}, {"a  b\r\n\r\nc\n", impl.SignBody, impl.SignBody}, {"a  b\r\n\r\nc\r", impl.SignBody, impl.SignBody}, {"a  b\n\nc\r\n", impl.SignBody, impl.SignBody},
		} {
			checkSignResult(t, strings.SplitAfter(bySimple, "\r\n\r\n")[0]+c.body, simple, c.simple)
			checkSignResult(t, strings.SplitAfter(byRelaxed, "\r\n\r\n")[0]+c.body, relaxed, c.relaxed)
		}
		// The body is looked at ahead of the head.
		checkSignResult(t, strings.Replace(bySimple, "From: a", "From: b", 1)+"x", simple, impl.SignBody)
	}
}

func TestCheckSignsHeads(t *testing.T) {
	message := "To: x\r\nSubject:  a  b\r\nFrom: y\r\nTo: z\r\n\r\nhi\r\n"
	for _, body := range forms {
		simple, relaxed := inForms(signer("From", "to", "Subject", "Cc"), 0, body), inForms(signer("From", "to", "Subject", "Cc"), 1, body)
		own := func(s impl.Signer) string { return strings.SplitAfter(impl.Sign(message, s), "\r\n")[0] }
		for _, c := range []struct {
			head            string
			simple, relaxed int64
		}{
			{"To: x\r\nSubject:  a  b\r\nFrom: y\r\nTo: z\r\n", impl.SignPass, impl.SignPass},
			// Both forgive blanks ahead of the colon, another order of other names, fields that are not named, and those ahead of the last one.
			{"To: x\r\nSubject :  a  b\r\nFrom \t: y\r\nTo: z\r\n", impl.SignPass, impl.SignPass}, {"From: y\r\nTo: x\r\nTo: z\r\nSubject:  a  b\r\n", impl.SignPass, impl.SignPass}, {"X: 1\r\nTo: x\r\nSubject:  a  b\r\nX: 2\r\nFrom: y\r\nTo: z\r\nX:\r\n", impl.SignPass, impl.SignPass}, {"Subject:  a  b\r\nFrom: y\r\nTo: z\r\n", impl.SignPass, impl.SignPass}, {"To: other\r\nSubject:  a  b\r\nFrom: y\r\nTo: z\r\n", impl.SignPass, impl.SignPass}, {"Subject: ahead\r\nFrom: ahead\r\nTo: x\r\nSubject:  a  b\r\nFrom: y\r\nTo: z\r\n", impl.SignPass, impl.SignPass},
			// The relaxed form forgives capitals of names, folds, blanks in runs and at both ends.
			{"To: x\r\nSUBJECT:  a  b\r\nfrom: y\r\ntO: z\r\n", impl.SignHead, impl.SignPass}, {"To: x\r\nSubject: a b\r\nFrom:y\r\nTo:\tz \r\n", impl.SignHead, impl.SignPass}, {"To: x\r\nSubject:  a\r\n b\r\nFrom: y\r\nTo: z\r\n", impl.SignHead, impl.SignPass}, {"To: x\r\nSubject:\r\n\ta\t\r\n \r\n b \r\nFrom: y\r\nTo: z\r\n", impl.SignHead, impl.SignPass}, {"To: x\r\nSubject:  a  b\r\nFrom: y\r\nTo:z\r\n", impl.SignHead, impl.SignPass},
			// Neither forgives this.
			{"To: x\r\nSubject:  ab\r\nFrom: y\r\nTo: z\r\n", impl.SignHead, impl.SignHead}, {"To: x\r\nSubject:  A  b\r\nFrom: y\r\nTo: z\r\n", impl.SignHead, impl.SignHead}, {"To: z\r\nSubject:  a  b\r\nFrom: y\r\nTo: x\r\n", impl.SignHead, impl.SignHead}, {"To: x\r\nSubject:  a  b\r\nTo: z\r\n", impl.SignHead, impl.SignHead}, {"To: x\r\nSubject:  a  b\r\nFrom: y\r\n", impl.SignHead, impl.SignHead}, {"To: x\r\nSubject:  a  b\r\nFrom: y\r\nTo: z\r\nTo: z2\r\n", impl.SignHead, impl.SignHead}, {"To: x\r\nSubject:  a  b\r\nFrom: y\r\nTo: z\r\nCc:\r\n", impl.SignHead, impl.SignHead}, {"Cc: q\r\nTo: x\r\nSubject:  a  b\r\nFrom: y\r\nTo: z\r\n", impl.SignHead, impl.SignHead}, {"", impl.SignHead, impl.SignHead}, {"To: x\r\nSubject:  a  b.\r\nFrom: y\r\nTo: z\r\n", impl.SignHead, impl.SignHead},
		} {
			checkSignResult(t, own(simple)+c.head+"\r\nhi\r\n", simple, c.simple)
			checkSignResult(t, own(relaxed)+c.head+"\r\nhi\r\n", relaxed, c.relaxed)
			// The signature may stand behind them, too.
			checkSignResult(t, c.head+own(simple)+"\r\nhi\r\n", simple, c.simple)
			checkSignResult(t, c.head+own(relaxed)+"\r\nhi\r\n", relaxed, c.relaxed)
		}
		// Its own name is a part of its field, the blanks behind that are none.
		for _, name := range []string{"SIGNATURE:", "signature:", "sIGNATURE :"} {
			checkSignResult(t, strings.Replace(impl.Sign(message, simple), "Signature:", name, 1), simple, impl.SignHead)
			checkSignResult(t, strings.Replace(impl.Sign(message, relaxed), "Signature:", name, 1), relaxed, impl.SignPass)
		}
		checkSignResult(t, strings.Replace(impl.Sign(message, simple), "Signature:", "Signature\t :", 1), simple, impl.SignPass)
	}
}

func TestCheckSignsOwnNames(t *testing.T) {
	message := "From: y\r\n\r\nhi\r\n"
	for _, s := range inAllForms(signer("From")) {
		signed := impl.Sign(message, s)
		// Other names, or the same ones otherwise written, were not signed.
		for _, names := range []string{"FROM", "From:To", "From:From", "To", "To:From", "From:Signature"} {
			checkSignResult(t, strings.Replace(signed, "h=From", "h="+names, 1), s, impl.SignHead)
		}
		// Nor was another domain, selector or sum.
		other := s
		other.Key.Domain = "A.example"
		checkSignResult(t, strings.Replace(signed, "d=a.example", "d=A.example", 1), other, impl.SignHead)
		other = s
		other.Key.Selector = "t"
		checkSignResult(t, strings.Replace(signed, "s=s", "s=t", 1), other, impl.SignHead)
	}
}

func TestCheckSignsOfSeveral(t *testing.T) {
	message := "From: y\r\nTo: z\r\n\r\nhi \r\n"
	a := inForms(signer("From", "To"), 0, 1)
	b := impl.Signer{Key: impl.SignKey{Domain: "b.example", Selector: "2", A: 5, B: 6}, Names: []string{"From", "Signature"}, Head: 1}
	c := impl.Signer{Key: impl.SignKey{Domain: "a.example", Selector: "c", A: 7, B: 8}, Names: []string{"Signature", "Signature", "Signature", "To"}, Body: 1}
	keys := []impl.SignKey{c.Key, a.Key, b.Key}
	answer := func(s impl.Signer, result int64) impl.SignAnswer {
		return impl.SignAnswer{Domain: s.Key.Domain, Result: result}
	}
	one := impl.Sign(message, a)
	checkAnswers(t, one, keys, passes(a))
	two := impl.Sign(one, b)
	checkAnswers(t, two, keys, passes(b), passes(a))
	three := impl.Sign(two, c)
	// One that stands ahead later is no field of those that were signed, where it is not among the Names as the last one.
	checkAnswers(t, three, keys, passes(c), passes(b), passes(a))
	checkAnswers(t, three, keys[:2], passes(c), answer(b, impl.SignNoKey), passes(a))
	checkAnswers(t, three, nil, answer(c, impl.SignNoKey), answer(b, impl.SignNoKey), answer(a, impl.SignNoKey))
	// The relaxed bodies forgive what the simple one does not.
	checkAnswers(t, strings.TrimSuffix(three, " \r\n"), keys, passes(c), answer(b, impl.SignBody), passes(a))
	checkAnswers(t, strings.Replace(three, "To: z", "To: Z", 1), keys, answer(c, impl.SignHead), passes(b), answer(a, impl.SignHead))
	checkAnswers(t, strings.Replace(three, "From: y", "from:  y", 1), keys, passes(c), passes(b), answer(a, impl.SignHead))
	// b has signed a's signature, and c both.
	lines := strings.SplitAfter(three, "\r\n")
	checkAnswers(t, lines[0]+lines[1]+strings.Join(lines[3:], ""), keys, answer(c, impl.SignHead), answer(b, impl.SignHead))
	checkAnswers(t, lines[0]+strings.Join(lines[2:], ""), keys, answer(c, impl.SignHead), passes(a))
	checkAnswers(t, lines[1]+lines[0]+strings.Join(lines[2:], ""), keys, passes(b), passes(c), passes(a))
	checkAnswers(t, lines[1]+lines[2]+lines[0]+strings.Join(lines[3:], ""), keys, answer(b, impl.SignHead), passes(a), passes(c))
	// c has signed that there were just two.
	checkAnswers(t, "Signature: x\r\n"+three, keys, impl.SignAnswer{Result: impl.SignIll}, answer(c, impl.SignHead), passes(b), passes(a))
	// One by the same signer, again and again.
	again := message
	for count := range maxSignatures + 2 {
		checkAnswers(t, again, keys, slices.Repeat([]impl.SignAnswer{passes(a)}, min(count, maxSignatures))...)
		again = impl.Sign(again, a)
	}
}

func (d *dice) pick(texts ...string) string { return texts[d.below(len(texts))] }

func (d *dice) signer() impl.Signer {
	key := impl.SignKey{Domain: d.pick("a", "b.example", "A", "c-1.x"), Selector: d.pick("s", "t", "0"), A: int64(1 + d.below(signPrime-1)), B: int64(1 + d.below(5))}
	var names []string
	for range 1 + d.below(5) {
		names = append(names, d.pick("From", "to", "X", "SUBJECT", "Signature", "From", "To"))
	}
	return impl.Signer{Key: key, Names: names, Head: int64(d.below(2)), Body: int64(d.below(2))}
}

// toSign is a message with fields of a few names, or one without any.
func (d *dice) toSign() string {
	out := ""
	for range d.below(6) {
		out += d.pick("From", "FROM", "To", "to", "Subject", "Signature", "X") + d.pick("", "", " ") + ":" + d.text(d.below(5), []string{"a", "B", " ", "  ", "\t", "\r\n ", "\r\n\t", "\xff", ";", "x="}) + "\r\n"
	}
	if d.below(8) == 0 {
		return out
	}
	return out + "\r\n" + d.text(d.below(8), []string{"a", "b ", " ", "\t", "\r\n", " \r\n", "\r\n\r\n", "\xff", "\r", "\n"})
}

func TestSignAnyMessage(t *testing.T) {
	d := dice{state: 1004}
	for range 3000 {
		message := d.toSign()
		if impl.ReadHead(message).Code != impl.OK {
			continue
		}
		checkSigned(t, message, d.signer())
	}
}

// forgiven is a message that was signed, changed in what the forms forgive.
func (d *dice) forgiven(signed string, s impl.Signer) string {
	head := impl.ReadHead(signed)
	out := ""
	for at, f := range head.Fields {
		if s.Head == impl.FormRelaxed {
			f.Name = d.pick(f.Name, strings.ToUpper(f.Name), strings.ToLower(f.Name))
			if at > 0 {
				f.Value = d.respaced(f.Value)
			}
		}
		out += f.Name + d.pick("", "", " ", "\t ") + ":" + f.Value + "\r\n"
	}
	lines := strings.Split(signed[head.Body:], "\r\n")
	for at := range lines {
		if s.Body == impl.FormRelaxed {
			lines[at] = someBlanks.ReplaceAllStringFunc(lines[at], func(string) string { return d.pick(" ", "\t", " \t ") }) + d.pick("", "", " ", "\t")
		}
	}
	body := strings.Join(lines, "\r\n")
	if !strings.HasSuffix(body, "\r") {
		body += strings.Repeat("\r\n", d.below(4))
	}
	return out + "\r\n" + body
}

// respaced has other blanks and folds where blanks are, and at both ends.
func (d *dice) respaced(value string) string {
	value = strings.Trim(foldMark.ReplaceAllString(value, "$1"), " \t")
	gap := func(string) string { return d.pick(" ", "\t", "  ", "\r\n ", " \r\n\t ", "\r\n \r\n ") }
	return d.pick("", gap("")) + someBlanks.ReplaceAllStringFunc(value, gap) + d.pick("", gap(""))
}

func TestPromise10(t *testing.T) {
	d := dice{state: 1005}
	for range 3000 {
		message := d.toSign()
		if impl.ReadHead(message).Code != impl.OK {
			continue
		}
		s := d.signer()
		signed := impl.Sign(message, s)
		other := d.signer()
		keys := []impl.SignKey{s.Key, other.Key, {Domain: s.Key.Domain, Selector: s.Key.Selector}}
		first := func(text string) {
			t.Helper()
			answers := impl.CheckSigns(text, keys)
			if len(answers) == 0 || answers[0] != passes(s) {
				t.Errorf("CheckSigns of %s, signed by %s as %s: %v", short(text), shown(s), short(signed), answers)
			}
		}
		first(signed)
		first(d.forgiven(signed, s))
		ahead := ""
		for range 1 + d.below(3) {
			name := d.pick("X-Ahead", "Received", "From", "To", "X", "subject")
			if !slices.ContainsFunc(s.Names, func(n string) bool { return strings.EqualFold(n, name) }) {
				ahead += name + ":" + d.pick("", " y", "\r\n z", " Signature: x") + "\r\n"
			}
		}
		first(ahead + signed)
		first(ahead + d.forgiven(signed, s))
	}
}

func TestPromise10Edges(t *testing.T) {
	message := "From: a\r\n\r\nhi\r\n"
	for _, s := range inAllForms(signer("From", "Cc")) {
		signed := impl.Sign(message, s)
		keys := append([]impl.SignKey{s.Key}, slices.Repeat([]impl.SignKey{factors(0, 0)}, maxSignKeys-1)...)
		checkAnswers(t, signed, keys, passes(s))
		// As many fields ahead as a message can have.
		checkAnswers(t, strings.Repeat("X: y\r\n", maxFields-2)+signed, keys, passes(s))
		checkAnswers(t, "X:"+xs(maxText-len(signed)-4)+"\r\n"+signed, keys, passes(s))
		// Another signature ahead is not among the Names.
		checkAnswers(t, "Signature: x\r\n"+signed, keys, impl.SignAnswer{Result: impl.SignIll}, passes(s))
		// A field ahead that is among them, and that the message lacks, is told.
		checkAnswers(t, "Cc: y\r\n"+signed, keys, impl.SignAnswer{Domain: "a.example", Result: impl.SignHead})
		checkAnswers(t, "cC: y\r\n"+signed, keys, impl.SignAnswer{Domain: "a.example", Result: impl.SignHead})
		// As many empty lines behind as there is room for.
		room := (maxText - len(signed)) / 2
		checkAnswers(t, signed+strings.Repeat("\r\n", room), keys, passes(s))
	}
}

func TestPromise11Messages(t *testing.T) {
	message := "To: x\r\nFrom: ab\r\n\r\nhi \r\nc\r\n"
	for _, s := range inAllForms(signer("From", "To")) {
		signed := impl.Sign(message, s)
		// A letter is summed as it stands in either form, as long as it becomes another one that is no blank and no line end.
		for _, c := range []struct {
			piece string
			want  int64
		}{{"hi", impl.SignBody}, {"\nc\r", impl.SignBody}, {"ab", impl.SignHead}, {": x", impl.SignHead}} {
			at := strings.LastIndex(signed, c.piece) + len(c.piece)/2
			for b := range 256 {
				if byte(b) == signed[at] || strings.IndexByte(" \t\r\n", byte(b)) >= 0 {
					continue
				}
				checkSignResult(t, changed(signed, at, byte(b)), s, c.want)
			}
		}
		checkOwnBytes(t, signed, s)
	}
}

// checkOwnBytes turns each byte of a signature's value into others: nothing of that passes.
func checkOwnBytes(t *testing.T, signed string, s impl.Signer) {
	t.Helper()
	for at := len("Signature:"); at < strings.Index(signed, "\r\n"); at++ {
		for _, b := range []byte("aZ09 ;=:-/.\t\xff") {
			if b == signed[at] {
				continue
			}
			answers := impl.CheckSigns(changed(signed, at, b), []impl.SignKey{s.Key, {Domain: "Z.example", Selector: "s", A: s.Key.A, B: s.Key.B}})
			if len(answers) != 1 || answers[0].Result == impl.SignPass {
				t.Errorf("CheckSigns of %s with the byte %d at %d: %v", short(signed), b, at, answers)
			}
		}
	}
}

func TestPromise11Forms(t *testing.T) {
	d := dice{state: 1006}
	for range 400 {
		s := d.signer()
		message := d.toSign()
		head := impl.ReadHead(message)
		if head.Code != impl.OK || impl.Sign(message, s) == "" {
			continue
		}
		signed := impl.Sign(message, s)
		body := message[head.Body:]
		for range 20 {
			if body == "" {
				break
			}
			at, b := d.below(len(body)), byte(d.below(256))
			other := changed(body, at, b)
			one, two := impl.CanonBody(body, s.Body), impl.CanonBody(other, s.Body)
			want := int64(impl.SignPass)
			if one != two {
				want = impl.SignBody
			}
			// Where the summed texts differ in just one byte, it must be told; where they are the same, nothing may be.
			if one == two || differInOne(one, two) {
				answers := impl.CheckSigns(strings.TrimSuffix(signed, body)+other, []impl.SignKey{s.Key})
				if len(answers) == 0 || answers[0].Result != want {
					t.Errorf("CheckSigns of %s with the body %s: %v, want %d", short(signed), short(other), answers, want)
				}
			}
		}
	}
}

func differInOne(a, b string) bool {
	if len(a) != len(b) {
		return false
	}
	count := 0
	for at := range len(a) {
		if a[at] != b[at] {
			count++
		}
	}
	return count == 1
}

func TestCheckSignsOfAnyMessage(t *testing.T) {
	d := dice{state: 1007}
	seen := map[int64]int{}
	for range 6000 {
		message := d.toSign()
		if impl.ReadHead(message).Code != impl.OK {
			continue
		}
		var keys []impl.SignKey
		for range 1 + d.below(3) {
			s := d.signer()
			message = impl.Sign(message, s)
			if d.below(6) > 0 {
				keys = append(keys, s.Key)
			}
		}
		if d.below(4) > 0 {
			at := d.below(len(message))
			message = message[:at] + d.pick("", "a", " ", "\r\n", "0", "\r\nTo: x\r\n", "; ", "-") + message[at+d.below(2):]
		}
		want := slowCheck(message, keys)
		checkAnswers(t, message, keys, want...)
		for _, answer := range want {
			seen[answer.Result]++
		}
	}
	for result := range int64(5) {
		if seen[result] < 20 {
			t.Errorf("answers so far: %v", seen)
		}
	}
}

func checkAligned(t *testing.T, message string, answers []impl.SignAnswer, strict, want bool) {
	t.Helper()
	if got := impl.Aligned(message, answers, strict); got != want {
		t.Errorf("Aligned of %s, %s, %v: %v, want %v", short(message), short(shown(answers)), strict, got, want)
	}
}

// passed are answers that pass, of these domains.
func passed(domains ...string) (answers []impl.SignAnswer) {
	for _, domain := range domains {
		answers = append(answers, impl.SignAnswer{Domain: domain})
	}
	return answers
}

func TestAlignedSenders(t *testing.T) {
	for _, c := range []struct {
		head string
		want bool
	}{
		{"From: x@a.example", true}, {"from: x@a.example", true}, {"FROM : x@a.example", true}, {"From:x@a.example", true}, {"From: Ann <x@a.example>", true}, {"From: x@a.example (b@b)", true}, {"From: \"a, b\" <x@a.example>", true}, {"From:\r\n x\r\n @a.example", true}, {"From: ,x@a.example,,", true}, {"From: <@b:x@a.example>", true}, {"From: x@A.EXAMPLE", true}, {"From: x @ a . example", true}, {"From: \"x@b\"@a.example", true},
		// In a group, it is one box as well.
		{"From: team: x@a.example;", true}, {"From: none:;, x@a.example", true}, {"From: x@a.example, none:;", true}, {"From: team: x@a.example, y@a.example;", false}, {"From: team: x@a.example;, y@a.example", false}, {"From: none:;", false},
		// No box, or two.
		{"From:", false}, {"From: ,", false}, {"From: (x@a.example)", false}, {"From: x@a.example, y@a.example", false}, {"From: x@a.example, x@a.example", false}, {"From: x@a.example, y@b", false}, {"From: y@b, x@a.example", false},
		// A list with a code.
		{"From: x", false}, {"From: x@a.example y", false}, {"From: x@a.example,,\"", false}, {"From: <x@a.example", false}, {"From: x@a.example;", false}, {"From: x@a.example (", false}, {"From: @a.example", false}, {"From: " + xs(65) + "@a.example", false},
		// No From, or two.
		{"Sender: x@a.example", false}, {"Fro: x@a.example", false}, {"From: x@a.example\r\nFrom: x@a.example", false}, {"From: x@a.example\r\nfrom: y@b", false}, {"From:\r\nFrom: x@a.example", false}, {"From: x@a.example\r\nSender: y@b\r\nTo: z@c", true}, {"To: z@c\r\nFrom: x@a.example", true},
		// Another domain.
		{"From: x@b.example", false}, {"From: a.example@b", false}, {"From: a.example <x@b>", false}, {"From: x@[a.example]", false},
		// A head with a code.
		{" From: x@a.example", false}, {"From: x@a.example\r\ny", false}, {"From: x@a.example\ry", false},
	} {
		for _, strict := range []bool{true, false} {
			checkAligned(t, c.head+"\r\n\r\nhi", passed("a.example"), strict, c.want)
			checkAligned(t, c.head+"\r\n\r\nFrom: y@b\r\n", passed("b.c", "a.example"), strict, c.want)
			checkAligned(t, c.head, passed("a.example"), strict, c.want)
			checkAligned(t, c.head+"\r\n\r\nhi", nil, strict, false)
		}
	}
	checkAligned(t, "\r\nFrom: x@a.example\r\n", passed("a.example"), false, false)
	checkAligned(t, "", passed("a.example", ""), false, false)
}

func TestAlignedDomains(t *testing.T) {
	for _, c := range []struct {
		box, signed   string
		strict, loose bool
	}{
		{"a.example", "a.example", true, true}, {"A.Example", "a.eXAMPLE", true, true}, {"a", "A", true, true}, {"[1.2]", "[1.2]", true, true}, {"[A]", "[a]", true, true}, {"\xc3\xa9.b", "\xc3\xa9.B", true, true},
		// One above.
		{"a.example", "example", false, true}, {"b.a.example", "a.example", false, true}, {"c.b.a.example", "EXAMPLE", false, true}, {"C.B.a.example", "b.A.example", false, true},
		// One below, beside, or that only ends alike.
		{"a.example", "b.a.example", false, false}, {"a.example", "b.example", false, false}, {"ba.example", "a.example", false, false}, {"a.bexample", "example", false, false}, {"a.example", "xample", false, false}, {"a.example", ".example", false, false}, {"a.example", "example.", false, false}, {"a.example", "a", false, false}, {"a.example", "a.", false, false}, {"a.example", "", false, false}, {"a.example", ".", false, false}, {"a.example", "a.example.", false, false}, {"a.example", ".a.example", false, false}, {"a.example", " a.example", false, false}, {"example", "a.example", false, false}, {"a.b.example", "a.example", false, false},
		{"@[`{"[2:3] + ".x", "@.x", false, false}, {"k.x", "\xe2\x84\xaa.x", false, false}, {"\xc3\xa9.b", "\xc3\x89.b", false, false}, {"[1.2]", "2", false, false},
	} {
		message := "From: x@" + c.box + "\r\n\r\nhi"
		checkAligned(t, message, passed(c.signed), true, c.strict)
		checkAligned(t, message, passed(c.signed), false, c.loose)
		checkAligned(t, message, passed("other", c.signed, "none"), true, c.strict)
		checkAligned(t, message, passed("other", "none", c.signed), false, c.loose)
	}
}

func TestAlignedAnswers(t *testing.T) {
	message := "From: x@a.example\r\n\r\nhi"
	for _, result := range []int64{impl.SignNoKey, impl.SignIll, impl.SignBody, impl.SignHead, 5, -1, 1 << 32, math.MinInt64, math.MaxInt64} {
		for _, strict := range []bool{true, false} {
			fails := impl.SignAnswer{Domain: "a.example", Result: result}
			checkAligned(t, message, []impl.SignAnswer{fails}, strict, false)
			checkAligned(t, message, []impl.SignAnswer{fails, {Domain: "b"}, fails}, strict, false)
			checkAligned(t, message, []impl.SignAnswer{fails, {Domain: "a.example"}}, strict, true)
			checkAligned(t, message, []impl.SignAnswer{{Domain: "a.example"}, fails}, strict, true)
		}
	}
	for _, strict := range []bool{true, false} {
		many := slices.Repeat(passed("b"), 99)
		checkAligned(t, message, append(slices.Clone(many), passed("a.example")...), strict, true)
		checkAligned(t, message, append(passed("a.example"), many...), strict, true)
		checkAligned(t, message, append(slices.Clone(many), passed("b", "a.example")...), strict, false)
		checkAligned(t, message, append(passed("a.example", "a.example"), many...), strict, false)
		checkAligned(t, message, slices.Repeat(passed("a.example"), 100), strict, true)
		checkAligned(t, message, slices.Repeat(passed("a.example"), 101), strict, false)
		checkAligned(t, message, passed("a.example", xs(maxText)), strict, true)
		checkAligned(t, message, passed("a.example", xs(maxText+1)), strict, false)
		full := message + xs(maxText-len(message))
		checkAligned(t, full, passed("a.example"), strict, true)
		checkAligned(t, full+"x", passed("a.example"), strict, false)
		checkAligned(t, strings.Repeat("A:\r\n", maxFields-1)+message, passed("a.example"), strict, true)
		checkAligned(t, strings.Repeat("A:\r\n", maxFields)+message, passed("a.example"), strict, false)
	}
}

func TestAlignedOfSigned(t *testing.T) {
	s := signer("From")
	keys := []impl.SignKey{s.Key}
	for _, c := range []struct {
		message       string
		strict, loose bool
	}{
		{"From: x@a.example\r\n\r\nhi", true, true}, {"From: x@b.A.example\r\n\r\nhi", false, true}, {"From: x@b.example\r\n\r\nhi", false, false},
	} {
		signed := impl.Sign(c.message, s)
		answers := impl.CheckSigns(signed, keys)
		checkAligned(t, signed, answers, true, c.strict)
		checkAligned(t, signed, answers, false, c.loose)
		for _, text := range []string{signed + "x", "From: y@b\r\n" + signed} {
			checkAligned(t, text, impl.CheckSigns(text, keys), false, false)
		}
		checkAligned(t, signed, impl.CheckSigns(signed, nil), false, false)
	}
}

func TestSignsTakeWhateverComes(t *testing.T) {
	d := dice{state: 1008}
	pieces := []string{"Signature:", " d=", "a.example", "; s=", "s", "; c=", "simple", "/", "relaxed", "; h=", "From", ":", "; b=", "1", "-", "0", "; x=", "2147483647", "\r\n", " ", "=", ";", "\xff", "\x00", "From: x@a.example\r\n"}
	for range 4000 {
		text := "Signature:" + d.text(d.below(25), pieces)
		keys := []impl.SignKey{factors(int64(d.below(4)), int64(d.below(4)))}
		answers := impl.CheckSigns(text, keys)
		if want := slowCheck(text, keys); !slices.Equal(answers, want) {
			t.Errorf("CheckSigns of %s: %v, want %v", short(text), answers, want)
		}
		impl.Aligned(text, answers, false)
		s := impl.Signer{Key: keys[0], Names: []string{d.text(d.below(3), pieces)}, Head: int64(d.below(3)), Body: int64(d.below(3))}
		if signed := impl.Sign(text, s); signed != "" && (impl.SignerFault(s) != impl.OK || impl.ReadHead(text).Code != impl.OK) {
			t.Errorf("Sign of %s by %s: %s", short(text), shown(s), short(signed))
		}
		impl.CanonField(impl.Field{Name: d.text(2, pieces), Value: text}, int64(d.below(3)))
	}
}

func TestSignsAreNewMemory(t *testing.T) {
	message := "From: x@a.example\r\n\r\nhi\r\n"
	for _, form := range forms {
		wantOwnMemory(t, "CanonBody", message, impl.CanonBody(message, form))
		f := impl.Field{Name: "from", Value: "x"}
		wantOwnMemory(t, "CanonField", f.Name, impl.CanonField(f, form))
		wantOwnMemory(t, "CanonField", f.Value, impl.CanonField(f, form))
	}
	names := append(make([]string, 0, 8), "From", "To", "Keep")
	s := impl.Signer{Key: factors(2, 3), Names: names[:2]}
	signed := impl.Sign(message, s)
	wantOwnMemory(t, "Sign", message, signed)
	if !slices.Equal(names, []string{"From", "To", "Keep"}) {
		t.Errorf("Sign has changed the names: %v", names)
	}
	keys := append(make([]impl.SignKey, 0, 8), factors(5, 5), s.Key, factors(1, 1))
	before := slices.Clone(keys)
	for range 2 {
		answers := impl.CheckSigns(signed, keys[:2])
		wantOwnMemory(t, "CheckSigns", signed, answers[0].Domain)
		for _, key := range keys {
			wantOwnMemory(t, "CheckSigns", key.Domain, answers[0].Domain)
		}
		impl.Aligned(signed, answers[:0], true)
		answers[0] = impl.SignAnswer{Domain: "x", Result: 9}
	}
	if !slices.Equal(keys, before) {
		t.Errorf("CheckSigns has changed the keys: %v", keys)
	}
}
