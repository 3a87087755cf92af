package tests

import (
	"fmt"
	"slices"
	"strconv"
	"strings"
	"testing"

	"loop.example/g00013/impl"
)

const (
	maxParams  = 32
	maxValue   = 1000
	maxWord    = 60
	mostNames  = 2000
	mostAsked  = 200
	codedPiece = 60
)

func TestContentConstants(t *testing.T) {
	wantNumbers(t, "constants", "", []int64{impl.MaxParams, impl.MaxValue}, []int64{maxParams, maxValue})
}

// content has parameters of each two of the texts, a name and a value.
func content(kind, sub string, texts ...string) impl.Content {
	c := impl.Content{Type: kind, Sub: sub}
	for at := 0; at < len(texts); at += 2 {
		c.Params = append(c.Params, impl.Param{Name: texts[at], Value: texts[at+1]})
	}
	return c
}

// numbered has so many parameters with names that differ.
func numbered(count int) impl.Content {
	c := content("a", "b")
	for at := range count {
		c.Params = append(c.Params, impl.Param{Name: "n" + strconv.Itoa(at), Value: "v" + strconv.Itoa(at)})
	}
	return c
}

func sameContent(a, b impl.Content) bool {
	return a.Type == b.Type && a.Sub == b.Sub && slices.Equal(a.Params, b.Params)
}

func checkResult(t *testing.T, value string, want impl.ContentResult) {
	t.Helper()
	got := impl.ReadContent(value)
	if got.Code != want.Code || got.At != want.At || !sameContent(got.Content, want.Content) {
		t.Errorf("ReadContent of %s: %s, want %s", short(value), shown(got), shown(want))
	}
}

// checkContent wants a content to be read, and one without faults.
func checkContent(t *testing.T, value string, want impl.Content) {
	t.Helper()
	checkResult(t, value, impl.ContentResult{Content: want})
	if got := impl.ContentFault(want); got != impl.OK {
		t.Errorf("ContentFault of %s: %d", shown(want), got)
	}
}

func checkIll(t *testing.T, value string, at int64) {
	t.Helper()
	checkResult(t, value, impl.ContentResult{Code: impl.ErrSyntax, At: at})
}

// checkParams wants these parameters, each two of the texts a name and a value, of what stands behind a type.
func checkParams(t *testing.T, behind string, texts ...string) {
	t.Helper()
	checkContent(t, "a/b"+behind, content("a", "b", texts...))
}

func word60(size int) string { return strings.Repeat("a-z0+9._bc", 7)[:size] }

func TestContentFaults(t *testing.T) {
	for _, c := range []impl.Content{
		content("a", ""), content("a", "b"), content("text", "plain", "charset", "utf-8"), content("-", "+"), content(".", "."), content("0", "_"), content("...", ".."),
		content(word60(maxWord), word60(maxWord), word60(maxWord), "v"), content("a", "b", "x", ""), content("a", "b", "x", "y", "y", "y", "xy", "y"),
		content("a", "b", "x", xs(maxValue)), content("a", "b", "x", strings.Repeat("é", maxValue/2)), content("a", "b", "x", strings.Repeat("\x00", maxValue)),
		content("a", "b", "x", "\r\n\t\x7f\"\\"), content("a", "b", "x", "\u0080\uffff\U0010ffff\ud7ff\ue000"), content("a", "b", ".", ".", "..", "."),
		{Type: "a", Params: []impl.Param{}}, numbered(maxParams),
	} {
		if got := impl.ContentFault(c); got != impl.OK {
			t.Errorf("ContentFault of %s: %d", shown(c), got)
		}
		if impl.WriteContent(c) == "" {
			t.Errorf("WriteContent of %s is empty", shown(c))
		}
	}
	for _, c := range illContents() {
		if got := impl.ContentFault(c); got != impl.ErrForm {
			t.Errorf("ContentFault of %s: %d", shown(c), got)
		}
		wantText(t, "WriteContent", shown(c), impl.WriteContent(c), "")
	}
}

func illContents() []impl.Content {
	full := numbered(maxParams - 1)
	last := numbered(maxParams)
	last.Params[maxParams-1].Name = "n0"
	return []impl.Content{
		{}, content("", "b"), content("", "", "x", "y"), content("A", ""), content("a", "B"), content("a b", ""), content("a/b", ""), content("a", "b/c"), content("a", " "), content("a;", ""), content("é", "b"), content("a", "\x00"),
		content(word60(maxWord+1), ""), content("a", word60(maxWord+1)), content("a", "b", word60(maxWord+1), "v"), content(xs(maxText+1), ""), content("a", xs(maxText+1)), content("a", "b", xs(maxText+1), "v"),
		content("a", "b", "", "v"), content("a", "b", "X", "v"), content("a", "b", "x*", "v"), content("a", "b", "x=", "v"), content("a", "b", "x y", "v"), content("a", "b", "x'", "v"), content("a", "b", "x", "y", "z*", "v"),
		content("a", "b", "x", "v", "x", "v"), content("a", "b", "x", "v", "y", "v", "x", "w"), content("a", "b", "y", "v", "x", "v", "x", ""), last,
		content("a", "b", "x", xs(maxValue+1)), content("a", "b", "x", strings.Repeat("é", maxValue/2)+"y"), content("a", "b", "x", xs(maxText+1)), content("a", "b", "x", "", "y", xs(maxValue+1)),
		content("a", "b", "x", "\x80"), content("a", "b", "x", "\xff"), content("a", "b", "x", "\xc3"), content("a", "b", "x", "é\xa9"), content("a", "b", "x", "\xc0\x80"), content("a", "b", "x", "\xe0\x9f\xbf"),
		content("a", "b", "x", "\xed\xa0\x80"), content("a", "b", "x", "\xf4\x90\x80\x80"), content("a", "b", "x", "y", "z", "a\xfe"), content("a", "b", "x", strings.Repeat("\x00", maxValue-1)+"\xc3"),
		numbered(maxParams + 1), numbered(mostAsked + 1),
		{Type: "a", Sub: "b", Params: append(full.Params, impl.Param{Name: "x", Value: "\xff"})},
	}
}

func TestWordBytes(t *testing.T) {
	for b := range 256 {
		text := string([]byte{byte(b)})
		right := b < 128 && strings.Contains("abcdefghijklmnopqrstuvwxyz0123456789-+._", text)
		for _, form := range []string{text, "x" + text, text + "x"} {
			for _, c := range []impl.Content{content(form, ""), content("a", form), content("a", "b", form, "v")} {
				if got := impl.ContentFault(c); got == impl.OK != right {
					t.Errorf("ContentFault of %#v: %d", c, got)
				}
			}
		}
	}
}

func TestReadTypes(t *testing.T) {
	for _, c := range []struct {
		value string
		want  impl.Content
	}{
		{"a", content("a", "")},
		{"a/b", content("a", "b")},
		{"text/plain", content("text", "plain")},
		{"TEXT/Plain", content("text", "plain")},
		{"AZaz09-+._/AZaz09-+._", content("azaz09-+._", "azaz09-+._")},
		{" \r\n\ttext/plain\r\n ", content("text", "plain")},
		{"(c)text/plain(d)", content("text", "plain")},
		{"attachment", content("attachment", "")},
		{"application/vnd.ms-excel", content("application", "vnd.ms-excel")},
		{"image/svg+xml", content("image", "svg+xml")},
		{".", content(".", "")},
		{"..", content("..", "")},
		{"./.", content(".", ".")},
		{".a./.b.", content(".a.", ".b.")},
		{"a..b/c...d", content("a..b", "c...d")},
		{word60(1), content(word60(1), "")},
		{word60(maxWord) + "/" + word60(maxWord), content(word60(maxWord), word60(maxWord))},
		{strings.ToUpper(word60(maxWord)), content(word60(maxWord), "")},
	} {
		checkContent(t, c.value, c.want)
		checkContent(t, c.value+";", c.want)
		checkContent(t, c.value+" (c) ; (d) ", c.want)
		with := c.want
		with.Params = []impl.Param{{Name: "x", Value: "y"}}
		checkContent(t, c.value+";x=y", with)
		checkContent(t, c.value+" ; x=y ; ", with)
	}
}

func TestReadContentIllTypes(t *testing.T) {
	for _, c := range []struct {
		value string
		at    int64
	}{
		{"", 0}, {" ", 1}, {"\r\n ", 3}, {"(c)", 3}, {" (c) ", 5},
		{"text/", 0}, {"/plain", 0}, {"/", 0}, {"//", 0}, {"a//b", 0}, {"a/b/", 0}, {"a/b/c", 0}, {"  a/b/c", 2}, {"(c)a/", 3},
		{"a*", 0}, {"a=b", 0}, {"a/b=c", 0}, {"a'", 0}, {"é", 0}, {"a/é", 0}, {"\xff", 0}, {"a!/b", 0}, {"a%/b", 0}, {"a/b?", 0}, {"`/a", 0}, {"a/~", 0},
		{word60(maxWord + 1), 0}, {"a/" + word60(maxWord+1), 0}, {" " + word60(maxWord+1) + "/b", 1},
		{";", 0}, {"; x=y", 0}, {" ;a/b", 1}, {"\"a\"", 0}, {"\"a\"/b", 0}, {"[a]/b", 0}, {"<a/b>", 0}, {"@", 0}, {":", 0}, {",", 0}, {")", 0}, {"]", 0}, {"\\", 0},
		// One atom, with nothing between.
		{"a /b", 2}, {"a/ b", 0}, {"a / b", 2}, {"a(c)/b", 4}, {"a/(c)b", 0}, {"a\r\n /b", 4}, {"a .b", 2}, {"a. b", 3}, {"a/b. c", 5}, {"a/b .c", 4}, {"a/b(c).d", 6}, {"a/b\r\n .c", 6}, {". .", 2}, {"a/b .", 4},
		{"a b", 2}, {"a/b c", 4}, {"a/b c/d", 4}, {"a/b\"c\"", 3}, {"a/b \"c\"", 4}, {"a/b[c]", 3}, {"a/b,c/d", 3}, {"a/b:c", 3}, {"a/b<", 3}, {"a/b@c", 3}, {"a/b)", 3}, {"a/b x=y", 4}, {"a/b(c)x=y", 6}, {"a/b x=y;", 4},
	} {
		checkIll(t, c.value, c.at)
		// What is behind an ill type changes nothing.
		if c.value != "" && c.at < int64(len(c.value)) {
			checkIll(t, c.value+"; x=y; z", c.at)
		}
	}
}

func TestReadParams(t *testing.T) {
	checkParams(t, "; x=y", "x", "y")
	checkParams(t, ";x=y", "x", "y")
	checkParams(t, ";x=y;", "x", "y")
	checkParams(t, " ; x=y ; ", "x", "y")
	checkParams(t, "(c);(c)x=y(c);(c)", "x", "y")
	checkParams(t, "\r\n ;\r\n\tx=y\r\n ;\r\n ", "x", "y")
	checkParams(t, ";x=1;y=2;z=3", "x", "1", "y", "2", "z", "3")
	checkParams(t, ";z=1;y=2;x=3;", "z", "1", "y", "2", "x", "3")
	checkParams(t, ";X=Y;yY=ZzÉ", "x", "Y", "yy", "ZzÉ")
	checkParams(t, ";AZaz09-+._=v", "azaz09-+._", "v")
	checkParams(t, ";"+word60(1)+"=v", word60(1), "v")
	checkParams(t, ";"+word60(maxWord)+"=v", word60(maxWord), "v")
	checkParams(t, ";"+strings.ToUpper(word60(maxWord))+"=v", word60(maxWord), "v")
	// The first of a name counts, whatever its case.
	checkParams(t, ";x=1;x=2", "x", "1")
	checkParams(t, ";x=1;y=2;X=3;y=4", "x", "1", "y", "2")
	checkParams(t, ";x=\"\";x=1", "x", "")
	// Values with what an atom may have.
	checkParams(t, ";x=y=z", "x", "y=z")
	checkParams(t, ";x==", "x", "=")
	checkParams(t, ";x==y", "x", "=y")
	checkParams(t, ";x=!#$%&'*+-/=?^_{|}~`", "x", "!#$%&'*+-/=?^_{|}~`")
	checkParams(t, ";x=a/b", "x", "a/b")
	checkParams(t, ";x=%41'b'c", "x", "%41'b'c")
	checkParams(t, ";x=é;y=\u20ac", "x", "é", "y", "\u20ac")
	// The value in the next token.
	checkParams(t, ";x=\"y\"", "x", "y")
	checkParams(t, ";x= \"y\"", "x", "y")
	checkParams(t, ";x=\r\n \"y\"", "x", "y")
	checkParams(t, ";x=(c)\"y\"(d);", "x", "y")
	checkParams(t, ";x=\"\"", "x", "")
	checkParams(t, ";x=\"\";y=\"\";", "x", "", "y", "")
	checkParams(t, ";x=\"a;b=c \\\"\\\\ (d)\"", "x", "a;b=c \"\\ (d)")
	checkParams(t, ";x=\"a\r\n b\"", "x", "a b")
	checkParams(t, ";x=\"\x00\x01\x7f\"", "x", "\x00\x01\x7f")
	checkParams(t, ";x= y", "x", "y")
	checkParams(t, ";x=(c)y", "x", "y")
	checkParams(t, ";x=\r\n y;z= w", "x", "y", "z", "w")
	checkParams(t, ";x= y=z", "x", "y=z")
	checkParams(t, ";x= =", "x", "=")
	checkParams(t, ";x= x=;y=z", "x", "x=", "y", "z")
	checkParams(t, ";x= y*0=z", "x", "y*0=z")
}

func TestReadContentPoints(t *testing.T) {
	checkParams(t, ";x=r.txt", "x", "r.txt")
	checkParams(t, ";x=.", "x", ".")
	checkParams(t, ";x=...", "x", "...")
	checkParams(t, ";x=.a", "x", ".a")
	checkParams(t, ";x=a.", "x", "a.")
	checkParams(t, ";x= .", "x", ".")
	checkParams(t, ";x= ..", "x", "..")
	checkParams(t, ";x= .a.b.", "x", ".a.b.")
	checkParams(t, ";x= a.b", "x", "a.b")
	checkParams(t, ";x=(c).", "x", ".")
	checkParams(t, ";x=a.b=c.d", "x", "a.b=c.d")
	checkParams(t, ";.=x", ".", "x")
	checkParams(t, ";..=..", "..", "..")
	checkParams(t, ";.x.y.=z", ".x.y.", "z")
	checkParams(t, ";x.Y=z;x.y=w;x=v", "x.y", "z", "x", "v")
	checkParams(t, ";x.=\"y\"", "x.", "y")
	checkParams(t, ";x.*=utf-8''a.b", "x.", "a.b")
	checkParams(t, ";x.y*0=a.;x.y*1=.b", "x.y", "a..b")
	checkParams(t, ";x=é.é", "x", "é.é")
	// With something between they are tokens of their own.
	for _, c := range []struct {
		behind string
		at     int64
	}{
		{";x=a .b", 8}, {";x=a. b", 9}, {";x=a(c).b", 10}, {";x=a.(c)b", 11}, {";x=a\r\n .b", 10}, {";x=a .", 8}, {";x= a .", 9}, {";x= a. b", 10}, {";x=\"a\".b", 9}, {";x=\"a\".", 9}, {";x=\"a\" .", 10}, {";x=a.\"b\"", 8}, {";x. =y", 4}, {";x .=y", 4}, {";. =y", 4}, {";x(c).=y", 4}, {";.(c)x=y", 4}, {";.", 4}, {";..", 4}, {";.x", 4},
		{";x=[a].b", 6}, {";x=. .", 8},
	} {
		checkIll(t, "a/b"+c.behind, c.at)
	}
}

// TestReadContentNothingBehind has `;` with nothing of their own behind them: at the end, and ahead of another one.
func TestReadContentNothingBehind(t *testing.T) {
	for _, none := range []string{";", "; ", ";(c)", ";;", "; ;", ";;;", "; (c) ; (d) ;", ";\r\n ;\t;", strings.Repeat(";", 50)} {
		checkContent(t, "a/b"+none, content("a", "b"))
		checkContent(t, "a"+none, content("a", ""))
		checkParams(t, none+";x=y", "x", "y")
		checkParams(t, ";x=y"+none, "x", "y")
		checkParams(t, ";x=\"y\""+none+";z= w"+none, "x", "y", "z", "w")
		checkParams(t, none+";x*1=2"+none+";x*0=1", "x", "12")
	}
	checkContent(t, "a/b"+strings.Repeat(";", maxTokens-1), content("a", "b"))
	checkResult(t, "a/b"+strings.Repeat(";", maxTokens), impl.ContentResult{Code: impl.ErrCount, At: int64(len("a/b") + maxTokens - 1)})
	// They are no names.
	names := strings.Repeat(";x=y", mostNames)
	checkParams(t, names+";;;", "x", "y")
	checkParams(t, ";;;"+names, "x", "y")
}

func TestReadContentIllParams(t *testing.T) {
	for _, c := range []struct {
		behind string
		at     int64
	}{
		// No atom with a name.
		{"; x", 5}, {";x", 4}, {";x;", 4}, {";x;y=z", 4}, {";x =y", 4}, {";x = y", 4}, {"; =x", 5}, {";=", 4}, {";= ", 4}, {";= x", 4}, {";=x=y", 4}, {";==", 4}, {";=\"x\"", 4}, {";=;", 4},
		{";;x", 5}, {"; ; x", 7}, {";;=", 5}, {";(c);x", 8}, {";;;\"x\"", 6}, {";\"x\"=y", 4}, {";\"x\"", 4}, {";\"x=y\"", 4}, {";[x]=y", 4}, {";[x=y]", 4}, {";<", 4}, {";,", 4}, {";:", 4}, {";@x=y", 4}, {";)", 4}, {";]", 4}, {";\\", 4}, {"; (c) x", 9},
		// No value.
		{";x=", 6}, {";x= ", 7}, {";x=(c)", 9}, {";x= (c) ", 11}, {";x=;", 6}, {";x=;;", 6}, {";x=;;y=z", 6}, {";;x=;", 7}, {";;x=", 7}, {";x= ;", 7}, {";x=;y=z", 6}, {";x=(c);", 9}, {";x=[y]", 6}, {";x= [y]", 7}, {";x=<y>", 6}, {";x=,", 6}, {";x=:", 6}, {";x=@", 6}, {";x=)", 6}, {";x=]", 6}, {";x=\\y", 6},
		// Something behind it.
		{";x=y z", 8}, {";x=y z=w", 8}, {";x=y \"z\"", 8}, {";x=y\"z\"", 7}, {";x=\"y\"z", 9}, {";x=\"y\"z=w", 9}, {";x=\"y\" \"z\"", 10}, {";x=\"y\"\"z\"", 9}, {";x=y[z]", 7}, {";x=y,z=w", 7}, {";x=y:", 7}, {";x=y@z", 7}, {";x=y<", 7}, {";x=y)", 7}, {";x= y z", 9}, {";x=y(c)z", 10}, {";x=(c)y z", 11}, {";x=y,", 7},
		// Names of none of the four kinds.
		{";x*01=2", 4}, {";x*y=2", 4}, {";x*00=1", 4}, {";x*09=1", 4}, {";x*100=1", 4}, {";x*100*=1", 4}, {";x*000=1", 4}, {";x*00*=1", 4}, {";x*-1=1", 4}, {";x*+1=1", 4}, {";x*1+=1", 4}, {";x*1.=1", 4}, {";x*.1=1", 4}, {";x*1a=1", 4}, {";x*a1=1", 4}, {";x**=1", 4}, {";x***=1", 4}, {";x*0**=1", 4}, {";x**0=1", 4}, {";x*0*1=1", 4}, {";x*0*1*=1", 4}, {";x*1x*=1", 4},
		{";*=1", 4}, {";*0=1", 4}, {";*0*=1", 4}, {";**=1", 4}, {";x!=1", 4}, {";x'=1", 4}, {";x%=1", 4}, {";x/y=1", 4}, {";é=1", 4}, {";x\xff=1", 4}, {";x*é=1", 4}, {";x?*=1", 4}, {";x?*0=1", 4}, {";x*1?=1", 4},
		{";" + word60(maxWord+1) + "=1", 4}, {";" + word60(maxWord+1) + "*=1", 4}, {";" + word60(maxWord+1) + "*0=1", 4}, {";" + word60(maxWord+1) + "*0*=1", 4},
		{";x*y=\"2\"", 4}, {";x*y= 2", 4}, {"; X*Y=1", 5}, {";(c)x*01=1", 7},
	} {
		checkIll(t, "a/b"+c.behind, c.at)
		// Nothing that is right ahead of it changes what is told, nor does one that is not told.
		ahead := "a/b; p=q; r*1=s; t=\"\xff\" ; u*=\"\""
		checkIll(t, ahead+c.behind, c.at+int64(len(ahead)-len("a/b")))
	}
}

// TestReadContentTellsTheFirst has several faults: parameter by parameter, and in one of them as the document tells them.
func TestReadContentTellsTheFirst(t *testing.T) {
	for _, c := range []struct {
		value string
		at    int64
	}{
		{"a/b; x*y=1; z", 5}, {"a/b; z; x*y=1", 5}, {"a/b; x*01=1 y", 5}, {"a/b; x=; y", 7}, {"a/b c; x", 4}, {"/; x", 0},
		{"a/b; x*y=", 9}, {"a/b; x*y=;", 9}, {"a/b; x*y= [z]", 10}, {"a/b; !=", 7}, {"a/b; x; y*z=", 5},
		// The tokens come ahead of all.
		{"a/b c \"", 6}, {"/ \x00", 2}, {"; (", 2}, {"a/b; x*y=1; \x7f", 12}, {"a/b; x=y\r\n", 8},
	} {
		checkIll(t, c.value, c.at)
	}
	many := strings.Repeat(";x=y", mostNames+1)
	checkIll(t, "a/b"+many+";z", int64(len("a/b"+many)+1))
	checkIll(t, "a/b"+many+";x*00=y", int64(len("a/b"+many)+1))
	checkIll(t, "/"+many, 0)
	checkIll(t, "a/b"+many+"\x00", int64(len("a/b"+many)))
}

func TestReadContentTokenFaults(t *testing.T) {
	for _, c := range []struct {
		value string
		at    int64
	}{
		{"\"", 0}, {"a/b; x=\"y", 7}, {"a/b; (x=y", 5}, {"a/b; x=[y", 7}, {"a/b\x00", 3}, {"a/b; x=\x01", 7}, {"a/b;\r\nx=y", 4}, {"a/b; x=\"y\r\nz\"", 7}, {nested(maxNest+1, "c") + "a/b", 0}, {"a/b\r\n", 3}, {"a/b; x=y\n", 8},
	} {
		checkIll(t, c.value, c.at)
		list := impl.Tokens(c.value)
		wantNumbers(t, "Tokens", c.value, []int64{list.Code, list.At}, []int64{impl.ErrSyntax, c.at})
	}
	checkContent(t, nested(maxNest, "c")+"a/b", content("a", "b"))
	comments := strings.Repeat("(c)", maxTokens-1)
	checkContent(t, comments+"a/b", content("a", "b"))
	checkResult(t, comments+"a/b;", impl.ContentResult{Code: impl.ErrCount, At: int64(len(comments + "a/b"))})
	checkResult(t, comments+"a/b x \"", impl.ContentResult{Code: impl.ErrSyntax, At: int64(len(comments + "a/b x "))})
	checkResult(t, strings.Repeat(";", maxTokens+1), impl.ContentResult{Code: impl.ErrCount, At: maxTokens})
	checkIll(t, strings.Repeat(";", maxTokens), 0)
}

func TestReadPieces(t *testing.T) {
	checkParams(t, ";x*0=1;x*1=2", "x", "12")
	checkParams(t, ";x*0=1", "x", "1")
	checkParams(t, ";X*0=1;x*1=2;X*2=3", "x", "123")
	// In another order than their numbers.
	checkParams(t, ";x*1=2;x*0=1", "x", "12")
	checkParams(t, ";x*3=4;x*1=2;x*2=3;x*0=1", "x", "1234")
	// Of a number the first one counts, whatever its kind.
	checkParams(t, ";x*0=1;x*0=2;x*1=3;x*1=4", "x", "13")
	checkParams(t, ";x*0=%41;x*0*=''%42", "x", "%41")
	checkParams(t, ";x*0*=''%42;x*0=%41", "x", "B")
	checkParams(t, ";x*0=a;x*1=%41;x*1*=%42", "x", "a%41")
	checkParams(t, ";x*0=a;x*1*=%42;x*1=%41", "x", "aB")
	// As far as there are any.
	checkParams(t, ";x*0=1;x*2=3", "x", "1")
	checkParams(t, ";x*0=1;x*1=2;x*3=4;x*4=5", "x", "12")
	checkParams(t, ";x*1=2")
	checkParams(t, ";x*1=2;x*2=3;y=z;x*10=1", "y", "z")
	checkParams(t, ";x*9=1;x*1*=2;x*99=3")
	// Words in the order in which they come first, whatever comes first.
	checkParams(t, ";x*1=b;y=1;x*0=a;z=2", "x", "ab", "y", "1", "z", "2")
	checkParams(t, ";y*0=a;x*0=b;y*1=c;x*1=d", "y", "ac", "x", "bd")
	checkParams(t, ";x*1=b;y=1;x=c", "x", "c", "y", "1")
	checkParams(t, ";x*5=b;y=1;x*=c", "x", "c", "y", "1")
	// Values of all kinds.
	checkParams(t, ";x*0=\"a b\";x*1= c;x*2=\"\";x*3=(c)\"; \"", "x", "a bc; ")
	checkParams(t, ";x*0=\"\"", "x", "")
	checkParams(t, ";x*0=%41''b;x*1='%42", "x", "%41''b'%42")
	checkParams(t, ";x*0=\"\xc3\";x*1=\"\xa9\"", "x", "é")
	checkParams(t, ";x*0=a.b;x*1=.c;x*2=.", "x", "a.b.c.")
	// Two words of which one begins as the other one does.
	checkParams(t, ";x1*0=a;x*10=b;x*0=c;x1*1=d;x10=e", "x1", "ad", "x", "c", "x10", "e")
	// One and two digits, all of them.
	var forth, back, want string
	for number := range 100 {
		forth += fmt.Sprintf(";x*%d=<%d>", number, number)
		back = fmt.Sprintf(";x*%d*=\"<%d>\"", number, number) + back
		want += fmt.Sprintf("<%d>", number)
	}
	forth = strings.NewReplacer("<", "\"<", ">", ">\"").Replace(forth)
	checkParams(t, forth, "x", want)
	checkParams(t, back, "x", want)
}

// TestReadKindsInAllOrders has a plain name, a coded one and pieces of one word: what counts hangs on no order of theirs.
func TestReadKindsInAllOrders(t *testing.T) {
	kinds := []string{";x=p", ";x*=utf-8''c", ";x*0=1", ";x*1*=%32"}
	for chosen := range 1 << len(kinds) {
		var some []string
		for at, kind := range kinds {
			if chosen>>at&1 == 1 {
				some = append(some, kind)
			}
		}
		var want []string
		switch {
		case chosen&1 > 0:
			want = []string{"x", "p"}
		case chosen&2 > 0:
			want = []string{"x", "c"}
		case chosen&12 == 12:
			want = []string{"x", "12"}
		case chosen&4 > 0:
			want = []string{"x", "1"}
		}
		for _, order := range orders(some) {
			checkParams(t, strings.Join(order, ""), want...)
			checkParams(t, strings.Join(order, "")+strings.Join(some, ";y=z"), append(slices.Clone(want), yIfMany(some)...)...)
		}
	}
	checkParams(t, ";x*=utf-8''1;x*=utf-8''2", "x", "1")
	checkParams(t, ";x*=utf-8''1;x*0=2;x*=3;x=4;x=5", "x", "4")
	// One that cannot be told is not made good by another one.
	checkParams(t, ";x=\xff;x*=utf-8''1;x*0=2")
	checkParams(t, ";x*=utf-8''%FF;x*0=2")
	checkParams(t, ";x="+xs(maxValue+1)+";x=1")
	checkParams(t, ";x*1=1;x=\xff")
}

func yIfMany(some []string) []string {
	if len(some) < 2 {
		return nil
	}
	return []string{"y", "z"}
}

// orders are all orders of some texts.
func orders(texts []string) [][]string {
	if len(texts) == 0 {
		return [][]string{nil}
	}
	var all [][]string
	for at, first := range texts {
		for _, rest := range orders(slices.Delete(slices.Clone(texts), at, at+1)) {
			all = append(all, append([]string{first}, rest...))
		}
	}
	return all
}

func TestReadCoded(t *testing.T) {
	checkParams(t, ";x*=utf-8''%C3%A9", "x", "é")
	checkParams(t, ";x*=utf-8''%c3%a9", "x", "é")
	checkParams(t, ";x*=UTF-8'en'a%20b", "x", "a b")
	checkParams(t, ";x*=utf-8'en-us'abc", "x", "abc")
	checkParams(t, ";x*=utf-8''", "x", "")
	checkParams(t, ";x*=''", "x", "")
	checkParams(t, ";x*=\"\"", "x", "")
	checkParams(t, ";x*=\"utf-8''%C3%A9 b\"", "x", "é b")
	checkParams(t, ";x*= utf-8''a", "x", "a")
	checkParams(t, ";x*=utf-8''a=b", "x", "a=b")
	checkParams(t, ";x*=utf-8''a.b*c", "x", "a.b*c")
	checkParams(t, ";x*=utf-8''%27%25%3D", "x", "'%=")
	checkParams(t, ";x*=utf-8'''a''", "x", "'a''")
	// The signs that part are looked for as they stand.
	checkParams(t, ";x*=utf-8%27%27a", "x", "utf-8''a")
	checkParams(t, ";x*=utf-8'%27'a", "x", "a")
	checkParams(t, ";x*=%6Catin1''%41", "x", "A")
	checkParams(t, ";x*=%6Catin1''%E9")
	// Sets of chapter 3, by all their names.
	checkParams(t, ";x*=latin1''%E9;y*=ISO-8859-1''%A4;z*=latin9''%A4;w*=iso-8859-15'de'%E9%BD", "x", "é", "y", "\u00a4", "z", "\u20ac", "w", "é\u0153")
	checkParams(t, ";x*=us-ascii''a%7F;y*=ascii''%00;z*=utf8''%F4%8F%BF%BF;w*=utf-16be''%20%AC%D8%3D%DE%00", "x", "a\x7f", "y", "\x00", "z", "\U0010ffff", "w", "\u20ac\U0001f600")
	checkParams(t, ";x*=latin1''é", "x", "Ã©")
	checkParams(t, ";x*=utf-16be''abcd", "x", "\u6162\u6364")
	// None of them, or bytes that are not good in theirs: as they are.
	checkParams(t, ";x*=''%C3%A9;y*=koi8-r''%C3%A9;z*=ascii''%C3%A9;w*=utf-16be''abc;v*=utf-16be''%D8%00", "x", "é", "y", "é", "z", "é", "w", "abc")
	checkParams(t, ";x*=utf-16be''%D8%00;y*=utf-16be''a;z*=utf-16be''%DC%00ab", "y", "a")
	checkParams(t, ";x*=''%E9;y*=koi8-r''%E9;z*=utf-8''%E9;w*=ascii''%E9;v*=utf-8''%ED%A0%80")
	checkParams(t, ";x*=latin1%20''%C3%A9;y*=\" latin1''%C3%A9\"", "x", "é", "y", "é")
	// Fewer than two of the signs that part: nothing is left out, and no charset named.
	checkParams(t, ";x*=abc;y*=%41;z*=a'b;w*=utf-8'%C3%A9;v*=%C3%A9;u*=';t*='a", "x", "abc", "y", "A", "z", "a'b", "w", "utf-8'é", "v", "é", "u", "'", "t", "'a")
	checkParams(t, ";x*=latin1'%C3%A9;y*=latin1'%E9;z*=utf-8'%E9;w*=%E9", "x", "latin1'é")
	// `%` without two digits of base 16 is itself.
	checkParams(t, ";x*=''%;y*=''%4;z*=''a%;w*=''%4G;v*=''%G4;u*=''%%41;t*=''%4%41;s*=''%-1;r*=''%+1;q*=''%_1;p*=''%1_;o*=''%0x41",
		"x", "%", "y", "%4", "z", "a%", "w", "%4G", "v", "%G4", "u", "%A", "t", "%4A", "s", "%-1", "r", "%+1", "q", "%_1", "p", "%1_", "o", "%0x41")
	checkParams(t, ";x*=\"''% 1%1 \"", "x", "% 1%1 ")
	checkParams(t, ";x*=utf-8''%2541", "x", "%41")
	// A plain name has nothing coded.
	checkParams(t, ";x=utf-8''%C3%A9;y=%41", "x", "utf-8''%C3%A9", "y", "%41")
}

func TestReadCodedDigits(t *testing.T) {
	for high := range 256 {
		for low := range 256 {
			text := "%" + string([]byte{byte(high), byte(low)})
			if strings.ContainsAny(text, "\r\n\"\\") {
				continue
			}
			var want string
			if b, err := strconv.ParseUint(text[1:], 16, 8); err == nil && !strings.ContainsAny(text, "+-_") {
				want = string(rune(b))
			} else {
				for at := range len(text) {
					want += string(rune(text[at]))
				}
			}
			checkParams(t, ";x*=\"latin1''"+text+"\"", "x", want)
		}
	}
}

func TestReadCodedPieces(t *testing.T) {
	checkParams(t, ";x*0*=utf-8'en'%C3;x*1*=%A9", "x", "é")
	checkParams(t, ";x*1*=%A9;x*0*=utf-8'en'%C3", "x", "é")
	checkParams(t, ";x*0*=latin1''%E9;x*1*=%E8;x*2*=a", "x", "éèa")
	checkParams(t, ";x*0*=utf-16be''%20;x*1*=%AC", "x", "\u20ac")
	// Coded and plain pieces side by side.
	checkParams(t, ";x*0*=utf-8''%41;x*1=%42;x*2*=%43;x*3=\"d e\"", "x", "A%42Cd e")
	checkParams(t, ";x*0*=latin1''%E9;x*1=é;x*2=\"\xff\"", "x", "éÃ©ÿ")
	checkParams(t, ";x*0*=utf-16be''%00;x*1=A;x*2=\"\x01B\"", "x", "A\u0142")
	// Without a coded piece 0 there is no charset, and nothing is left out.
	checkParams(t, ";x*0=a;x*1*=latin1''%C3%A9", "x", "alatin1''é")
	checkParams(t, ";x*0=latin1''a;x*1*=%C3%A9", "x", "latin1''aé")
	checkParams(t, ";x*0=a;x*1*=%E9")
	// Each piece has its signs for itself.
	checkParams(t, ";x*0*=utf-8''a;x*1*=utf-8''b;x*2*='c'", "x", "autf-8''b'c'")
	checkParams(t, ";x*0*=utf-8';x*1*='%41", "x", "utf-8''A")
	checkParams(t, ";x*0*=latin1';x*1*='%E9")
	checkParams(t, ";x*0*=''%4;x*1*=1%;x*2*=41", "x", "%41%41")
	checkParams(t, ";x*0*=utf-8''%4;x*1=1", "x", "%41")
	// All together are good, or none is.
	checkParams(t, ";x*0*=latin1''%E9;y*0*=ascii''a;y*1*=%C3%A9", "x", "é", "y", "aé")
	checkParams(t, ";x*0*=utf-8''a;x*1*=%C3;y*0*=utf-16be''ab;y*1*=c", "y", "abc")
	checkParams(t, ";x*0*=utf-8''%C3;x*2*=%A9")
	checkParams(t, ";x*0*=utf-8''%C3;x*1*=\"\";x*2*=%A9", "x", "é")
}

func TestReadValueLimits(t *testing.T) {
	most, more := xs(maxValue), xs(maxValue+1)
	checkParams(t, ";x="+most+";y="+more+";z=1", "x", most, "z", "1")
	checkParams(t, ";x=\""+most+"\";y=\""+more+"\"", "x", most)
	checkParams(t, ";x*="+most+";y*="+more, "x", most)
	checkParams(t, ";x*=utf-8''"+most+";y*=utf-8''"+more, "x", most)
	checkParams(t, ";x*0="+most[1:]+";x*1=x;y*0="+most+";y*1=x", "x", most)
	// What counts is what is told: coded, that has fewer bytes, or more.
	checkParams(t, ";x*=utf-8''"+strings.Repeat("%78", maxValue)+";y*=utf-8''"+strings.Repeat("%78", maxValue+1), "x", most)
	checkParams(t, ";x*=latin1''"+strings.Repeat("%E9", maxValue/2)+";y*=latin1''"+strings.Repeat("%E9", maxValue/2)+"a", "x", strings.Repeat("é", maxValue/2))
	checkParams(t, ";x*=utf-16be''"+strings.Repeat("%00x", maxValue)+";y*=utf-16be''"+strings.Repeat("%00x", maxValue+1), "x", most)
	checkParams(t, ";x=\""+strings.Repeat("\\\"", maxValue)+"\";y=\""+strings.Repeat("\\\"", maxValue+1)+"\"", "x", strings.Repeat("\"", maxValue))
	// No good utf-8.
	checkParams(t, ";x=\xff;y=\xc3;z=\"\xed\xa0\x80\";w=\xc0\x80;v=é;u=\xf4\x90\x80\x80", "v", "é")
}

func TestReadContentCounts(t *testing.T) {
	tooMany := impl.ContentResult{Code: impl.ErrCount}
	list := func(from, to int, form string) (text string) {
		for at := from; at < to; at++ {
			text += fmt.Sprintf(form, at, at)
		}
		return text
	}
	most := numbered(maxParams)
	checkContent(t, "a/b"+list(0, maxParams, ";n%d=v%d"), most)
	checkResult(t, "a/b"+list(0, maxParams+1, ";n%d=v%d"), tooMany)
	checkContent(t, "a/b"+list(0, maxParams, ";n%d*=v%d"), most)
	checkResult(t, "a/b"+list(0, maxParams+1, ";n%d*0=v%d"), tooMany)
	// Those that are not told take no room.
	full := "a/b" + list(0, maxParams, ";n%d=v%d")
	checkContent(t, full+list(0, 100, ";m%d*1=%d"), most)
	checkContent(t, "a/b"+list(0, 100, ";m%d=\xff%d")+full[3:], most)
	checkContent(t, full+list(0, 20, ";m%d="+xs(maxValue+1)+"%d"), most)
	checkContent(t, full+list(0, maxParams, ";n%d*=w%d;n1*0=x"), most)
	checkResult(t, full+list(0, 100, ";m%d*1=%d")+";m*0=x", tooMany)
	// As many names as there may be, and one more.
	for form, want := range map[string]impl.Content{
		";x=y":             content("a", "b", "x", "y"),
		";X*=''a":          content("a", "b", "x", "a"),
		";x*1=y":           content("a", "b"),
		";x*99=a":          content("a", "b"),
		";x=\xff":          content("a", "b"),
		";x*0*=utf-8''%41": content("a", "b", "x", "A"),
		";x.y.z=.":         content("a", "b", "x.y.z", "."),
	} {
		checkContent(t, "a/b"+strings.Repeat(form, mostNames), want)
		checkContent(t, "a/b"+strings.Repeat(form, mostNames)+";", want)
		checkResult(t, "a/b"+strings.Repeat(form, mostNames+1), tooMany)
	}
	// Of three tokens each there is room for fewer.
	for _, form := range []string{";x= y", ";x=\"y\""} {
		text := "a/b" + strings.Repeat(form, (maxTokens-1)/3)
		checkContent(t, text, content("a", "b", "x", "y"))
		checkResult(t, text+form, impl.ContentResult{Code: impl.ErrCount, At: int64(len(text + ";"))})
	}
	checkContent(t, "a/b"+list(0, mostNames, ";m%d*1=%d"), content("a", "b"))
	checkResult(t, "a/b"+list(0, mostNames+1, ";m%d*1=%d"), tooMany)
}

func TestReadContentSizes(t *testing.T) {
	for _, head := range []string{"a/b", "a/b; x=y", "a/b; x=y; "} {
		want := impl.ReadContent(head).Content
		long := head + strings.Repeat(" ", maxText-len(head))
		checkContent(t, long, want)
		checkResult(t, long+" ", impl.ContentResult{Code: impl.ErrSize})
	}
	checkContent(t, "a/b; x=1; y="+xs(maxText-len("a/b; x=1; y=")), content("a", "b", "x", "1"))
	checkContent(t, "a/b; x=1; y*=utf-16be''"+xs(maxText-len("a/b; x=1; y*=utf-16be''")), content("a", "b", "x", "1"))
	checkResult(t, "a/b; x=1; y="+xs(maxText-len("a/b; x=1; y=")+1), impl.ContentResult{Code: impl.ErrSize})
	checkIll(t, xs(maxText), 0)
	checkIll(t, strings.Repeat(" ", maxText), maxText)
	checkResult(t, xs(maxText+1), impl.ContentResult{Code: impl.ErrSize})
	checkResult(t, strings.Repeat("\x00", maxText+1), impl.ContentResult{Code: impl.ErrSize})
	// Points in a row are one atom, however many they are.
	checkIll(t, strings.Repeat(".", maxText), 0)
	checkContent(t, "a; x="+strings.Repeat(".", maxText-len("a; x=")), content("a", ""))
	checkContent(t, "a; x=1; y="+strings.Repeat("z.", 40000), content("a", "", "x", "1"))
}

func TestWriteContentTexts(t *testing.T) {
	for _, c := range []struct {
		c    impl.Content
		want string
	}{
		{content("a", ""), "a"},
		{content("a", "b"), "a/b"},
		{content("attachment", "", "filename", "x"), "attachment; filename=x"},
		{content("text", "plain", "charset", "utf-8", "format", "flowed"), "text/plain; charset=utf-8; format=flowed"},
		{content("a", "b", "z", "1", "y", "2", "x", "1"), "a/b; z=1; y=2; x=1"},
		// One atom.
		{content("a", "b", "x", "AZaz09!#$&+-/?^_{|}~`"), "a/b; x=AZaz09!#$&+-/?^_{|}~`"},
		{content("a", "b", "x", xs(maxValue)), "a/b; x=" + xs(maxValue)},
		// Quoted.
		{content("a", "b", "x", ""), `a/b; x=""`},
		{content("a", "b", "x", " "), `a/b; x=" "`},
		{content("a", "b", "x", "p q"), `a/b; x="p q"`},
		{content("a", "b", "x", "r.txt"), `a/b; x="r.txt"`},
		{content("a", "b", "x", "."), `a/b; x="."`},
		{content("a", "b", "x", "a*b"), `a/b; x="a*b"`},
		{content("a", "b", "x", "it's"), `a/b; x="it's"`},
		{content("a", "b", "x", "100%"), `a/b; x="100%"`},
		{content("a", "b", "x", "a=b"), `a/b; x="a=b"`},
		{content("a", "b", "x", "="), `a/b; x="="`},
		{content("a", "b", "x", `a"b\c`), `a/b; x="a\"b\\c"`},
		{content("a", "b", "x", "utf-8''%41"), `a/b; x="utf-8''%41"`},
		{content("a", "b", "x", "()<>@,;:[]"), `a/b; x="()<>@,;:[]"`},
		{content("a", "b", "x", strings.Repeat("\"", maxValue)), `a/b; x="` + strings.Repeat(`\"`, maxValue) + `"`},
		// Coded.
		{content("a", "b", "x", "é"), "a/b; x*=utf-8''%C3%A9"},
		{content("a", "b", "x", "\t"), "a/b; x*=utf-8''%09"},
		{content("a", "b", "x", "\x7f"), "a/b; x*=utf-8''%7F"},
		{content("a", "b", "x", "\x1f"), "a/b; x*=utf-8''%1F"},
		{content("a", "b", "x", "\x00"), "a/b; x*=utf-8''%00"},
		{content("a", "b", "x", "é.AZaz09-._"), "a/b; x*=utf-8''%C3%A9.AZaz09-._"},
		{content("a", "b", "x", "é !\"#$%&'()*+,/:;<=>?@[\\]^`{"), "a/b; x*0*=utf-8''%C3%A9%20%21%22%23%24%25%26%27%28%29%2A%2B%2C%2F%3A%3B%3C%3D; x*1*=%3E%3F%40%5B%5C%5D%5E%60%7B"},
		{content("a", "b", "x", "\u20ac |}~"), "a/b; x*=utf-8''%E2%82%AC%20%7C%7D%7E"},
		{content("a", "", "x", "1", "y", "é", "z", ""), `a; x=1; y*=utf-8''%C3%A9; z=""`},
	} {
		wantText(t, "WriteContent", shown(c.c), impl.WriteContent(c.c), c.want)
		checkContent(t, c.want, c.c)
	}
}

func TestWriteContentBytes(t *testing.T) {
	for b := range 128 {
		text := string([]byte{byte(b)})
		var want string
		switch {
		case strings.Contains("abcdefghijklmnopqrstuvwxyzABCDEFGHIJKLMNOPQRSTUVWXYZ0123456789!#$&+-/?^_{|}~`", text):
			want = "a; x=" + text
		case text == "\"" || text == "\\":
			want = "a; x=\"\\" + text + "\""
		case b >= 32 && b <= 126:
			want = "a; x=\"" + text + "\""
		default:
			want = fmt.Sprintf("a; x*=utf-8''%%%02X", b)
		}
		wantText(t, "WriteContent", text, impl.WriteContent(content("a", "", "x", text)), want)
		checkContent(t, want, content("a", "", "x", text))
		// Beside a space nothing is one atom.
		want = "a; x*=utf-8''%20" + fmt.Sprintf("%%%02X", b)
		if b >= 32 && b <= 126 {
			want = "a; x=" + impl.Phrase(" "+text)
		}
		wantText(t, "WriteContent", " "+text, impl.WriteContent(content("a", "", "x", " "+text)), want)
		signs := fmt.Sprintf("%%%02X", b)
		if strings.Contains("abcdefghijklmnopqrstuvwxyzABCDEFGHIJKLMNOPQRSTUVWXYZ0123456789-._", text) {
			signs = text
		}
		wantText(t, "WriteContent", text, impl.WriteContent(content("a", "", "x", "é"+text)), "a; x*=utf-8''%C3%A9"+signs)
	}
}

func TestWriteContentPieces(t *testing.T) {
	e := "%C3%A9"
	for _, c := range []struct {
		value string
		want  string
	}{
		// Of 60 bytes, and of more.
		{strings.Repeat("é", 10), "; x*=utf-8''" + strings.Repeat(e, 10)},
		{strings.Repeat("é", 10) + "a", "; x*0*=utf-8''" + strings.Repeat(e, 10) + "; x*1*=a"},
		{strings.Repeat("é", 11), "; x*0*=utf-8''" + strings.Repeat(e, 10) + "; x*1*=" + e},
		{"é" + xs(54), "; x*=utf-8''" + e + xs(54)},
		{"é" + xs(55), "; x*0*=utf-8''" + e + xs(54) + "; x*1*=x"},
		{xs(54) + "é", "; x*=utf-8''" + xs(54) + e},
		// A byte's three signs are not parted, but a character's bytes are.
		{xs(55) + "é", "; x*0*=utf-8''" + xs(55) + "%C3; x*1*=%A9"},
		{xs(56) + "é", "; x*0*=utf-8''" + xs(56) + "%C3; x*1*=%A9"},
		{xs(57) + "é", "; x*0*=utf-8''" + xs(57) + "%C3; x*1*=%A9"},
		{xs(58) + "é", "; x*0*=utf-8''" + xs(58) + "; x*1*=" + e},
		{xs(59) + "é", "; x*0*=utf-8''" + xs(59) + "; x*1*=" + e},
		{xs(60) + "é", "; x*0*=utf-8''" + xs(60) + "; x*1*=" + e},
		{xs(61) + "é", "; x*0*=utf-8''" + xs(60) + "; x*1*=x" + e},
		{xs(58) + "\n" + xs(57), "; x*0*=utf-8''" + xs(58) + "; x*1*=%0A" + xs(57)},
		{xs(58) + "\n" + xs(58), "; x*0*=utf-8''" + xs(58) + "; x*1*=%0A" + xs(57) + "; x*2*=x"},
		{xs(120) + "\n", "; x*0*=utf-8''" + xs(60) + "; x*1*=" + xs(60) + "; x*2*=%0A"},
		{strings.Repeat(".", 119) + "\t", "; x*0*=utf-8''" + strings.Repeat(".", 60) + "; x*1*=" + strings.Repeat(".", 59) + "; x*2*=%09"},
	} {
		given := content("a", "", "x", c.value)
		wantText(t, "WriteContent", shown(given), impl.WriteContent(given), "a"+c.want)
		checkContent(t, "a"+c.want, given)
	}
	// The most pieces that there can be.
	want := "a"
	for number := range maxValue / 20 {
		want += "; x*" + strconv.Itoa(number) + "*="
		if number == 0 {
			want += "utf-8''"
		}
		want += strings.Repeat("%00", 20)
	}
	zeros := content("a", "", "x", strings.Repeat("\x00", maxValue))
	wantText(t, "WriteContent", "zeros", impl.WriteContent(zeros), want)
	checkContent(t, want, zeros)
}

// wide has values that take so much room when they are written that few of them have it.
func wide(count int, last string) impl.Content {
	c := numbered(count)
	for at := range c.Params {
		c.Params[at].Name = word60(maxWord - 2)
		c.Params[at].Name += string([]byte{byte('a' + at%26), byte('a' + at/26)})
		c.Params[at].Value = strings.Repeat("\x00", maxValue)
	}
	c.Params[count-1].Value = last
	return c
}

func TestWriteContentSizes(t *testing.T) {
	// Each of the wide ones takes 50 pieces, each of these 60 signs, a name and what is around them.
	count := 0
	for room := maxText - len("a/b"); room > 0; count++ {
		room -= len("utf-8''") + 10*(len("; *0*=")+maxWord+codedPiece) + 40*(len("; *10*=")+maxWord+codedPiece)
	}
	c := wide(count, "")
	empty := impl.WriteContent(c)
	if count > maxParams || empty == "" || len(empty) > maxText {
		t.Fatalf("%d parameters, %d bytes", count, len(empty))
	}
	checkContent(t, empty, c)
	if got := impl.WriteContent(wide(count, strings.Repeat("\x00", maxValue))); got != "" {
		t.Errorf("WriteContent of %d wide values has %d bytes", count, len(got))
	}
	if got := impl.WriteContent(wide(maxParams, "")); got != "" {
		t.Errorf("WriteContent of %d wide values has %d bytes", maxParams, len(got))
	}
	// Just as much as there is room for, and one byte more: in its last values, which are one byte longer each.
	c = wide(count+4, "")
	for at := count - 1; at < count+4; at++ {
		c.Params[at].Value = xs(1)
	}
	missing := maxText - len(impl.WriteContent(c))
	for at := count - 1; at < count+4; at++ {
		more := min(missing, maxValue-1)
		c.Params[at].Value = xs(1 + more)
		missing -= more
	}
	if missing > 0 {
		t.Fatalf("%d bytes are missing", missing)
	}
	full := impl.WriteContent(c)
	if len(full) != maxText {
		t.Fatalf("WriteContent of a full one has %d bytes", len(full))
	}
	checkContent(t, full, c)
	c.Type = "aa"
	wantText(t, "WriteContent", "one byte more", impl.WriteContent(c), "")
}

func TestParamsByName(t *testing.T) {
	c := content("a", "b", "x", "1", "y", "2", "x", "3", "X", "4", "", "5", "empty", "", "ill*", "\xff", "x", "6")
	for name, want := range map[string]impl.Bytes{
		"x":     {Good: true, Data: "1"},
		"y":     {Good: true, Data: "2"},
		"X":     {Good: true, Data: "4"},
		"":      {Good: true, Data: "5"},
		"empty": {Good: true},
		"ill*":  {Good: true, Data: "\xff"},
		"Y":     {}, "xy": {}, "z": {}, " x": {}, "EMPTY": {}, "1": {}, "a": {},
	} {
		if got := impl.ParamOf(c, name); got != want {
			t.Errorf("ParamOf %q: %+v, want %+v", name, got, want)
		}
	}
	if got := impl.ParamOf(impl.Content{}, ""); got != (impl.Bytes{}) {
		t.Errorf("ParamOf of nothing: %+v", got)
	}
	if got := impl.ParamOf(impl.ReadContent("A/B; Name=V").Content, "name"); got != (impl.Bytes{Good: true, Data: "V"}) {
		t.Errorf("ParamOf of what was read: %+v", got)
	}
}

func TestParamOfLimits(t *testing.T) {
	for count, good := range map[int]bool{1: true, maxParams + 1: true, mostAsked: true, mostAsked + 1: false, 3 * mostAsked: false} {
		c := numbered(count)
		for _, at := range []int{0, count - 1} {
			want := impl.Bytes{}
			if good {
				want = impl.Bytes{Good: true, Data: c.Params[at].Value}
			}
			if got := impl.ParamOf(c, c.Params[at].Name); got != want {
				t.Errorf("ParamOf %d of %d: %+v", at, count, got)
			}
		}
	}
	for size, good := range map[int]bool{maxText: true, maxText + 1: false} {
		long := xs(size)
		for name, c := range map[string]impl.Content{
			"type":        content(long, "", "x", "1"),
			"sub type":    content("a", long, "x", "1"),
			"name":        content("a", "b", "x", "1", long, "2"),
			"name ahead":  content("a", "b", long, "2", "x", "1"),
			"value":       content("a", "b", "x", "1", "y", long),
			"value ahead": content("a", "b", "y", long, "x", "1"),
		} {
			if got := impl.ParamOf(c, "x"); got.Good != good || got.Good != (got.Data == "1") {
				t.Errorf("ParamOf beside a %s of %d bytes: %+v", name, size, got)
			}
		}
		if got := impl.ParamOf(content("a", "b", long, "1"), long); got.Good != good {
			t.Errorf("ParamOf by a name of %d bytes: %+v", size, got)
		}
		if got := impl.ParamOf(content("a", "b", "x", "1"), long); got.Good {
			t.Errorf("ParamOf by a name of %d bytes: %+v", size, got)
		}
		if got := impl.ParamOf(content("a", "b", "x", long), "x"); got.Good != good || got.Good && got.Data != long {
			t.Errorf("ParamOf a value of %d bytes: %v %d", size, got.Good, len(got.Data))
		}
	}
}

var wordSigns = []string{"a", "b", "z", "0", "9", "-", "+", ".", "_"}

var valueSigns = [][]string{
	{"a", "Z", "0", "-", "+", "_", "/", "!", "~", "`"},
	{"a", " ", "\"", "\\", "=", "*", "'", "%", ".", ";", "(", ")", "%41", "[", ","},
	{"a", "é", "\u20ac", "\U0001f600", ".", "-", "_", "%", "'", "=", "*", "\x00", "\r\n", "\n", "\x7f", " ", "\"", "B"},
	{"."},
	{"\x00", "\u00ff"},
}

func (d *dice) value() string {
	signs := valueSigns[d.below(len(valueSigns))]
	count := d.below(12)
	switch d.below(8) {
	case 0:
		count = d.below(100)
	case 1:
		count = maxValue
	}
	text := d.text(count, signs)
	// No character is cut in two.
	for len(text) > maxValue {
		text = strings.TrimSuffix(text, string([]rune(text)[len([]rune(text))-1:]))
	}
	return text
}

func (d *dice) content(count int) impl.Content {
	c := content(d.upTo(maxWord, wordSigns), "")
	if d.below(4) > 0 {
		c.Sub = d.upTo(maxWord, wordSigns)
	}
	for range count {
		param := impl.Param{Name: d.upTo(maxWord, wordSigns), Value: d.value()}
		if impl.ParamOf(c, param.Name).Good {
			continue
		}
		c.Params = append(c.Params, param)
	}
	return c
}

func TestPromise6(t *testing.T) {
	d := &dice{state: 60}
	lost := 0
	for at := range 6000 {
		count := d.below(5)
		if at%40 == 0 {
			count = maxParams
		}
		c := d.content(count)
		written := impl.WriteContent(c)
		if written == "" {
			lost++
			continue
		}
		checkContent(t, written, c)
	}
	if lost > 100 {
		t.Errorf("%d contents were not written", lost)
	}
}

// TestPromise6Edges has contents with as many parameters, bytes, pieces, names and points as there may be.
func TestPromise6Edges(t *testing.T) {
	for _, value := range []string{
		strings.Repeat(".", maxValue), strings.Repeat(".", maxValue-1) + "\n", strings.Repeat("a.", maxValue/2-1) + "é", strings.Repeat("\x00", maxValue), strings.Repeat("a\x00", maxValue/2), strings.Repeat("ab\x00", maxValue/3), strings.Repeat("\"", maxValue), "", "'", "''", "%41", "*", "utf-8''",
	} {
		for _, size := range []int{1, 2, 30, maxWord - 2} {
			c := numbered(maxParams)
			for at := range c.Params {
				c.Params[at].Name = strings.Repeat(".", size-1) + string("abcdefghijklmnopqrstuvwxyz012345"[at])
				c.Params[at].Value = value
			}
			c.Type, c.Sub = strings.Repeat(".", maxWord), strings.Repeat(".", maxWord)
			if written := impl.WriteContent(c); written != "" {
				checkContent(t, written, c)
				continue
			}
			// Not all have room, but one of them has.
			c.Params = c.Params[:1]
			checkContent(t, impl.WriteContent(c), c)
		}
	}
}

// TestReadContentTakesWhateverComes holds what is read, or told, against what must be so of any value.
func TestReadContentTakesWhateverComes(t *testing.T) {
	d := &dice{state: 61}
	pieces := []string{";", ";", "; ", "x=", "y=", "x*=", "x*0=", "x*0*=", "x*1=", "x*1*=", "X=", "=", "*", "a", "1", ".", "%41", "%", "'", "utf-8''", "latin1''%E9", "\xff", "\"q\"", "\"", "(c)", " ", "[l]", "/", "é", "\x00", "\r\n "}
	read := 0
	for at := range 200000 {
		value := d.text(d.below(14), pieces)
		if at%2 == 0 {
			value = "a/b;" + value
		}
		got := impl.ReadContent(value)
		if got.Code != impl.OK {
			if got.Code != impl.ErrSyntax || got.At < 0 || got.At > int64(len(value)) || !sameContent(got.Content, impl.Content{}) {
				t.Errorf("ReadContent of %q: %s", value, shown(got))
			}
			continue
		}
		read++
		if impl.ContentFault(got.Content) != impl.OK {
			t.Errorf("ReadContent of %q: %s", value, shown(got))
		}
		checkContent(t, impl.WriteContent(got.Content), got.Content)
	}
	if read < 1000 {
		t.Errorf("only %d contents were read", read)
	}
}

func TestContentsAreNewMemory(t *testing.T) {
	value := strings.Clone("type/sub; plain=value; coded*=utf-8''value; pieces*0=value; pieces*1=value; quoted=\"value\"")
	read := impl.ReadContent(value)
	wantOwnMemory(t, "ReadContent", value, read.Content.Type, read.Content.Sub)
	for _, p := range read.Content.Params {
		wantOwnMemory(t, "ReadContent", value, p.Name, p.Value)
	}
	kind, found := strings.Clone("type"), strings.Clone("value")
	wantOwnMemory(t, "WriteContent", kind, impl.WriteContent(impl.Content{Type: kind}))
	room := []impl.Param{{Name: "x", Value: found}, {Name: "y", Value: found}, {Name: "z", Value: found}}
	c := impl.Content{Type: kind, Sub: kind, Params: room[:2]}
	wantOwnMemory(t, "ParamOf", found, impl.ParamOf(c, "y").Data)
	impl.ContentFault(c)
	impl.WriteContent(c)
	if !slices.Equal(room, []impl.Param{{Name: "x", Value: "value"}, {Name: "y", Value: "value"}, {Name: "z", Value: "value"}}) {
		t.Errorf("an argument was changed: %s", shown(room))
	}
}
