package tests

import (
	"fmt"
	"math"
	"regexp"
	"runtime"
	"slices"
	"strconv"
	"strings"
	"testing"
	"time"

	"loop.example/g00013/impl"
)

const (
	maxCommand       = 512
	maxRcpt          = 100
	maxTransferUsers = 100
	maxClientMails   = 100
)

func TestTransferConstants(t *testing.T) {
	wantNumbers(t, "limits", "", []int64{impl.MaxCommand, impl.MaxRcpt}, []int64{maxCommand, maxRcpt})
}

func userKey(selector string, a, b int64) impl.SignKey {
	return impl.SignKey{Domain: "a.example", Selector: selector, A: a, B: b}
}

// plainTransfer is a server with two users, which relays for nobody else.
func plainTransfer() impl.TransferConfig {
	return impl.TransferConfig{
		Local:    "a",
		MaxBytes: 200,
		Users:    []impl.SignKey{userKey("u", 2, 3), userKey("v2", 1000003, 77)},
		Seed:     7,
	}
}

func changedTransfer(change func(c *impl.TransferConfig)) impl.TransferConfig {
	c := plainTransfer()
	change(&c)
	return c
}

func relaying() impl.TransferConfig {
	return changedTransfer(func(c *impl.TransferConfig) { c.Relay = true })
}

func slowTransferFault(c impl.TransferConfig) int64 {
	right := slowDomain(c.Local) && slowLow(c.Local) == c.Local && c.MaxBytes > 0 && c.MaxBytes <= maxText
	right = right && len(c.Users) <= maxTransferUsers && within(c.Seed, maxNumber)
	for _, key := range c.Users {
		right = right && impl.SignerFault(impl.Signer{Key: key, Names: some("From")}) == impl.OK
	}
	return keyCode(right)
}

func checkTransferFault(t *testing.T, what string, right bool, change func(c *impl.TransferConfig)) {
	t.Helper()
	c := changedTransfer(change)
	if got := impl.TransferFault(c); got != keyCode(right) {
		t.Errorf("TransferFault with %s: %d, want %d", what, got, keyCode(right))
	}
	if slow := slowTransferFault(c); slow != keyCode(right) {
		t.Errorf("the test's own fault with %s: %d, want %d", what, slow, keyCode(right))
	}
	run := impl.RunTransfer(c, some("QUIT\r\n"))
	want := impl.TransferRun{Code: impl.ErrForm}
	if right {
		want = impl.TransferRun{Told: "220 " + c.Local + "\r\n221 bye\r\n", Ended: true}
	}
	if !sameRuns(run, want) {
		t.Errorf("RunTransfer with %s: %s", what, shown(run))
	}
}

func TestTransferFault(t *testing.T) {
	checkTransferFault(t, "nothing", true, func(c *impl.TransferConfig) {})
	checkTransferFault(t, "Relay", true, func(c *impl.TransferConfig) { c.Relay = true })
	checkTransferFault(t, "nothing at all", false, func(c *impl.TransferConfig) { *c = impl.TransferConfig{} })
	for _, domain := range some("a", "b.c", "1.2.3.4", "é", "\xff", "-", xs(maxDomain), labels(maxDomain)) {
		checkTransferFault(t, "Local "+domain, true, func(c *impl.TransferConfig) { c.Local = domain })
	}
	for _, domain := range append(some("A", "a.B", "Za", "aZ", "[", "[1"), illDomains...) {
		checkTransferFault(t, "Local "+short(domain), false, func(c *impl.TransferConfig) { c.Local = domain })
	}
	for _, size := range []int64{1, 2, maxText - 1, maxText} {
		checkTransferFault(t, fmt.Sprint("MaxBytes ", size), true, func(c *impl.TransferConfig) { c.MaxBytes = size })
	}
	for _, size := range []int64{0, -1, maxText + 1, math.MinInt64, math.MaxInt64, 1<<32 + 1} {
		checkTransferFault(t, fmt.Sprint("MaxBytes ", size), false, func(c *impl.TransferConfig) { c.MaxBytes = size })
	}
	for _, seed := range []int64{0, 1, maxNumber - 1, maxNumber} {
		checkTransferFault(t, fmt.Sprint("Seed ", seed), true, func(c *impl.TransferConfig) { c.Seed = seed })
	}
	for _, seed := range []int64{-1, maxNumber + 1, 2 * maxNumber, math.MinInt64, math.MaxInt64} {
		checkTransferFault(t, fmt.Sprint("Seed ", seed), false, func(c *impl.TransferConfig) { c.Seed = seed })
	}
}

// checkUser has a user alone, and behind others.
func checkUser(t *testing.T, right bool, key impl.SignKey) {
	t.Helper()
	what := short(shown(key))
	checkTransferFault(t, "the user "+what, right, func(c *impl.TransferConfig) { c.Users = []impl.SignKey{key} })
	checkTransferFault(t, "last the user "+what, right, func(c *impl.TransferConfig) { c.Users = append(c.Users, key) })
}

func TestTransferFaultUsers(t *testing.T) {
	checkTransferFault(t, "no user", true, func(c *impl.TransferConfig) { c.Users = nil })
	for count, right := range map[int]bool{1: true, maxTransferUsers - 1: true, maxTransferUsers: true, maxTransferUsers + 1: false, 3 * maxTransferUsers: false} {
		checkTransferFault(t, fmt.Sprint(count, " users"), right, func(c *impl.TransferConfig) {
			c.Users = slices.Repeat([]impl.SignKey{userKey("u", 2, 3)}, count)
		})
	}
	for _, selector := range some("u", "0", "z9", strings.Repeat("a", maxSelector)) {
		checkUser(t, true, userKey(selector, 2, 3))
	}
	for _, selector := range some("", "U", "uV", "u v", "u-", "u.", "é", "\x00", "`", "{", "/", ":", strings.Repeat("a", maxSelector+1), strings.Repeat("a", maxText), strings.Repeat("a", maxText+1)) {
		checkUser(t, false, userKey(selector, 2, 3))
	}
	for _, domain := range some("a", "A.B", "1.2", xs(maxDomain), labels(maxDomain)) {
		checkUser(t, true, impl.SignKey{Domain: domain, Selector: "u", A: 2, B: 3})
	}
	for _, domain := range append(some("é", "\x80", "a;b", "a=b", "[", "[a"), illDomains...) {
		checkUser(t, false, impl.SignKey{Domain: domain, Selector: "u", A: 2, B: 3})
	}
	for _, number := range []int64{1, 2, signPrime - 2, signPrime - 1} {
		checkUser(t, true, userKey("u", number, 3))
		checkUser(t, true, userKey("u", 2, number))
	}
	for _, number := range wrongFactors {
		checkUser(t, false, userKey("u", number, 3))
		checkUser(t, false, userKey("u", 2, number))
	}
}

func checkChallenge(t *testing.T, k impl.SignKey, seed int64, want string) {
	t.Helper()
	if got := impl.ChallengeAnswer(k, seed); got != want {
		t.Errorf("ChallengeAnswer of %s and %d: %q, want %q", short(shown(k)), seed, got, want)
	}
}

func TestChallengeAnswer(t *testing.T) {
	k := factors(2, 3)
	checkChallenge(t, k, 7, "58-59")
	checkChallenge(t, k, 0, "51-52")
	checkChallenge(t, k, 10, "153-208")
	checkChallenge(t, factors(1, 1), 12, "102-102")
	// What a key is for and how it is called counts for nothing.
	checkChallenge(t, impl.SignKey{A: 2, B: 3}, 7, "58-59")
	checkChallenge(t, impl.SignKey{Domain: "[x]", Selector: "É", A: 2, B: 3}, 7, "58-59")
	checkChallenge(t, impl.SignKey{Domain: xs(maxText), Selector: xs(maxText), A: 2, B: 3}, 7, "58-59")
	checkChallenge(t, impl.SignKey{Domain: xs(maxText + 1), A: 2, B: 3}, 7, "")
	checkChallenge(t, impl.SignKey{Selector: xs(maxText + 1), A: 2, B: 3}, 7, "")
	checkChallenge(t, impl.SignKey{}, 7, "")
	for _, seed := range []int64{0, 1, 9, 10, maxNumber - 1, maxNumber, maxNumber + 1, 2*maxNumber - 1, 2 * maxNumber} {
		for _, k := range []impl.SignKey{k, factors(1, signPrime-1), factors(signPrime-1, 1), factors(signPrime-1, signPrime-1), factors(1000003, 77)} {
			checkChallenge(t, k, seed, slowSums(k, strconv.FormatInt(seed, 10)))
		}
	}
	for _, seed := range []int64{-1, -7, 2*maxNumber + 1, 4 * maxNumber, math.MinInt64, math.MaxInt64} {
		checkChallenge(t, k, seed, "")
	}
	for _, number := range wrongFactors {
		checkChallenge(t, factors(number, 3), 7, "")
		checkChallenge(t, factors(2, number), 7, "")
	}
	d := &dice{state: 1700}
	for range 500 {
		k, seed := factors(int64(1+d.below(signPrime-1)), int64(1+d.below(signPrime-1))), int64(d.below(1<<31))*int64(1+d.below(4))
		checkChallenge(t, k, seed, slowSums(k, strconv.FormatInt(seed, 10)))
	}
}

func sameAccepted(a, b impl.Accepted) bool {
	return a.From == b.From && slices.Equal(a.To, b.To) && a.User == b.User && a.Message == b.Message
}

func sameRuns(a, b impl.TransferRun) bool {
	return a.Code == b.Code && a.Told == b.Told && slices.EqualFunc(a.Accepted, b.Accepted, sameAccepted) && a.Ended == b.Ended
}

// slowTransfer has all bytes at once, and takes them off one by one.
type slowTransfer struct {
	config     impl.TransferConfig
	bytes      string
	run        impl.TransferRun
	name, user string
	// How many challenges were told.
	asked  int64
	answer string
	from   []string
	to     []string
	state  string
}

const (
	inLines  = "lines"
	inAnswer = "answer"
	inText   = "text"
)

func slowRunTransfer(c impl.TransferConfig, chunks ...string) impl.TransferRun {
	if slowTransferFault(c) != impl.OK {
		return impl.TransferRun{Code: impl.ErrForm}
	}
	if len(chunks) > maxOps {
		return impl.TransferRun{Code: impl.ErrCount}
	}
	for _, chunk := range chunks {
		if len(chunk) > maxText {
			return impl.TransferRun{Code: impl.ErrSize}
		}
	}
	s := slowTransfer{config: c, bytes: strings.Join(chunks, ""), state: inLines}
	s.say("220 " + c.Local)
	for !s.run.Ended {
		lines, whole := s.next()
		switch {
		case !whole && len(s.bytes) < maxText:
			return s.run
		case !whole:
			s.say("421 too long")
			s.run.Ended = true
		case s.state == inText:
			s.mail(lines)
		default:
			s.line(lines[0])
		}
	}
	return s.run
}

func (s *slowTransfer) say(replies ...string) {
	for _, reply := range replies {
		s.run.Told += reply + "\r\n"
	}
}

// next are the lines that come up to the next end, if it stands in the bytes that count.
func (s *slowTransfer) next() (lines []string, whole bool) {
	begin := 0
	for at := 1; at < min(len(s.bytes), maxText); at++ {
		if s.bytes[at-1] != 13 || s.bytes[at] != 10 {
			continue
		}
		line := s.bytes[begin : at-1]
		begin = at + 1
		lines = append(lines, line)
		if s.state != inText || line == "." {
			s.bytes = s.bytes[begin:]
			return lines, true
		}
	}
	return nil, false
}

func (s *slowTransfer) mail(lines []string) {
	for at, line := range lines {
		if line != "" && line[0] == '.' {
			lines[at] = line[1:]
		}
	}
	// What was the point is empty now.
	text := strings.Join(lines, "\r\n")
	switch {
	case len(text) > int(s.config.MaxBytes):
		s.say("552 too large")
	case impl.ReadHead(text).Code != impl.OK:
		s.say("554 no message")
	default:
		s.say("250 ok")
		s.run.Accepted = append(s.run.Accepted, impl.Accepted{From: s.from[0], To: s.to, User: s.user, Message: text})
	}
	s.from, s.to, s.state = nil, nil, inLines
}

func (s *slowTransfer) line(line string) {
	state := s.state
	s.state = inLines
	switch {
	case len(line) > maxCommand:
		s.say("500 too long")
	case state == inAnswer && line == "*":
		s.answer = ""
		s.say("501 given up")
	case state == inAnswer:
		at := slices.IndexFunc(s.config.Users, func(k impl.SignKey) bool { return k.Selector == s.answer })
		key := s.config.Users[at]
		if line == slowSums(key, strconv.FormatInt(s.config.Seed+s.asked-1, 10)) {
			s.user = key.Selector
			s.say("235 welcome")
		} else {
			s.say("535 no")
		}
	default:
		s.command(strings.SplitN(line, " ", 2))
	}
}

func (s *slowTransfer) command(words []string) {
	rest := ""
	if len(words) > 1 {
		rest = words[1]
	}
	switch slowLow(words[0]) {
	case "helo", "ehlo":
		s.hello(rest, slowLow(words[0]) == "ehlo")
	case "auth":
		s.auth(rest)
	case "mail":
		s.sender(rest)
	case "rcpt":
		s.recipient(rest)
	case "data":
		switch {
		case len(words) > 1:
			s.say("501 nothing behind it")
		case len(s.to) == 0:
			s.say("503 not now")
		default:
			s.state = inText
			s.say("354 go on")
		}
	case "rset":
		s.from, s.to = nil, nil
		s.say("250 ok")
	case "noop":
		s.say("250 ok")
	case "vrfy":
		s.say("252 may be")
	case "quit":
		s.say("221 bye")
		s.run.Ended = true
	default:
		s.say("500 what")
	}
}

func (s *slowTransfer) hello(name string, long bool) {
	if impl.DomainFault(name) != impl.OK {
		s.say("501 no name")
		return
	}
	s.name, s.from, s.to = name, nil, nil
	if long {
		s.say("250-"+s.config.Local, "250-PIPELINING", fmt.Sprint("250-SIZE ", s.config.MaxBytes), "250 AUTH SUM")
	} else {
		s.say("250 " + s.config.Local)
	}
}

var wayForm = regexp.MustCompile(`\A[Ss][Uu][Mm] ([a-z0-9]{1,60})\z`)

func (s *slowTransfer) auth(rest string) {
	way := wayForm.FindStringSubmatch(rest)
	switch {
	case s.name == "" || s.from != nil || s.user != "":
		s.say("503 not now")
	case way == nil:
		s.say("501 no such way")
	case !slices.ContainsFunc(s.config.Users, func(k impl.SignKey) bool { return k.Selector == way[1] }):
		s.say("535 no")
	default:
		s.say(fmt.Sprint("334 ", s.config.Seed+s.asked))
		s.asked++
		s.answer, s.state = way[1], inAnswer
	}
}

// As bytes, each as the letter of its number.
var senderForm = regexp.MustCompile(`(?s)\A[Ff][Rr][Oo][Mm]:<(.*)>( [Ss][Ii][Zz][Ee]=([0-9]{1,10}))?\z`)

func (s *slowTransfer) sender(rest string) {
	found := senderForm.FindStringSubmatch(latinRunes(rest))
	if s.name == "" || s.from != nil {
		s.say("503 not now")
		return
	}
	if found == nil || found[1] != "" && !slowKey(latinBytes(found[1])) {
		s.say("501 no address")
		return
	}
	if size, _ := strconv.Atoi("0" + found[3]); size > int(s.config.MaxBytes) {
		s.say("552 too large")
		return
	}
	s.from = some(latinBytes(found[1]))
	s.say("250 ok")
}

func (s *slowTransfer) recipient(rest string) {
	right := len(rest) > 5 && rest[:4] == "TO:<" && rest[len(rest)-1] == '>' && slowKey(rest[4:len(rest)-1])
	switch {
	case s.from == nil:
		s.say("503 not now")
	case !right:
		s.say("501 no address")
	case len(s.to) >= maxRcpt:
		s.say("452 too many")
	case !strings.HasSuffix(rest, "@"+s.config.Local+">") && !s.config.Relay && s.user == "":
		s.say("550 not here")
	default:
		s.to = append(s.to, rest[4:len(rest)-1])
		s.say("250 ok")
	}
}

// checkTransfer holds a run against the slow one.
func checkTransfer(t *testing.T, what string, c impl.TransferConfig, chunks ...string) impl.TransferRun {
	t.Helper()
	got, want := impl.RunTransfer(c, chunks), slowRunTransfer(c, chunks...)
	if got.Code != want.Code || got.Ended != want.Ended {
		t.Fatalf("RunTransfer, %s: code %d, ended %v, want %d, %v", what, got.Code, got.Ended, want.Code, want.Ended)
	}
	if got.Told != want.Told {
		t.Fatalf("RunTransfer, %s: told %s, want %s", what, differing(got.Told, want.Told), differing(want.Told, got.Told))
	}
	if !sameRuns(got, want) {
		t.Fatalf("RunTransfer, %s: accepted %s, want %s", what, shown(got.Accepted), shown(want.Accepted))
	}
	return got
}

// differing is what stands in a text from a little ahead of where it differs from another.
func differing(text, other string) string {
	at := 0
	for at < min(len(text), len(other)) && text[at] == other[at] {
		at++
	}
	return ".. " + short(text[max(0, at-60):])
}

// sent are lines with their line ends.
func sent(lines ...string) string {
	out := ""
	for _, line := range lines {
		out += line + "\r\n"
	}
	return out
}

// inBytes are chunks of one byte each, as many as there can be, and one of what is left.
func inBytes(text string) []string {
	var out []string
	for len(text) > 1 && len(out) < maxOps-1 {
		out = append(out, text[:1])
		text = text[1:]
	}
	return append(out, text)
}

// checkTalk has a client's lines, and what it is told behind the greeting: in one chunk, and in chunks of a byte.
func checkTalk(t *testing.T, c impl.TransferConfig, said []string, want ...string) impl.TransferRun {
	t.Helper()
	text := sent(said...)
	run := checkTransfer(t, short(text), c, text)
	if told := sent(append(some("220 "+c.Local), want...)...); run.Told != told {
		t.Errorf("RunTransfer of %s: told %s, want %s", short(text), differing(run.Told, told), differing(told, run.Told))
	}
	if small := impl.RunTransfer(c, inBytes(text)); !sameRuns(small, run) {
		t.Errorf("RunTransfer of the bytes of %s: %s, want %s", short(text), shown(small), shown(run))
	}
	return run
}

func checkTransferCode(t *testing.T, what string, c impl.TransferConfig, chunks []string, want int64) {
	t.Helper()
	run := impl.RunTransfer(c, chunks)
	if run.Code != want || want != impl.OK && !sameRuns(run, impl.TransferRun{Code: want}) {
		t.Errorf("RunTransfer, %s: %s, want the code %d", what, shown(run), want)
	}
}

func TestRunTransferCodes(t *testing.T) {
	c, ill := plainTransfer(), changedTransfer(func(c *impl.TransferConfig) { c.Seed = -1 })
	checkTransferCode(t, "no chunk", c, nil, impl.OK)
	checkTransferCode(t, "MaxOps chunks", c, make([]string, maxOps), impl.OK)
	checkTransferCode(t, "one more", c, make([]string, maxOps+1), impl.ErrCount)
	checkTransferCode(t, "a chunk of MaxText", c, some(xs(maxText)), impl.OK)
	checkTransferCode(t, "one byte more", c, some(xs(maxText+1)), impl.ErrSize)
	// Also where it would not be looked at.
	checkTransferCode(t, "one byte more behind the end", c, some("QUIT\r\n", xs(maxText+1)), impl.ErrSize)
	checkTransferCode(t, "one chunk more behind the end", c, append(some("QUIT\r\n"), make([]string, maxOps)...), impl.ErrCount)
	long := slices.Repeat(some(xs(maxText+1)), maxOps+1)
	checkTransferCode(t, "too many that are too long", c, long, impl.ErrCount)
	checkTransferCode(t, "a fault and too many that are too long", ill, long, impl.ErrForm)
	checkTransferCode(t, "a fault and no chunk", ill, nil, impl.ErrForm)
}

func TestRunTransferChunks(t *testing.T) {
	c := plainTransfer()
	for _, chunks := range [][]string{nil, {}, {""}, make([]string, 10), make([]string, maxOps), {"\r"}, {"NOOP"}, {"NOOP", ""}, {"NOOP\r", ""}} {
		run := checkTransfer(t, "nothing whole", c, chunks...)
		if run.Told != "220 a\r\n" || run.Ended || run.Accepted != nil {
			t.Errorf("RunTransfer of %q: %s", chunks, shown(run))
		}
	}
	for _, chunks := range [][]string{
		{"NOOP\r\n"}, {"NOOP", "\r\n"}, {"NOOP\r", "\n"}, {"", "NO", "", "OP", "", "\r", "", "\n", ""}, {"NOOP\r\nNO", "", ""}, {"NOOP\r\n\r"},
	} {
		wantText(t, "RunTransfer", strings.Join(chunks, "|"), checkTransfer(t, "one command", c, chunks...).Told, "220 a\r\n250 ok\r\n")
	}
	// A byte 13 or 10 alone is no line end.
	for _, text := range some("NOOP\n", "NOOP\r", "NOOP\n\r", "NOOP\n\n\n", "NOOP\r\r") {
		wantText(t, "RunTransfer", text, checkTransfer(t, "no line end", c, text).Told, "220 a\r\n")
		wantText(t, "RunTransfer", text, checkTransfer(t, "no line end", c, text+"\r\n").Told, "220 a\r\n500 what\r\n")
	}
	wantText(t, "RunTransfer", "\\r \\r\\n", checkTransfer(t, "two bytes 13", c, "NOOP \r", "\r", "\nNOOP\r\n").Told, "220 a\r\n250 ok\r\n250 ok\r\n")
	wantText(t, "RunTransfer", "many", checkTransfer(t, "many in one chunk", c, strings.Repeat("NOOP\r\n", 16666)).Told, "220 a\r\n"+strings.Repeat("250 ok\r\n", 16666))
	many := slices.Repeat(some("NOOP\r\n"), maxOps)
	wantText(t, "RunTransfer", "many", checkTransfer(t, "many chunks", c, many...).Told, "220 a\r\n"+strings.Repeat("250 ok\r\n", maxOps))
}

// longTalk has each thing that chunks may part.
var longTalk = sent(
	"EHLO b.example", "AUTH SUM u", "58-59", "", "noop", xs(maxCommand+1),
	"MAIL FROM:<x@y> SIZE=20", "RCPT TO:<z@w>", "RCPT TO:<a b>@c@a>", "DATA", "A: b", "", "..", "...x", ". ", " .", "x\r.\rx", ".\n", "", ".",
	"MAIL FROM:<>", "RCPT TO:<p@q>", "DATA", ".", "RSET", "QUIT", "NOOP",
)

func TestRunTransferPartedAnywhere(t *testing.T) {
	c := plainTransfer()
	whole := checkTransfer(t, "in one chunk", c, longTalk)
	message := "A: b\r\n\r\n.\r\n..x\r\n \r\n .\r\nx\r.\rx\r\n\n\r\n\r\n"
	want := []impl.Accepted{
		{From: "x@y", To: some("z@w", "a b>@c@a"), User: "u", Message: message},
		{To: some("p@q"), User: "u"},
	}
	if !slices.EqualFunc(whole.Accepted, want, sameAccepted) || !whole.Ended {
		t.Fatalf("RunTransfer: %s", shown(whole))
	}
	for at := range len(longTalk) + 1 {
		for _, chunks := range [][]string{
			{longTalk[:at], longTalk[at:]},
			{longTalk[:at], "", longTalk[at:]},
			{longTalk[:at], longTalk[at:min(at+1, len(longTalk))], longTalk[min(at+1, len(longTalk)):]},
		} {
			if run := impl.RunTransfer(c, chunks); !sameRuns(run, whole) {
				t.Fatalf("RunTransfer of %q: %s, want %s", chunks, shown(run), shown(whole))
			}
		}
	}
	for size := 1; size < 40; size++ {
		var chunks []string
		for piece := range slices.Chunk([]byte(longTalk), size) {
			chunks = append(chunks, string(piece))
		}
		if run := impl.RunTransfer(c, chunks); !sameRuns(run, whole) {
			t.Fatalf("RunTransfer of chunks of %d bytes: %s, want %s", size, shown(run), shown(whole))
		}
	}
	// All that was told is what a client can read.
	if list := impl.ReadReplies(whole.Told); !list.Good || len(list.Replies) != 18 {
		t.Errorf("ReadReplies of %s: %s", short(whole.Told), shown(list))
	}
}

// upToData are the commands ahead of a mail's text, and what is told of them.
var upToData = sent("HELO b", "MAIL FROM:<x@y>", "RCPT TO:<z@a>", "DATA")

const toldUpToData = "220 a\r\n250 a\r\n250 ok\r\n250 ok\r\n354 go on\r\n"

// checkWaits has bytes behind a beginning, in one or several chunks.
func checkWaits(t *testing.T, what, begin, told, waits, behind string) {
	t.Helper()
	c := changedTransfer(func(c *impl.TransferConfig) { c.MaxBytes = maxText })
	half := len(waits) / 2
	for _, chunks := range [][]string{
		{begin, waits, behind},
		{begin, waits[:1], waits[1:], behind},
		{begin + waits[:half], waits[half:] + behind},
		{begin + waits[:half], waits[half:], behind},
		{begin, waits[:half], waits[half:], "", behind},
		{begin, waits[:len(waits)-1], waits[len(waits)-1:] + behind},
		{begin, waits[:len(waits)-2], waits[len(waits)-2:], behind},
	} {
		wantText(t, "RunTransfer", what, checkTransfer(t, what, c, chunks...).Told, told)
	}
}

func TestRunTransferTooLongLine(t *testing.T) {
	for _, begin := range some("", "NOOP\r\n", "NOOP\r\n\r\n") {
		told := "220 a\r\n" + slowRunTransfer(plainTransfer(), begin).Told[len("220 a\r\n"):]
		over := told + "421 too long\r\n"
		checkWaits(t, "MaxText bytes", begin, over, xs(maxText), "\r\nNOOP\r\n")
		checkWaits(t, "a line end behind MaxText", begin, over, xs(maxText), "\r\n")
		checkWaits(t, "half a line end in MaxText", begin, over, xs(maxText-1)+"\r", "\nNOOP\r\n")
		checkWaits(t, "no line end in MaxText", begin, over, strings.Repeat("\n\rx", maxText/3)+"x", "\r\n")
		checkWaits(t, "a line end that ends MaxText", begin, told+"500 too long\r\n250 ok\r\n", xs(maxText-2)+"\r\n", "NOOP\r\n")
		checkWaits(t, "one byte fewer", begin, told, xs(maxText-1), "")
		checkWaits(t, "one byte fewer, then a line end", begin, over, xs(maxText-1), "\r\n")
		checkWaits(t, "two bytes fewer, then a line end", begin, told+"500 too long\r\n", xs(maxText-2), "\r\n")
	}
	// Behind a whole line the count begins anew.
	c := plainTransfer()
	checkTransfer(t, "a line in each chunk", c, xs(60000), "\r\n"+xs(60000), "\r\n"+xs(60000), "\r\nNOOP\r\n")
	checkTransfer(t, "a line in a chunk of MaxText", c, xs(maxText-1), "\r", "NOOP\r\n")
	run := checkTransfer(t, "nothing is looked at behind the end", c, xs(maxText), sent("NOOP"), sent("HELO b"))
	wantText(t, "RunTransfer", "MaxText", run.Told, "220 a\r\n421 too long\r\n")
	if !run.Ended {
		t.Error("not ended behind too long a line")
	}
}

func TestRunTransferTooLongData(t *testing.T) {
	over, ok := toldUpToData+"421 too long\r\n", toldUpToData+"250 ok\r\n250 ok\r\n"
	line := "\r\n" + xs(998)
	text := strings.Repeat(line, maxText/len(line))
	checkWaits(t, "MaxText bytes", upToData, over, text, "\r\n.\r\nNOOP\r\n")
	checkWaits(t, "MaxText bytes of empty lines", upToData, over, strings.Repeat("\r\n", maxText/2), ".\r\nNOOP\r\n")
	checkWaits(t, "half an end in MaxText", upToData, over, text[:maxText-4]+"\r\n.\r", "\nNOOP\r\n")
	checkWaits(t, "an end that ends MaxText", upToData, ok, text[:maxText-5]+"\r\n.\r\n", "NOOP\r\n")
	checkWaits(t, "one byte fewer", upToData, toldUpToData, text[:maxText-1], "")
	checkWaits(t, "one byte fewer, then an end", upToData, over, text[:maxText-1], "\r\n.\r\n")
	checkWaits(t, "room for the end alone", upToData, toldUpToData+"250 ok\r\n", text[:maxText-5], "\r\n.\r\n")
	checkWaits(t, "no room for the end", upToData, over, text[:maxText-4], "\r\n.\r\n")
	c := plainTransfer()
	run := checkTransfer(t, "nothing is looked at behind the end", c, upToData, xs(maxText), "\r\n.\r\n", sent("NOOP"))
	if run.Told != over || !run.Ended || run.Accepted != nil {
		t.Errorf("too much data: %s", shown(run))
	}
	// What was accepted ahead of that stays.
	run = checkTransfer(t, "too long behind a mail", c, upToData, ".\r\n", xs(maxText))
	if run.Told != toldUpToData+"250 ok\r\n421 too long\r\n" || !run.Ended || len(run.Accepted) != 1 {
		t.Errorf("too long behind a mail: %s", shown(run))
	}
}

func TestRunTransferCommandSizes(t *testing.T) {
	c := plainTransfer()
	for _, one := range []struct{ line, want string }{
		{xs(maxCommand), "500 what"}, {"NOOP " + xs(maxCommand-5), "250 ok"}, {"DATA " + xs(maxCommand-5), "501 nothing behind it"}, {"QUIT " + xs(maxCommand-5), "221 bye"},
	} {
		if run := checkTalk(t, c, some(one.line), one.want); run.Ended != (one.want == "221 bye") {
			t.Errorf("%s: ended %v", short(one.line), run.Ended)
		}
		checkTalk(t, c, some(one.line+"x", "NOOP"), "500 too long", "250 ok")
	}
	checkTalk(t, c, some(xs(maxCommand+1), xs(90000), "HELO b"), "500 too long", "500 too long", "250 a")
	checkTalk(t, c, some("NOOP "+strings.Repeat(" ", maxCommand-5), "NOOP "+strings.Repeat(" ", maxCommand-4)), "250 ok", "500 too long")
	// As the answer to a 334, which is over with it.
	checkTalk(t, c, some("HELO b", "AUTH SUM u", xs(maxCommand), "NOOP"), "250 a", "334 7", "535 no", "250 ok")
	checkTalk(t, c, some("HELO b", "AUTH SUM u", xs(maxCommand+1), "NOOP"), "250 a", "334 7", "500 too long", "250 ok")
	checkTalk(t, c, some("HELO b", "AUTH SUM u", xs(maxCommand+1), "58-59", "AUTH SUM u", "67-68"), "250 a", "334 7", "500 too long", "500 what", "334 8", "535 no")
	// Within a mail, too, which goes on.
	checkTalk(t, c, some("HELO b", "MAIL FROM:<>", xs(maxCommand+1), "RCPT TO:<x@a>"), "250 a", "250 ok", "500 too long", "250 ok")
}

// The lines of a text are no commands, whatever their size.
func TestRunTransferLongLinesOfData(t *testing.T) {
	c := changedTransfer(func(c *impl.TransferConfig) { c.MaxBytes = maxText })
	message := sent("A: "+xs(5000), "", xs(maxCommand), xs(maxCommand+1), "QUIT", "RSET", "DATA", xs(20000))
	run := checkTransfer(t, "long lines", c, upToData+message+".\r\nQUIT\r\n")
	if len(run.Accepted) != 1 || run.Accepted[0].Message != message || !run.Ended {
		t.Errorf("long lines of data: %s", shown(run))
	}
}

// talkStates are beginnings of a talk, by the place that they lead to.
var talkStates = []struct {
	name        string
	said, heard []string
}{
	{"ahead of a name", nil, nil},
	{"with a name", some("HELO b"), some("250 a")},
	{"with a user", some("HELO b", "AUTH SUM u", "58-59"), some("250 a", "334 7", "235 welcome")},
	{"within a mail", some("HELO b", "MAIL FROM:<>"), some("250 a", "250 ok")},
	{"with a recipient", some("HELO b", "MAIL FROM:<>", "RCPT TO:<x@a>"), some("250 a", "250 ok", "250 ok")},
	{"behind a mail", some("HELO b", "MAIL FROM:<>", "RCPT TO:<x@a>", "DATA", "."), some("250 a", "250 ok", "250 ok", "354 go on", "250 ok")},
	{"behind a refused mail", some("HELO b", "MAIL FROM:<>", "RCPT TO:<x@a>", "DATA", "x", "."), some("250 a", "250 ok", "250 ok", "354 go on", "554 no message")},
	{"behind a mail that was forgotten", some("HELO b", "MAIL FROM:<>", "RCPT TO:<x@a>", "RSET"), some("250 a", "250 ok", "250 ok", "250 ok")},
}

const longHello = "250-a\r\n250-PIPELINING\r\n250-SIZE 200\r\n250 AUTH SUM"

// commandReplies has what a line is answered in each of talkStates, in their order; a text alone stands for all.
var commandReplies = []struct {
	line string
	want []string
}{
	{"HELO b", some("250 a")},
	{"HELO", some("501 no name")},
	{"HELO ", some("501 no name")},
	{"HELO  b", some("501 no name")},
	{"HELO b ", some("501 no name")},
	{"EHLO b", some(longHello)},
	{"EHLO", some("501 no name")},
	{"EHLO ", some("501 no name")},
	{"EHLO  ", some("501 no name")},
	{"AUTH SUM v2", some("503 not now", "334 7", "503 not now", "503 not now", "503 not now", "334 7", "334 7", "334 7")},
	{"AUTH", some("503 not now", "501 no such way", "503 not now", "503 not now", "503 not now", "501 no such way", "501 no such way", "501 no such way")},
	{"AUTH ", some("503 not now", "501 no such way", "503 not now", "503 not now", "503 not now", "501 no such way", "501 no such way", "501 no such way")},
	{"AUTH  SUM u", some("503 not now", "501 no such way", "503 not now", "503 not now", "503 not now", "501 no such way", "501 no such way", "501 no such way")},
	{"AUTH SUM w", some("503 not now", "535 no", "503 not now", "503 not now", "503 not now", "535 no", "535 no", "535 no")},
	{"MAIL FROM:<x@y>", some("503 not now", "250 ok", "250 ok", "503 not now", "503 not now", "250 ok", "250 ok", "250 ok")},
	{"MAIL FROM:<>", some("503 not now", "250 ok", "250 ok", "503 not now", "503 not now", "250 ok", "250 ok", "250 ok")},
	{"MAIL", some("503 not now", "501 no address", "501 no address", "503 not now", "503 not now", "501 no address", "501 no address", "501 no address")},
	{"MAIL ", some("503 not now", "501 no address", "501 no address", "503 not now", "503 not now", "501 no address", "501 no address", "501 no address")},
	{"MAIL  FROM:<>", some("503 not now", "501 no address", "501 no address", "503 not now", "503 not now", "501 no address", "501 no address", "501 no address")},
	{"MAIL FROM:<> SIZE=201", some("503 not now", "552 too large", "552 too large", "503 not now", "503 not now", "552 too large", "552 too large", "552 too large")},
	{"RCPT TO:<x@a>", some("503 not now", "503 not now", "503 not now", "250 ok", "250 ok", "503 not now", "503 not now", "503 not now")},
	{"RCPT TO:<x@b>", some("503 not now", "503 not now", "503 not now", "550 not here", "550 not here", "503 not now", "503 not now", "503 not now")},
	{"RCPT", some("503 not now", "503 not now", "503 not now", "501 no address", "501 no address", "503 not now", "503 not now", "503 not now")},
	{"RCPT ", some("503 not now", "503 not now", "503 not now", "501 no address", "501 no address", "503 not now", "503 not now", "503 not now")},
	{"RCPT  TO:<x@a>", some("503 not now", "503 not now", "503 not now", "501 no address", "501 no address", "503 not now", "503 not now", "503 not now")},
	{"DATA", some("503 not now", "503 not now", "503 not now", "503 not now", "354 go on", "503 not now", "503 not now", "503 not now")},
	{"DATA ", some("501 nothing behind it")},
	{"DATA  ", some("501 nothing behind it")},
	{"DATA x", some("501 nothing behind it")},
	{"RSET", some("250 ok")},
	{"RSET ", some("250 ok")},
	{"RSET  x", some("250 ok")},
	{"NOOP", some("250 ok")},
	{"NOOP ", some("250 ok")},
	{"NOOP  ", some("250 ok")},
	{"NOOP x y", some("250 ok")},
	{"VRFY", some("252 may be")},
	{"VRFY ", some("252 may be")},
	{"VRFY  x", some("252 may be")},
	{"QUIT", some("221 bye")},
	{"QUIT ", some("221 bye")},
	{"QUIT  x", some("221 bye")},
	{"", some("500 what")},
	{" ", some("500 what")},
	{" NOOP", some("500 what")},
	{"NOOPx", some("500 what")},
	{"NOO", some("500 what")},
	{"NOOP\t", some("500 what")},
	{"NOOP\tx", some("500 what")},
	{"MAIL\tFROM:<>", some("500 what")},
	{"HELP", some("500 what")},
	{"SUM u", some("500 what")},
	{"TO:<x@a>", some("500 what")},
	{"58-59", some("500 what")},
	{"*", some("500 what")},
	{".", some("500 what")},
	{"\x00", some("500 what")},
	{"É \xff", some("500 what")},
	// Letters that count as others elsewhere.
	{"R\u017fET", some("500 what")},
	{"QU\u0130T", some("500 what")},
}

// wordIn turns a line's word alone into other letters.
func wordIn(line string, letters func(string) string) string {
	word, rest, spaced := strings.Cut(line, " ")
	if !spaced {
		return letters(word)
	}
	return letters(word) + " " + rest
}

func mixedLetters(text string) string {
	out := []byte(slowLow(text))
	for at := 0; at < len(out); at += 2 {
		if 'a' <= out[at] && out[at] <= 'z' {
			out[at] -= 32
		}
	}
	return string(out)
}

func TestRunTransferCommands(t *testing.T) {
	c := plainTransfer()
	for at, state := range talkStates {
		for _, command := range commandReplies {
			want := command.want[0]
			if len(command.want) > 1 {
				want = command.want[at]
			}
			for _, line := range some(command.line, wordIn(command.line, slowLow), wordIn(command.line, mixedLetters)) {
				said, heard := append(slices.Clone(state.said), line), append(slices.Clone(state.heard), want)
				run := checkTalk(t, c, said, heard...)
				if run.Ended != (want == "221 bye") {
					t.Errorf("%s, %s: ended %v", state.name, line, run.Ended)
				}
			}
		}
	}
}

// TestRunTransferBehindCommands has each line in each place, and what each other line is answered then.
func TestRunTransferBehindCommands(t *testing.T) {
	c := plainTransfer()
	for _, state := range talkStates {
		for _, first := range commandReplies {
			for _, second := range commandReplies {
				said := append(slices.Clone(state.said), first.line, second.line, "MAIL FROM:<x@y>", "RCPT TO:<z@a>", "DATA", "", ".", "AUTH SUM u", "58-59", "67-68", "RCPT TO:<z@a>", "DATA", "X: y", ".", "NOOP")
				checkTransfer(t, fmt.Sprintf("%q", said), c, sent(said...))
			}
		}
	}
}

func TestRunTransferNames(t *testing.T) {
	c := plainTransfer()
	for _, name := range some("b", "B", "b.c", "1.2.3.4", "é", "\xff", "[1.2.3.4]", "[]", "[a b]", "[a@b.c]", "-", labels(maxDomain), xs(maxDomain), "["+xs(maxDomain-2)+"]") {
		checkTalk(t, c, some("HELO "+name, "MAIL FROM:<>"), "250 a", "250 ok")
		checkTalk(t, c, some("EHLO "+name, "MAIL FROM:<>"), longHello, "250 ok")
	}
	for _, name := range some("", " ", " b", "b ", "b c", "b.", ".b", "b..c", "b@c", "[", "[1", "1]", "[[]]", "[\\]", "b\t", "b\x00", "b\x7f", "b,c", "<b>", "\"b\"", "(b)", "b\r", "\nb", labels(maxDomain+1), xs(maxDomain+1), "["+xs(maxDomain-1)+"]") {
		checkTalk(t, c, some("HELO "+name, "MAIL FROM:<>"), "501 no name", "503 not now")
		checkTalk(t, c, some("EHLO "+name, "MAIL FROM:<>"), "501 no name", "503 not now")
	}
	// An ill name changes nothing; a right one has what was begun forgotten, but not the user.
	checkTalk(t, c, some("HELO b", "EHLO .", "MAIL FROM:<>", "HELO ", "RCPT TO:<x@a>", "EHLO", "DATA", "."), "250 a", "501 no name", "250 ok", "501 no name", "250 ok", "501 no name", "354 go on", "250 ok")
	for _, again := range some("HELO c", "helo c") {
		checkTalk(t, c, some("HELO b", "MAIL FROM:<>", "RCPT TO:<x@a>", again, "DATA", "RCPT TO:<x@a>", "MAIL FROM:<>", "DATA"), "250 a", "250 ok", "250 ok", "250 a", "503 not now", "503 not now", "250 ok", "503 not now")
	}
	checkTalk(t, c, some("HELO b", "MAIL FROM:<>", "RCPT TO:<x@a>", "EHLO c", "DATA", "AUTH SUM u", "*"), "250 a", "250 ok", "250 ok", longHello, "503 not now", "334 7", "501 given up")
	run := checkTalk(t, c, some("HELO b", "AUTH SUM u", "58-59", "EHLO c", "AUTH SUM u", "MAIL FROM:<>", "RCPT TO:<x@y>", "DATA", "."), "250 a", "334 7", "235 welcome", longHello, "503 not now", "250 ok", "250 ok", "354 go on", "250 ok")
	if len(run.Accepted) != 1 || run.Accepted[0].User != "u" {
		t.Errorf("behind another name: %s", shown(run.Accepted))
	}
	great := changedTransfer(func(c *impl.TransferConfig) { c.Local, c.MaxBytes = "mail.b.example", maxText })
	checkTalk(t, great, some("EHLO b", "HELO b"), "250-mail.b.example\r\n250-PIPELINING\r\n250-SIZE 100000\r\n250 AUTH SUM", "250 mail.b.example")
	none := changedTransfer(func(c *impl.TransferConfig) { c.Users, c.MaxBytes = nil, 1 })
	checkTalk(t, none, some("EHLO b", "AUTH SUM u"), "250-a\r\n250-PIPELINING\r\n250-SIZE 1\r\n250 AUTH SUM", "535 no")
}

func TestRunTransferAuth(t *testing.T) {
	c := plainTransfer()
	for _, way := range some("SUM u", "sum u", "Sum u", "sUM u") {
		checkTalk(t, c, some("HELO b", "AUTH "+way, "58-59"), "250 a", "334 7", "235 welcome")
	}
	for _, way := range some("", "SUM", "SUM ", "SUM  u", "SUM u ", "SUM u v", "SUM U", "SUM é", "SUM u-", "SUMu", "X u", "PLAIN u", "PLAIN", "u", " SUM u", "SUM\tu", "SUM "+strings.Repeat("a", maxSelector+1), "SUM *") {
		checkTalk(t, c, some("HELO b", "AUTH "+way, "58-59"), "250 a", "501 no such way", "500 what")
	}
	for _, selector := range some("w", "0", "uu", "v", "v3", strings.Repeat("a", maxSelector)) {
		checkTalk(t, c, some("HELO b", "AUTH SUM "+selector, "58-59"), "250 a", "535 no", "500 what")
	}
	for _, answer := range some("", "58", "58-", "58-60", "59-58", "58-59 ", " 58-59", "058-59", "58 -59", "58-59\r", "+58-59", "**", "* ", " *", "NOOP", "QUIT", "AUTH SUM u", "HELO b", ".", "53-54", "67-68") {
		run := checkTalk(t, c, some("HELO b", "AUTH SUM u", answer, "NOOP", "MAIL FROM:<>", "RCPT TO:<x@y>"), "250 a", "334 7", "535 no", "250 ok", "250 ok", "550 not here")
		if run.Ended {
			t.Errorf("ended by the answer %s", answer)
		}
	}
	// The seed is one more behind each challenge that was told, and behind these alone.
	said, heard := some("HELO b", "AUTH", "AUTH SUM w"), some("250 a", "501 no such way", "535 no")
	for seed := int64(7); seed < 30; seed++ {
		right := slowSums(c.Users[0], strconv.FormatInt(seed, 10))
		for _, end := range []struct{ line, reply string }{{"*", "501 given up"}, {"", "535 no"}, {slowSums(c.Users[0], strconv.FormatInt(seed+1, 10)), "535 no"}, {slowSums(c.Users[1], strconv.FormatInt(seed, 10)), "535 no"}, {xs(600), "500 too long"}} {
			checkTalk(t, c, append(slices.Clone(said), "AUTH SUM u", end.line, "AUTH SUM u"), append(slices.Clone(heard), fmt.Sprint("334 ", seed), end.reply, fmt.Sprint("334 ", seed+1))...)
		}
		checkTalk(t, c, append(slices.Clone(said), "AUTH SUM u", right), append(slices.Clone(heard), fmt.Sprint("334 ", seed), "235 welcome")...)
		other := slowSums(c.Users[1], strconv.FormatInt(seed, 10))
		checkTalk(t, c, append(slices.Clone(said), "AUTH SUM v2", other), append(slices.Clone(heard), fmt.Sprint("334 ", seed), "235 welcome")...)
		said, heard = append(said, "AUTH SUM u", "no"), append(heard, fmt.Sprint("334 ", seed), "535 no")
	}
	high := changedTransfer(func(c *impl.TransferConfig) { c.Seed = maxNumber })
	checkTalk(t, high, some("HELO b", "AUTH SUM u", "", "AUTH SUM u", slowSums(c.Users[0], strconv.Itoa(maxNumber+1))), "250 a", "334 4294967295", "535 no", "334 4294967296", "235 welcome")
	zero := changedTransfer(func(c *impl.TransferConfig) { c.Seed = 0 })
	checkTalk(t, zero, some("HELO b", "AUTH SUM u", "51-52"), "250 a", "334 0", "235 welcome")
}

func TestRunTransferTwoUsersOfOneSelector(t *testing.T) {
	c := changedTransfer(func(c *impl.TransferConfig) {
		c.Users = []impl.SignKey{userKey("v", 5, 7), userKey("u", 2, 3), {Domain: "b", Selector: "u", A: 11, B: 13}, userKey("u", 17, 19)}
	})
	checkTalk(t, c, some("HELO b", "AUTH SUM u", "58-59"), "250 a", "334 7", "235 welcome")
	for _, at := range []int{0, 2, 3} {
		checkTalk(t, c, some("HELO b", "AUTH SUM u", impl.ChallengeAnswer(c.Users[at], 7)), "250 a", "334 7", "535 no")
	}
}

// TestRunTransferUsers has who is told as a mail's user.
func TestRunTransferUsers(t *testing.T) {
	c := plainTransfer()
	mail := some("MAIL FROM:<x@y>", "RCPT TO:<z@a>", "DATA", "A: b", ".")
	said := append(append(some("HELO b"), mail...), "AUTH SUM u", "bad")
	said = append(append(said, mail...), "AUTH SUM v2", impl.ChallengeAnswer(c.Users[1], 8))
	said = append(append(said, mail...), "RSET")
	said = append(append(said, mail...), "AUTH SUM u")
	said = append(said, mail...)
	run := checkTransfer(t, "users", c, sent(said...))
	var users []string
	for _, one := range run.Accepted {
		users = append(users, one.User)
	}
	if !slices.Equal(users, some("", "", "v2", "v2", "v2")) {
		t.Errorf("users: %q", users)
	}
}

// checkSender has what stands behind MAIL, and whether the mail was begun then.
func checkSender(t *testing.T, rest, want, from string) {
	t.Helper()
	c := plainTransfer()
	if want != "250 ok" {
		checkTalk(t, c, some("HELO b", "MAIL "+rest, "RCPT TO:<z@a>", "MAIL FROM:<>"), "250 a", want, "503 not now", "250 ok")
		return
	}
	run := checkTalk(t, c, some("HELO b", "MAIL "+rest, "MAIL FROM:<>", "RCPT TO:<z@a>", "DATA", "."), "250 a", want, "503 not now", "250 ok", "354 go on", "250 ok")
	if len(run.Accepted) != 1 || run.Accepted[0].From != from {
		t.Errorf("MAIL %s: %s", rest, shown(run.Accepted))
	}
}

func TestRunTransferMail(t *testing.T) {
	for _, key := range some("", "x@y", "X.Y@y.z", "a b@c", "a>@b", ">@b", "<@b", "a> SIZE=5@b", "a> SIZE=999@b", "a@b@c", "a@b>@c", "é@é", "\xff@\xff", "\"a\"@b", xs(maxLocal)+"@"+xs(maxDomain), "x@a") {
		for _, begin := range some("FROM:<", "from:<", "From:<", "fROM:<") {
			checkSender(t, begin+key+">", "250 ok", key)
			for _, size := range some(" SIZE=1", " SIZE=200", " size=200", " Size=0", " sIZE=0000000200", " SIZE=0000000000", " SIZE=199") {
				checkSender(t, begin+key+">"+size, "250 ok", key)
			}
			for _, size := range some(" SIZE=201", " size=0000000201", " SIZE=9999999999", " SIZE=4294967296", " SIZE=4294967497", " SIZE=1000000000") {
				checkSender(t, begin+key+">"+size, "552 too large", "")
			}
			for _, size := range some(" ", "1", "0000000001", " 1", "  SIZE=1", "SIZE=1", " SIZE=", " SIZE", " SIZE= 1", " SIZE=1 ", " SIZE=-1", " SIZE=+1", " SIZE=1x", " SIZE=x", " SIZE=00000000001", " SIZE=99999999999", " SIZE=1 SIZE=1", " SIZE:1", "\tSIZE=1", " X=1", " SIZE=1>", ">", " <>", " S\u0130ZE=1", " \u017fIZE=1") {
				checkSender(t, begin+key+">"+size, "501 no address", "")
			}
		}
	}
	for _, ill := range illKeys {
		if ill != "" && len(ill) < 400 && !strings.Contains(ill, "\r\n") {
			checkSender(t, "FROM:<"+ill+">", "501 no address", "")
			checkSender(t, "FROM:<"+ill+"> SIZE=1", "501 no address", "")
			// The address is looked at ahead of the size.
			checkSender(t, "FROM:<"+ill+"> SIZE=999", "501 no address", "")
		}
	}
	for _, ill := range some("", " ", "x@y", "<x@y>", "<>", "FROM", "FROM:", "FROM:<", "FROM:x@y", "FROM:x@y>", "FROM:<x@y", "FROM: <x@y>", "FROM:<x@y> ", "FROM:< x@y >", "FROM:<<x@y>>", "FROM:<x@y >", "FROM :<x@y>", "TO:<x@y>", "FROM:<x@Y>", "FROM:>", "FROM>:<x@y", ">", "FROM:<\"\">", "\u017fROM:<>", "FROM:[x@y]") {
		checkSender(t, ill, "501 no address", "")
	}
	// These stand in a local part.
	checkSender(t, "FROM:< x@y>", "250 ok", " x@y")
	checkSender(t, "FROM:<<x@y>", "250 ok", "<x@y")
}

func TestRunTransferSizes(t *testing.T) {
	for _, most := range []int64{1, 9, maxText} {
		c := changedTransfer(func(c *impl.TransferConfig) { c.MaxBytes = most })
		checkTalk(t, c, some("HELO b", fmt.Sprint("MAIL FROM:<> SIZE=", most+1), fmt.Sprint("MAIL FROM:<> SIZE=", most)), "250 a", "552 too large", "250 ok")
	}
}

func checkRecipients(t *testing.T, c impl.TransferConfig, lines []string, want []string, to ...string) {
	t.Helper()
	said := append(append(some("HELO b", "MAIL FROM:<x@y>"), lines...), "DATA", ".")
	heard := append(some("250 a", "250 ok"), want...)
	if len(to) == 0 {
		heard = append(heard, "503 not now", "500 what")
	} else {
		heard = append(heard, "354 go on", "250 ok")
	}
	run := checkTalk(t, c, said, heard...)
	if len(run.Accepted) != min(len(to), 1) || len(to) > 0 && !slices.Equal(run.Accepted[0].To, to) {
		t.Errorf("recipients by %q: %s, want %q", lines, shown(run.Accepted), to)
	}
}

func TestRunTransferRecipients(t *testing.T) {
	c := plainTransfer()
	for _, key := range some("x@a", "X@a", "a b@a", "x@b@a", ">@a", "<x>@a", "é@a", "x> SIZE=1@a", "x@a>,<y@a", xs(maxLocal)+"@a") {
		checkRecipients(t, c, some("RCPT TO:<"+key+">"), some("250 ok"), key)
		checkRecipients(t, c, some("rcpt TO:<"+key+">"), some("250 ok"), key)
	}
	far := some("x@b", "x@a.b", "x@b.a", "x@aa", "x@é", "a@a@b", "x@"+xs(maxDomain))
	for _, key := range far {
		checkRecipients(t, c, some("RCPT TO:<"+key+">"), some("550 not here"))
		checkRecipients(t, relaying(), some("RCPT TO:<"+key+">"), some("250 ok"), key)
		said := some("HELO b", "AUTH SUM u", "58-59", "MAIL FROM:<>", "RCPT TO:<"+key+">")
		checkTalk(t, c, said, "250 a", "334 7", "235 welcome", "250 ok", "250 ok")
		said[2] = "58-58"
		checkTalk(t, c, said, "250 a", "334 7", "535 no", "250 ok", "550 not here")
	}
	// The same one is taken again, in order.
	checkRecipients(t, c, some("RCPT TO:<x@a>", "RCPT TO:<y@b>", "RCPT TO:<w@a>", "RCPT TO:<x@a>"), some("250 ok", "550 not here", "250 ok", "250 ok"), "x@a", "w@a", "x@a")
	for _, ill := range illKeys {
		if len(ill) < 400 && !strings.Contains(ill, "\r\n") {
			checkRecipients(t, relaying(), some("RCPT TO:<"+ill+">"), some("501 no address"))
		}
	}
	for _, ill := range some("", " ", "x@a", "<x@a>", "TO", "TO:", "TO:<", "TO:<>", "TO:>", "TO:x@a", "TO:<x@a", "TO:x@a>", "TO: <x@a>", "TO:<x@a> ", "TO:<x@a> SIZE=1", "FROM:<x@a>", "TO:<x@A>", "TO :<x@a>", "TO:<x@a>>") {
		checkRecipients(t, relaying(), some("RCPT "+ill), some("501 no address"))
	}
	// Of these letters nothing is said that would make them the same.
	for _, ill := range some("to:<x@a>", "To:<x@a>", "tO:<x@a>") {
		checkRecipients(t, relaying(), some("RCPT "+ill), some("501 no address"))
	}
}

func TestRunTransferManyRecipients(t *testing.T) {
	c := plainTransfer()
	var lines, want, to []string
	for at := range maxRcpt {
		to = append(to, fmt.Sprintf("p%d@a", at))
		lines, want = append(lines, "RCPT TO:<"+to[at]+">"), append(want, "250 ok")
	}
	checkRecipients(t, c, lines[:maxRcpt-1], want[:maxRcpt-1], to[:maxRcpt-1]...)
	checkRecipients(t, c, lines, want, to...)
	// An ill address is told ahead of their number, and that ahead of where they are.
	more := append(slices.Clone(lines), "RCPT TO:<q@a>", "RCPT TO:<q@b>", "RCPT TO:<q>", "RCPT TO:<p0@a>", "RCPT TO:<q@a>")
	checkRecipients(t, c, more, append(slices.Clone(want), "452 too many", "452 too many", "501 no address", "452 too many", "452 too many"), to...)
	// Those that are refused do not count.
	checkRecipients(t, c, append(some("RCPT TO:<q@b>", "RCPT TO:<q>"), lines...), append(some("550 not here", "501 no address"), want...), to...)
	again := append(append(append(some("HELO b", "MAIL FROM:<>"), lines...), "RSET", "MAIL FROM:<>"), append(slices.Clone(lines), "RCPT TO:<q@a>")...)
	checkTalk(t, c, again, append(append(append(some("250 a", "250 ok"), want...), "250 ok", "250 ok"), append(slices.Clone(want), "452 too many")...)...)
}

// checkSentData has lines behind DATA, up to their end.
func checkSentData(t *testing.T, most int64, lines []string, want string, message string) {
	t.Helper()
	c := changedTransfer(func(c *impl.TransferConfig) { c.MaxBytes = most })
	said := append(append(some("HELO b", "MAIL FROM:<x@y>", "RCPT TO:<z@a>", "DATA"), lines...), ".", "DATA", "MAIL FROM:<>")
	run := checkTalk(t, c, said, "250 a", "250 ok", "250 ok", "354 go on", want, "503 not now", "250 ok")
	accepted := []impl.Accepted{{From: "x@y", To: some("z@a"), Message: message}}
	if want != "250 ok" {
		accepted = nil
	}
	if !slices.EqualFunc(run.Accepted, accepted, sameAccepted) {
		t.Errorf("data %q: accepted %s, want %s", lines, shown(run.Accepted), shown(accepted))
	}
}

func TestRunTransferData(t *testing.T) {
	for _, c := range []struct {
		lines   []string
		message string
	}{
		{nil, ""},
		{some(""), "\r\n"},
		{some("A: b"), "A: b\r\n"},
		{some("A: b", "", "c"), "A: b\r\n\r\nc\r\n"},
		{some("A: b", "", ".."), "A: b\r\n\r\n.\r\n"},
		{some("A: b", "", "...", ".x", "..x", "x.", "x..", ". ", " ."), "A: b\r\n\r\n..\r\nx\r\n.x\r\nx.\r\nx..\r\n \r\n .\r\n"},
		{some("..A: b"), ".A: b\r\n"},
		{some(".A: b"), "A: b\r\n"},
		{some("", "QUIT", "RSET", "MAIL FROM:<>", "DATA"), "\r\nQUIT\r\nRSET\r\nMAIL FROM:<>\r\nDATA\r\n"},
		{some("", "a\rb\nc\n.\n\r.\r"), "\r\na\rb\nc\n.\n\r.\r\r\n"},
		{some("", ".\r", "\n.", ".\n"), "\r\n\r\r\n\n.\r\n\n\r\n"},
		{some("", allBytes), "\r\n" + allBytes + "\r\n"},
	} {
		checkSentData(t, 400, c.lines, "250 ok", c.message)
		checkSentData(t, int64(max(1, len(c.message))), c.lines, "250 ok", c.message)
		if len(c.message) > 1 {
			checkSentData(t, int64(len(c.message))-1, c.lines, "552 too large", "")
		}
	}
	for _, lines := range [][]string{{"x"}, {" A: b"}, {"A b"}, {"A: b", "c"}, {":", ""}, {"A: b", "\x00"}, {"A: b\rc"}, {"..."}, {". x"}, slices.Repeat(some("A:"), 201)} {
		checkSentData(t, 1000, lines, "554 no message", "")
		checkSentData(t, 1, lines, "552 too large", "")
	}
	checkSentData(t, 1000, slices.Repeat(some("A:"), 200), "250 ok", strings.Repeat("A:\r\n", 200))
	// A size that was told is not held against the text.
	checkTalk(t, plainTransfer(), some("HELO b", "MAIL FROM:<> SIZE=1", "RCPT TO:<x@a>", "DATA", "A: b", "."), "250 a", "250 ok", "250 ok", "354 go on", "250 ok")
}

func TestRunTransferGreatData(t *testing.T) {
	line := xs(998)
	lines := append(some(""), slices.Repeat(some(line), 99)...)
	text := sent(lines...)
	for _, c := range []struct {
		most int
		want string
	}{{len(text), "250 ok"}, {len(text) - 1, "552 too large"}, {len(text) + 1, "250 ok"}, {maxText, "250 ok"}, {maxText / 2, "552 too large"}} {
		config := changedTransfer(func(config *impl.TransferConfig) { config.MaxBytes = int64(c.most) })
		run := checkTransfer(t, "great data", config, upToData, text, ".\r\nDATA\r\n")
		wantText(t, "RunTransfer", "great data", run.Told, toldUpToData+c.want+"\r\n503 not now\r\n")
	}
	// As great as it can come, and a text that is greater by what was stuffed.
	most := changedTransfer(func(c *impl.TransferConfig) { c.MaxBytes = maxText })
	body := "\r\n" + xs(maxText-7) + "\r\n"
	if run := checkTransfer(t, "the greatest data", most, upToData, body+".\r\n"); len(run.Accepted) != 1 || run.Accepted[0].Message != body {
		t.Errorf("the greatest data: %s", shown(run))
	}
	if run := checkTransfer(t, "one byte more", most, upToData, "x"+body+".\r", "\n"); !run.Ended || run.Accepted != nil {
		t.Errorf("one byte more: %s", shown(run))
	}
}

func TestRunTransferSeveralMails(t *testing.T) {
	c := relaying()
	run := checkTalk(t, c, some(
		"EHLO b", "MAIL FROM:<a@b>", "RCPT TO:<c@d>", "DATA", "A: 1", ".", "MAIL FROM:<>", "RCPT TO:<e@f>", "RCPT TO:<g@h>", "DATA", ".",
		"MAIL FROM:<i@j>", "RCPT TO:<k@l>", "RSET", "DATA", "MAIL FROM:<m@n>", "RCPT TO:<o@p>", "DATA", "ill", ".", "MAIL FROM:<q@r>", "RCPT TO:<s@t>", "NOOP", "VRFY s", "what", "DATA", "", "x", ".", "QUIT",
	), longHello, "250 ok", "250 ok", "354 go on", "250 ok", "250 ok", "250 ok", "250 ok", "354 go on", "250 ok",
		"250 ok", "250 ok", "250 ok", "503 not now", "250 ok", "250 ok", "354 go on", "554 no message", "250 ok", "250 ok", "250 ok", "252 may be", "500 what", "354 go on", "250 ok", "221 bye")
	want := []impl.Accepted{
		{From: "a@b", To: some("c@d"), Message: "A: 1\r\n"},
		{To: some("e@f", "g@h")},
		{From: "q@r", To: some("s@t"), Message: "\r\nx\r\n"},
	}
	if !slices.EqualFunc(run.Accepted, want, sameAccepted) || !run.Ended {
		t.Errorf("several mails: %s", shown(run))
	}
}

func TestRunTransferEnds(t *testing.T) {
	c := plainTransfer()
	for _, chunks := range [][]string{
		{"QUIT\r\n"}, {"quit\r\nNOOP\r\n"}, {"QUIT x\r\n", "NOOP\r\n", "QUIT\r\n"}, {"QUIT\r", "\nNOOP", "\r\n"}, append(some("QUIT\r\n"), slices.Repeat(some(xs(maxText)), 50)...), {"QUIT\r\n" + xs(maxText-6)},
	} {
		run := checkTransfer(t, "QUIT", c, chunks...)
		if run.Told != "220 a\r\n221 bye\r\n" || !run.Ended {
			t.Errorf("QUIT: %s", shown(run))
		}
	}
	// What was begun is not accepted.
	run := checkTransfer(t, "QUIT within a mail", c, sent("HELO b", "MAIL FROM:<>", "RCPT TO:<x@a>", "QUIT", "DATA", ".", "NOOP"))
	if !run.Ended || run.Accepted != nil {
		t.Errorf("QUIT within a mail: %s", shown(run))
	}
	for _, text := range some("", sent("NOOP"), upToData, upToData+"QUIT\r\n", sent("HELO b", "AUTH SUM u", "QUIT"), "QUIT", "QUIT\r") {
		if run := checkTransfer(t, text, c, text); run.Ended {
			t.Errorf("ended by %s", short(text))
		}
	}
}

// transferConfig has few names, so that what is said often fits.
func (d *dice) transferConfig() impl.TransferConfig {
	c := impl.TransferConfig{Local: d.pick("a", "b.c"), Relay: d.below(2) == 0, MaxBytes: int64(1 + d.below(120)), Seed: int64(d.below(50))}
	for range d.below(4) {
		c.Users = append(c.Users, userKey(d.pick("u", "v"), int64(1+d.below(3)), int64(1+d.below(3))))
	}
	return c
}

func (d *dice) transferKey() string {
	return d.pick("x", "y z", "a>", "@", "é", "x> SIZE=3") + "@" + d.pick("a", "a", "b.c", "B", "d", "")
}

// answerTo is mostly the right answer, if a seed was told last.
func (d *dice) answerTo(c impl.TransferConfig, told string) string {
	_, seed, asked := strings.Cut(told[max(0, len(told)-8):], "334 ")
	if !asked || len(c.Users) == 0 || d.below(3) == 0 {
		return d.pick("*", "", "1-1", "NOOP", xs(maxCommand+1))
	}
	number, _ := strconv.ParseInt(strings.TrimSuffix(seed, "\r\n"), 10, 64)
	return impl.ChallengeAnswer(c.Users[d.below(len(c.Users))], number)
}

// transferLines are what a client may say next, mostly what is right there.
func (d *dice) transferLines(c impl.TransferConfig, ahead []string) []string {
	switch d.below(20) {
	case 0, 1:
		return some(d.pick("HELO ", "EHLO ", "helo ", "EHLO  ") + d.pick("b", "[1]", "c.d", ""))
	case 2, 3:
		auth := d.pick("AUTH", "auth") + " " + d.pick("SUM ", "sum ", "SUM ", "X ") + d.pick("u", "v", "u", "v", "W")
		told := slowRunTransfer(c, sent(append(slices.Clone(ahead), auth)...)).Told
		return some(auth, d.answerTo(c, told))
	case 4, 5, 6:
		return some(d.pick("MAIL FROM:<", "mail from:<", "MAIL TO:<") + d.pick("", d.transferKey(), "x@y") + ">" + d.pick("", "", "", " SIZE=9", " size=70", " SIZE=", "x"))
	case 7, 8, 9:
		return some("RCPT TO:<"+d.transferKey()+">", "RCPT TO:<x@"+c.Local+">")[:1+d.below(2)]
	case 10, 11, 12:
		return append(append(some(d.pick("DATA", "data", "DATA", "DATA ")), d.dataLines()...), ".")
	case 15, 16, 17, 18:
		mail := some("MAIL FROM:<>", "RCPT TO:<x@"+c.Local+">", "RCPT TO:<"+d.transferKey()+">", "DATA")
		return append(append(mail, d.dataLines()...), ".")
	case 13:
		return some(d.pick("RSET", "NOOP", "VRFY", "rset x", "noop ", "vrfy y"))
	case 14:
		return some(d.pick("", " ", "what", "HELP me", ".", xs(maxCommand), xs(maxCommand+1), "NOOP "+xs(maxCommand-5)))
	}
	return some(d.pick("QUIT", "NOOP", "NOOP", "RSET"))
}

func (d *dice) dataLines() []string {
	lines := some(d.pick("A: b", "A: b", "", "x", ".A: b"))
	for range d.below(6) {
		lines = append(lines, d.pick("", "..", ".x", "x", ". ", "QUIT", "a\rb", "\n", "..."))
	}
	return lines
}

func (d *dice) transferText(c impl.TransferConfig) string {
	var lines []string
	if d.below(4) > 0 {
		lines = some("EHLO b")
	}
	if len(c.Users) > 0 && d.below(2) == 0 {
		lines = append(lines, "AUTH SUM "+c.Users[0].Selector, impl.ChallengeAnswer(c.Users[0], c.Seed))
	}
	for range 5 + d.below(40) {
		lines = append(lines, d.transferLines(c, lines)...)
	}
	return sent(lines...) + d.pick("", "", "NOO", "\r")
}

// cutText is a text in so many chunks, some of them empty.
func (d *dice) cutText(text string, count int) []string {
	places := []int{0, len(text)}
	for range count - 1 {
		places = append(places, d.below(len(text)+1))
	}
	slices.Sort(places)
	var chunks []string
	for at := range count {
		chunks = append(chunks, text[places[at]:places[at+1]])
	}
	return chunks
}

func TestRunTransferOfAnyLines(t *testing.T) {
	d := &dice{state: 1701}
	seen := map[string]int{}
	for range 4000 {
		c := d.transferConfig()
		run := checkTransfer(t, "made up", c, d.cutText(d.transferText(c), 1+d.below(30))...)
		for _, line := range strings.Split(run.Told, "\r\n") {
			seen[line]++
		}
		for _, one := range run.Accepted {
			seen["mail of "+one.User]++
		}
	}
	for _, line := range some("221 bye", "235 welcome", "250 ok", "252 may be", "354 go on", "500 too long", "500 what", "501 no name", "501 no such way", "501 given up", "501 no address", "501 nothing behind it", "503 not now", "535 no", "550 not here", "552 too large", "554 no message", "mail of ", "mail of u", "mail of v") {
		if seen[line] < 20 {
			t.Errorf("%q came only %d times", line, seen[line])
		}
	}
}

// TestPromise25 has one session's bytes cut in all ways: what is told and accepted is the same.
func TestPromise25(t *testing.T) {
	d := &dice{state: 1702}
	for range 300 {
		c := d.transferConfig()
		text := d.transferText(c)
		whole := impl.RunTransfer(c, some(text))
		for _, count := range []int{1, 2, 2, 3, 5, 20, 100, 500, maxOps} {
			if run := impl.RunTransfer(c, d.cutText(text, count)); !sameRuns(run, whole) {
				t.Fatalf("in %d chunks: %s, in one: %s", count, shown(run), shown(whole))
			}
		}
		if run := impl.RunTransfer(c, inBytes(text)); !sameRuns(run, whole) {
			t.Fatalf("in bytes: %s, in one chunk: %s", shown(run), shown(whole))
		}
	}
}

// TestPromise25Long has sessions whose bytes are more than one chunk can have, some of them too long.
func TestPromise25Long(t *testing.T) {
	d := &dice{state: 1703}
	ended := map[bool]int{}
	for range 25 {
		c := changedTransfer(func(c *impl.TransferConfig) { c.MaxBytes = int64(1 + d.below(maxText)) })
		text := sent("HELO b")
		for range 2 + d.below(4) {
			size := maxText - 40 + d.below(50)
			if d.below(2) == 0 {
				size = d.below(maxText)
			}
			text += sent("MAIL FROM:<>", "RCPT TO:<x@a>", "DATA", "", d.text(size/10, some("0123456789", "......\r\n..", "01234567\r\n")), ".", d.pick("NOOP", xs(2000), xs(size)))
		}
		var first impl.TransferRun
		for at, count := range []int{1 + len(text)/maxText*3, 30, 200, maxOps} {
			chunks := d.cutText(text, count)
			for slices.ContainsFunc(chunks, func(chunk string) bool { return len(chunk) > maxText }) {
				count *= 2
				chunks = d.cutText(text, count)
			}
			run := impl.RunTransfer(c, chunks)
			if at == 0 {
				first = checkTransfer(t, "long", c, chunks...)
			}
			if !sameRuns(run, first) {
				t.Fatalf("in %d chunks: %s, in others: %s", count, shown(run), shown(first))
			}
		}
		ended[first.Ended]++
	}
	if ended[true] < 5 || ended[false] < 5 {
		t.Errorf("ended or not: %v", ended)
	}
}

func slowClient(name string, mails []impl.Accepted) string {
	if impl.DomainFault(name) != impl.OK || len(mails) == 0 || len(mails) > maxClientMails {
		return ""
	}
	out := "EHLO " + name + "\r\n"
	for _, mail := range mails {
		lines := strings.Split(mail.Message, "\r\n")
		last := len(lines) - 1
		right := (mail.From == "" || slowKey(mail.From)) && len(mail.To) > 0 && len(mail.To) <= maxRcpt && last > 0 && lines[last] == "" && mail.User == ""
		out += "MAIL FROM:<" + mail.From + ">\r\n"
		for _, to := range mail.To {
			right = right && slowKey(to)
			out += "RCPT TO:<" + to + ">\r\n"
		}
		for at, line := range lines {
			if line != "" && line[0] == '.' {
				lines[at] = "." + line
			}
		}
		lines[last] = "."
		out += "DATA\r\n" + strings.Join(lines, "\r\n") + "\r\n"
		if !right || len(out) > maxText {
			return ""
		}
	}
	out += "QUIT\r\n"
	if len(out) > maxText {
		return ""
	}
	return out
}

func checkClient(t *testing.T, what, name string, mails []impl.Accepted, right bool) string {
	t.Helper()
	got, want := impl.ClientText(name, mails), slowClient(name, mails)
	if got != want {
		t.Errorf("ClientText, %s: %s, want %s", what, differing(got, want), differing(want, got))
	}
	if right != (want != "") {
		t.Errorf("ClientText, %s: %s", what, short(want))
	}
	return got
}

func sending(from, message string, to ...string) impl.Accepted {
	return impl.Accepted{From: from, To: to, Message: message}
}

func TestClientText(t *testing.T) {
	mails := []impl.Accepted{sending("x@y", "A: b\r\n\r\n.\r\n..x\r\n\r\n", "a@b", "c d@e"), sending("", "\r\n", ">@f")}
	want := sent("EHLO n.o", "MAIL FROM:<x@y>", "RCPT TO:<a@b>", "RCPT TO:<c d@e>", "DATA", "A: b", "", "..", "...x", "", ".", "MAIL FROM:<>", "RCPT TO:<>@f>", "DATA", "", ".", "QUIT")
	wantText(t, "ClientText", "two mails", impl.ClientText("n.o", mails), want)
	for _, name := range some("b", "B", "b.c", "[1.2]", "[]", "[a b]", "é", xs(maxDomain), labels(maxDomain)) {
		checkClient(t, "name "+name, name, mails, true)
	}
	for _, name := range some("", " ", "b ", "b.", "[", "b\r\n", "b\r\nQUIT", "b@c", xs(maxDomain+1), xs(maxText), xs(maxText+1)) {
		checkClient(t, "name "+short(name), name, mails, false)
	}
	one := sending("x@y", "\r\n", "a@b")
	for count, right := range map[int]bool{0: false, 1: true, 2: true, maxClientMails - 1: true, maxClientMails: true, maxClientMails + 1: false} {
		checkClient(t, fmt.Sprint(count, " mails"), "n", slices.Repeat([]impl.Accepted{one}, count), right)
	}
	for count, right := range map[int]bool{0: false, 1: true, 2: true, maxRcpt - 1: true, maxRcpt: true, maxRcpt + 1: false, 5 * maxRcpt: false} {
		checkClient(t, fmt.Sprint(count, " To"), "n", []impl.Accepted{one, sending("x@y", "\r\n", slices.Repeat(some("a@b"), count)...)}, right)
		checkClient(t, fmt.Sprint(count, " other To"), "n", []impl.Accepted{sending("", "\r\n", people("p", 1, count)...), one}, right)
	}
	for _, ill := range illKeys {
		checkClient(t, "From "+short(ill), "n", []impl.Accepted{one, sending(ill, "\r\n", "a@b"), one}, ill == "")
		for at := range 3 {
			to := some("a@b", "c@d", "e@f")
			to[at] = ill
			checkClient(t, "To "+short(ill), "n", []impl.Accepted{one, sending("x@y", "\r\n", to...)}, false)
		}
	}
	for _, user := range some("u", " ", "\r\n", xs(maxText), xs(maxText+1)) {
		mail := one
		mail.User = user
		checkClient(t, "User "+short(user), "n", []impl.Accepted{mail}, false)
		checkClient(t, "last User "+short(user), "n", []impl.Accepted{one, mail}, false)
	}
}

func TestClientTextMessages(t *testing.T) {
	one := sending("x@y", "\r\n", "a@b")
	for _, message := range some("\r\n", "\r\n\r\n", "x\r\n", ".\r\n", "..\r\n", ".\r\n.\r\n.\r\n", "a\rb\nc\r\n", "\r\r\n", "\n\r\n", "\n.\r\n", "A: b\r\n\r\nc\r\n", allBytes+"\r\n", "QUIT\r\n.\r\nQUIT\r\n") {
		checkClient(t, short(message), "n", []impl.Accepted{sending("x@y", message, "a@b")}, true)
		checkClient(t, short(message), "n", []impl.Accepted{one, sending("", message, "a@b"), one}, true)
	}
	for _, message := range some("", "x", ".", "\r", "\n", "\n\r", "\r\n\r", "\r\n\n", "\r\n.", "A: b\r\n\r\nc", xs(maxText), xs(maxText+1)) {
		checkClient(t, short(message), "n", []impl.Accepted{sending("x@y", message, "a@b")}, false)
		checkClient(t, "last "+short(message), "n", []impl.Accepted{one, sending("x@y", message, "a@b")}, false)
	}
	empty := len(impl.ClientText("n", []impl.Accepted{sending("x@y", "\r\n", "a@b")}))
	for more, right := range map[int]bool{-1: true, 0: true, 1: false, 2: false, 100: false, maxText: false} {
		message := xs(maxText-empty+more) + "\r\n"
		text := checkClient(t, fmt.Sprint(more, " more than MaxText"), "n", []impl.Accepted{sending("x@y", message, "a@b")}, right)
		if right && len(text) != maxText+more {
			t.Errorf("%d bytes, want %d", len(text), maxText+more)
		}
		// Points that are put ahead of lines count, too.
		dots := "." + message[1:len(message)-3] + "\r\n"
		checkClient(t, fmt.Sprint(more, " more than MaxText with a point"), "n", []impl.Accepted{sending("x@y", dots, "a@b")}, right)
		checkClient(t, fmt.Sprint(more, " more than MaxText in several"), "n", []impl.Accepted{one, sending("x@y", message, "a@b")}, false)
	}
	half := sending("x@y", xs(maxText/2)+"\r\n", "a@b")
	checkClient(t, "two halves", "n", []impl.Accepted{half, half}, false)
	checkClient(t, "much too much", "n", slices.Repeat([]impl.Accepted{sending("x@y", xs(maxText-2)+"\r\n", "a@b")}, maxClientMails), false)
	checkClient(t, "a message of more than MaxText", "n", []impl.Accepted{sending("x@y", xs(maxText)+"\r\n", "a@b")}, false)
}

// TestPromise26 has what a client sends accepted as it is.
func TestPromise26(t *testing.T) {
	d := &dice{state: 1704}
	for round := range 600 {
		c := d.transferConfig()
		c.MaxBytes = int64(200 + d.below(3000))
		var mails []impl.Accepted
		for range 1 + d.below(6) {
			mails = append(mails, d.clientMail(c))
		}
		if round%20 == 0 {
			mails = slices.Repeat(mails[:1], maxClientMails)
		}
		text := impl.ClientText(d.pick("b", "[1.2]", "c.d"), mails)
		if text == "" {
			t.Fatalf("nothing is sent of %s", shown(mails))
		}
		run := impl.RunTransfer(c, d.cutText(text, 1+d.below(20)))
		if run.Code != impl.OK || !run.Ended || !slices.EqualFunc(run.Accepted, mails, sameAccepted) {
			t.Fatalf("sent %s, accepted %s", shown(mails), shown(run))
		}
		for _, reply := range impl.ReadReplies(run.Told).Replies {
			if reply.Code >= 400 {
				t.Fatalf("told %s", short(run.Told))
			}
		}
	}
}

// clientMail is one that a server takes: its own recipients, if it does not relay.
func (d *dice) clientMail(c impl.TransferConfig) impl.Accepted {
	mail := impl.Accepted{From: d.pick("", "x@y", "a>@b", "a> SIZE=9@b", "é@é", xs(maxLocal)+"@"+labels(maxDomain))}
	for range 1 + d.below(5) {
		domain := c.Local
		if c.Relay {
			domain = d.pick("a", "d.e", "é", labels(maxDomain))
		}
		mail.To = append(mail.To, d.pick("x", "X y", ">", "@", "<é>", ".", xs(maxLocal))+"@"+domain)
	}
	mail.Message = d.text(d.below(4), some("A: b\r\n", ".B: c\r\n", "C: d\r\n e\r\n", "..: .\r\n")) + "\r\n"
	mail.Message += d.text(d.below(12), some(".\r\n", "..\r\n", "x", "\r\n", "\n", "\r", "QUIT\r\n", ".x", "\x00\xff"))
	if !strings.HasSuffix(mail.Message, "\r\n") {
		mail.Message += "\r\n"
	}
	return mail
}

func TestPromise26Great(t *testing.T) {
	c := changedTransfer(func(c *impl.TransferConfig) { c.MaxBytes, c.Relay = maxText, true })
	empty := len(impl.ClientText("n", []impl.Accepted{sending("x@y", "\r\n", "a@b")}))
	great := sending("x@y", "\r\n"+xs(maxText-empty-2)+"\r\n", "a@b")
	many := sending("", "\r\n", people("p", 1, maxRcpt)...)
	exact := sending("x@y", "\r\n"+xs(196)+"\r\n", "a@b")
	for _, mails := range [][]impl.Accepted{{great}, {many, many}, slices.Repeat([]impl.Accepted{exact}, maxClientMails)} {
		text := impl.ClientText("n", mails)
		run := impl.RunTransfer(c, some(text))
		if text == "" || !run.Ended || !slices.EqualFunc(run.Accepted, mails, sameAccepted) {
			t.Errorf("sent %s, accepted %s", shown(mails), shown(run))
		}
	}
	// Just as many bytes as the server takes, and one fewer.
	for most, count := range map[int64]int{int64(len(exact.Message)): 1, int64(len(exact.Message)) - 1: 0} {
		c.MaxBytes = most
		if run := impl.RunTransfer(c, some(impl.ClientText("n", []impl.Accepted{exact}))); len(run.Accepted) != count || !run.Ended {
			t.Errorf("MaxBytes %d: %s", most, shown(run))
		}
	}
}

func sameReplies(a, b impl.ReplyList) bool {
	return a.Good == b.Good && slices.EqualFunc(a.Replies, b.Replies, func(a, b impl.Reply) bool {
		return a.Code == b.Code && slices.Equal(a.Lines, b.Lines)
	})
}

func checkReplies(t *testing.T, text string, want impl.ReplyList) {
	t.Helper()
	if got := impl.ReadReplies(text); !sameReplies(got, want) {
		t.Errorf("ReadReplies of %s: %s, want %s", short(text), shown(got), shown(want))
	}
	if slow := slowReplies(text); !sameReplies(slow, want) {
		t.Errorf("the test's own replies of %s: %s, want %s", short(text), shown(slow), shown(want))
	}
}

// As bytes, each as the letter of its number; a line's text goes on where no line end is.
var replyForm = regexp.MustCompile(`(?s)\A([2-5][0-9][0-9])([- ])(.*)\z`)

func slowReplies(text string) impl.ReplyList {
	lines := strings.Split(latinRunes(text), "\r\n")
	if len(text) > maxText || lines[len(lines)-1] != "" {
		return impl.ReplyList{}
	}
	list := impl.ReplyList{Good: true}
	open := ""
	for _, line := range lines[:len(lines)-1] {
		found := replyForm.FindStringSubmatch(line)
		if found == nil || open != "" && open != found[1] {
			return impl.ReplyList{}
		}
		code, _ := strconv.ParseInt(found[1], 10, 64)
		if open == "" {
			list.Replies = append(list.Replies, impl.Reply{Code: code})
		}
		last := &list.Replies[len(list.Replies)-1]
		last.Lines = append(last.Lines, latinBytes(found[3]))
		open = ""
		if found[2] == "-" {
			open = found[1]
		}
	}
	if open != "" {
		return impl.ReplyList{}
	}
	return list
}

func replied(replies ...impl.Reply) impl.ReplyList {
	return impl.ReplyList{Good: true, Replies: replies}
}

func reply(code int64, lines ...string) impl.Reply { return impl.Reply{Code: code, Lines: lines} }

func TestReadReplies(t *testing.T) {
	checkReplies(t, "", replied())
	for _, c := range []struct {
		text string
		want impl.ReplyList
	}{
		{"250 ok\r\n", replied(reply(250, "ok"))},
		{"250 \r\n", replied(reply(250, ""))},
		{"250-\r\n250 \r\n", replied(reply(250, "", ""))},
		{"250-a\r\n250-b\r\n250 c\r\n", replied(reply(250, "a", "b", "c"))},
		{"220 a\r\n250-a\r\n250 b\r\n354 go on\r\n", replied(reply(220, "a"), reply(250, "a", "b"), reply(354, "go on"))},
		{"250 a\r\n250 a\r\n", replied(reply(250, "a"), reply(250, "a"))},
		{"250-a\r\n250 b\r\n250-c\r\n250 d\r\n", replied(reply(250, "a", "b"), reply(250, "c", "d"))},
		{"250  a \r\n", replied(reply(250, " a "))},
		{"250 -\r\n250 -x\r\n", replied(reply(250, "-"), reply(250, "-x"))},
		{"250-- 251\r\n250  \r\n", replied(reply(250, "- 251", " "))},
		{"250 a\rb\nc\n\r\r\n", replied(reply(250, "a\rb\nc\n\r"))},
		{"250 \n\r\n", replied(reply(250, "\n"))},
		{"250 \r\r\n", replied(reply(250, "\r"))},
		{"200 x\r\n299 y\r\n500 z\r\n599 w\r\n", replied(reply(200, "x"), reply(299, "y"), reply(500, "z"), reply(599, "w"))},
		{"250 \x00\xff\xe9\r\n", replied(reply(250, "\x00\xff\xe9"))},
	} {
		checkReplies(t, c.text, c.want)
	}
	for _, ill := range some(
		"\r\n", "\r", "\n", "2", "25", "250", "250 ", "250 a", "250\r\n", "25\r\n", "2\r\n", "250a\r\n", "250\ta\r\n", "250_a\r\n", "250+a\r\n", "250\r\n a\r\n", "25 a\r\n", "2500 a\r\n", " 250 a\r\n", "-250 a\r\n", "+25 a\r\n", "2-5 a\r\n", "25x a\r\n", "x50 a\r\n", "2x0 a\r\n", "２50 a\r\n",
		"250 a\r", "250 a\n", "250 a\r\n\r\n", "250 a\r\n\r", "250 a\r\n\n", "\r\n250 a\r\n", "250 a\r\n250", "250 a\r\n250 b", "250-a\r\n", "250-a\r\n250-b\r\n", "250-\r\n", "250-a\r\n251 b\r\n", "250-a\r\n250-b\r\n550 c\r\n", "250-a\r\n350-b\r\n250 c\r\n", "250 a\r\n250-b\r\n", "250-a\r\nb\r\n250 c\r\n", "250-a\r\n\r\n250 c\r\n", "250-a\r\n250 b",
	) {
		checkReplies(t, ill, impl.ReplyList{})
	}
	for _, first := range []byte(allBytes) {
		text := string([]byte{first, '5', '0'})
		want := impl.ReplyList{}
		if first >= '2' && first <= '5' {
			want = replied(reply(int64(first-'0')*100+50, "a", "b"))
		}
		checkReplies(t, text+"-a\r\n"+text+" b\r\n", want)
	}
	for _, sign := range []byte(allBytes) {
		want := impl.ReplyList{}
		if sign == ' ' {
			want = replied(reply(250, "a"))
		}
		checkReplies(t, "250"+string([]byte{sign})+"a\r\n", want)
	}
	for code := range 1000 {
		text := fmt.Sprintf("%03d", code)
		want := impl.ReplyList{}
		if code >= 200 && code < 600 {
			want = replied(reply(int64(code), "x"))
		}
		checkReplies(t, text+" x\r\n", want)
	}
}

func TestReadRepliesSizes(t *testing.T) {
	text := "250 " + xs(maxText-6) + "\r\n"
	checkReplies(t, text, replied(reply(250, xs(maxText-6))))
	checkReplies(t, "250 "+xs(maxText-5)+"\r\n", impl.ReplyList{})
	checkReplies(t, strings.Repeat("250 ok\r\n", maxText/8), replied(slices.Repeat([]impl.Reply{reply(250, "ok")}, maxText/8)...))
	checkReplies(t, strings.Repeat("250 ok\r\n", maxText/8+1), impl.ReplyList{})
	checkReplies(t, strings.Repeat("250-k\r\n", maxText/7-1)+"250 k\r\n", replied(reply(250, slices.Repeat(some("k"), maxText/7)...)))
	checkReplies(t, strings.Repeat("250-k\r\n", maxText/7), impl.ReplyList{})
	checkReplies(t, xs(maxText+1), impl.ReplyList{})
}

func TestReadRepliesOfAllSigns(t *testing.T) {
	right := 0
	eachSequence(some("250", "35", "1", " ", "-", "\r\n", "\r", "\n"), 7, func(text string) {
		want := slowReplies(text)
		checkReplies(t, text, want)
		if want.Good {
			right++
		}
	})
	if right < 1000 {
		t.Errorf("only %d texts were replies", right)
	}
}

// TestRepliesOfAnySession has all that a server tells read, line by line.
func TestRepliesOfAnySession(t *testing.T) {
	d := &dice{state: 1705}
	for range 500 {
		c := d.transferConfig()
		text := d.transferText(c)
		told := impl.RunTransfer(c, some(text)).Told
		list := impl.ReadReplies(told)
		lines := 0
		for _, one := range list.Replies {
			lines += len(one.Lines)
		}
		if !list.Good || !sameReplies(list, slowReplies(told)) || lines != strings.Count(told, "\r\n") {
			t.Fatalf("ReadReplies of %s: %s", short(told), shown(list))
		}
	}
}

func roomyTransfer(c impl.TransferConfig) impl.TransferConfig {
	c.Local = strings.Clone(c.Local)
	users := slices.Clone(c.Users)
	for at := range users {
		users[at].Domain, users[at].Selector = strings.Clone(users[at].Domain), strings.Clone(users[at].Selector)
	}
	c.Users = append(users, userKey("room", 1, 1), userKey("room", 1, 1))[:len(users)]
	return c
}

func roomyMails(mails []impl.Accepted) []impl.Accepted {
	var out []impl.Accepted
	for _, mail := range mails {
		out = append(out, impl.Accepted{From: strings.Clone(mail.From), To: roomyTexts(mail.To), Message: strings.Clone(mail.Message)})
	}
	return append(out, sending("room", "room"), sending("room", "room"))[:len(mails)]
}

func mailSpans(mails []impl.Accepted) (lists, texts []span) {
	lists = append(lists, spanOf(mails))
	for _, mail := range mails {
		lists = append(lists, spanOf(mail.To))
		texts = append(texts, textSpan(mail.From), textSpan(mail.User), textSpan(mail.Message))
		for _, to := range mail.To {
			texts = append(texts, textSpan(to))
		}
	}
	return lists, texts
}

// transferSpans are those of what is handed in.
func transferSpans(c impl.TransferConfig, chunks []string) (lists, texts []span) {
	lists = append(lists, spanOf(c.Users), spanOf(chunks))
	texts = append(texts, textSpan(c.Local))
	for _, key := range c.Users {
		texts = append(texts, textSpan(key.Domain), textSpan(key.Selector))
	}
	for _, chunk := range chunks {
		texts = append(texts, textSpan(chunk))
	}
	return lists, texts
}

// TestTransfersShareNothing has answers with memory of their own, and arguments that stay as they are.
func TestTransfersShareNothing(t *testing.T) {
	d := &dice{state: 1706}
	mails := 0
	for range 400 {
		c := roomyTransfer(d.transferConfig())
		chunks := roomyTexts(d.cutText(d.transferText(c), 1+d.below(4)))
		seen := func() string {
			return fmt.Sprint(c, c.Users[:len(c.Users)+2], chunks[:len(chunks)+2])
		}
		before := seen()
		run := impl.RunTransfer(c, chunks)
		mails += len(run.Accepted)
		givenLists, givenTexts := transferSpans(c, chunks)
		lists, texts := mailSpans(run.Accepted)
		texts = append(texts, textSpan(run.Told))
		wantEachApart(t, "lists", lists)
		wantApartFrom(t, "lists", lists, givenLists)
		wantApartFrom(t, "texts", distinctTexts(texts), givenTexts)
		impl.TransferFault(c)
		if before != seen() {
			t.Fatal("an argument has changed")
		}
	}
	if mails < 100 {
		t.Errorf("only %d mails were accepted", mails)
	}
	for range 50 {
		c := relaying()
		mails := roomyMails([]impl.Accepted{d.clientMail(c), d.clientMail(c)})
		seen := func() string {
			return fmt.Sprint(mails[:4], mails[0].To[:len(mails[0].To)+2], mails[1].To[:len(mails[1].To)+2])
		}
		before := seen()
		text := impl.ClientText("n", mails)
		if text == "" || before != seen() {
			t.Fatal("an argument has changed")
		}
	}
	told := strings.Clone("250-first\r\n250 second\r\n354 third\r\n")
	list := impl.ReadReplies(told)
	wantOwnMemory(t, "ReadReplies", told, list.Replies[0].Lines[0], list.Replies[0].Lines[1], list.Replies[1].Lines[0])
	wantEachApart(t, "lists", []span{spanOf(list.Replies), spanOf(list.Replies[0].Lines), spanOf(list.Replies[1].Lines)})
}

// wantQuiet has no more goroutines than there were; they may take a moment to be gone.
func wantQuiet(t *testing.T, before int) {
	t.Helper()
	for range 1000 {
		if runtime.NumGoroutine() <= before {
			return
		}
		time.Sleep(time.Millisecond)
	}
	t.Errorf("%d goroutines, there were %d", runtime.NumGoroutine(), before)
}

func TestTransfersLeaveNothingRunning(t *testing.T) {
	before := runtime.NumGoroutine()
	c := plainTransfer()
	for range 50 {
		for _, chunks := range [][]string{nil, {""}, {"NOOP\r\n"}, {"QUIT\r\n"}, {"QUIT\r\n", "NOOP\r\n"}, {upToData}, {xs(maxText), "x"}, {xs(maxText + 1)}, make([]string, maxOps+1)} {
			impl.RunTransfer(c, chunks)
		}
		impl.RunTransfer(impl.TransferConfig{}, some("NOOP\r\n"))
	}
	wantQuiet(t, before)
}

// TestTransfersAgain has the same answer each time, also of several calls at one time.
func TestTransfersAgain(t *testing.T) {
	d := &dice{state: 1707}
	for range 30 {
		c := d.transferConfig()
		chunks := d.cutText(d.transferText(c), 10)
		first := shownWhole(impl.RunTransfer(c, chunks))
		answers := make(chan string)
		for range 5 {
			go func() { answers <- shownWhole(impl.RunTransfer(c, chunks)) }()
		}
		for range 5 {
			if again := <-answers; again != first {
				t.Errorf("one time %s, another %s", short(first), short(again))
			}
		}
	}
}

// TestRunTransferGreat has sessions as great as can be.
func TestRunTransferGreat(t *testing.T) {
	c := changedTransfer(func(c *impl.TransferConfig) { c.MaxBytes = maxText })
	mail := sent("MAIL FROM:<>", "RCPT TO:<x@a>", "DATA", ".")
	chunk := sent("HELO b") + strings.Repeat(mail, 2500)
	run := impl.RunTransfer(c, slices.Repeat(some(chunk), 100))
	if len(run.Accepted) != 250000 || run.Ended {
		t.Errorf("%d small mails", len(run.Accepted))
	}
	// A mail that comes in as many chunks as can be.
	slow := append(some(upToData), slices.Repeat(some("\r\n.............................................."), maxOps-2)...)
	run = impl.RunTransfer(c, append(slow, "\r\n.\r\n"))
	if len(run.Accepted) != 1 || len(run.Accepted[0].Message) != 47*(maxOps-2)+2 {
		t.Errorf("a mail in many chunks: %s", shown(run))
	}
	asks := sent("HELO b") + strings.Repeat("AUTH SUM u\r\n\r\n", 7000)
	run = impl.RunTransfer(c, slices.Repeat(some(asks), 20))
	if want := fmt.Sprintf("334 %d\r\n535 no\r\n", 7+20*7000-1); !strings.HasSuffix(run.Told, want) {
		t.Errorf("many challenges: %s", differing(run.Told, want))
	}
}
