package tests

import (
	"fmt"
	"runtime"
	"slices"
	"strings"
	"testing"

	"loop.example/g00013/impl"
)

func TestWorldConstants(t *testing.T) {
	wantNumbers(t, "kinds", "", ids(impl.WoSend, impl.WoHang, impl.WoRead, impl.WoPass, impl.WoHost, impl.WoSync, impl.WoCrash), ids(1, 2, 3, 4, 5, 6, 7))
}

// fileFilter files, flags and redirects; knownFilter does what the subject says.
const (
	fileFilter  = `fileinto "f"; addflag "k"; redirect "ann@a";`
	knownFilter = `if header :matches "subject" "file *" { fileinto "${1}"; }
elsif header :matches "subject" "two * *" { fileinto "${1}"; fileinto "${2}"; }
elsif header :matches "subject" "keep *" { fileinto "${1}"; keep; }
elsif header :matches "subject" "send *" { redirect "${1}"; }
elsif header :matches "subject" "copy *" { redirect "${1}"; keep; }
elsif header :is "subject" "reject" { reject "no"; }
elsif header :is "subject" "drop" { discard; }
elsif header :matches "subject" "flag *" { addflag "${1}"; keep; }`
)

// plainWorld has a user without a filter, some with one, and one that is ReadOnly; it relays.
func plainWorld() impl.WorldConfig {
	return impl.WorldConfig{
		Transfer: impl.TransferConfig{Local: "a", Relay: true, MaxBytes: 5000, Users: []impl.SignKey{userKey("u", 2, 3)}, Seed: 7},
		Queue:    impl.QueueConfig{Local: "a", Aliases: []impl.Alias{alias("l@a", "ann@a", "x@b"), alias("o@a", "o@a")}, Delays: []int64{10}, MaxAge: 20},
		Users: []impl.WorldUser{
			{Name: "ann", Password: "p"},
			{Name: "ro", Password: "p", ReadOnly: true},
			{Name: "bob", Password: "q+}[]", Filter: fileFilter},
			{Name: "eve", Password: "p", Filter: `reject "no";`},
			{Name: "kim", Password: "p", Filter: knownFilter},
			{Name: "x@y", Password: "p", Filter: `fileinto "xy";`},
		},
		Table: impl.ScoreTable{Good: 10, Bad: 10, Words: []impl.WordCount{{Word: "lunch", Good: 9}, {Word: "pills", Bad: 9}}},
	}
}

func changedWorld(change func(c *impl.WorldConfig)) impl.WorldConfig {
	c := plainWorld()
	change(&c)
	return c
}

// filtering is plainWorld with kim's filter changed.
func filtering(filter string) impl.WorldConfig {
	return changedWorld(func(c *impl.WorldConfig) { c.Users[4].Filter = filter })
}

func slowWorldFault(c impl.WorldConfig) int64 {
	right := slowTransferFault(c.Transfer) == impl.OK && slowQueueFault(c.Queue) == impl.OK && c.Transfer.Local == c.Queue.Local
	right = right && slowTableFault(c.Table) == impl.OK && within(c.Percent, 100)
	names := map[string]int{}
	for _, user := range c.Users {
		names[user.Name]++
		right = right && !strings.ContainsAny(user.Name, "ABCDEFGHIJKLMNOPQRSTUVWXYZ") && impl.ReadFilter(user.Filter).Code == impl.OK
	}
	return keyCode(right && len(names) == len(c.Users) && slowAccessFault(worldVisitors(c)) == impl.OK)
}

func worldVisitors(c impl.WorldConfig) []impl.AccessUser {
	var users []impl.AccessUser
	for _, user := range c.Users {
		users = append(users, impl.AccessUser{Name: user.Name, Password: user.Password, ReadOnly: user.ReadOnly})
	}
	return users
}

func checkWorldFault(t *testing.T, what string, right bool, change func(c *impl.WorldConfig)) {
	t.Helper()
	c := changedWorld(change)
	want := keyCode(right)
	if slow := slowWorldFault(c); slow != want {
		t.Fatalf("%s: the slow one says %d", what, slow)
	}
	if got := impl.WorldFault(c); got != want {
		t.Errorf("WorldFault, %s: %d, want %d", what, got, want)
	}
	if ops := impl.FileInto(c, impl.Local{To: "ann@a", Message: "m"}); (len(ops) > 0) != right {
		t.Errorf("FileInto, %s: %d operations", what, len(ops))
	}
	for _, ops := range [][]impl.WorldOp{nil, {reading(0, "")}, {reading(0, xs(maxText+1))}, make([]impl.WorldOp, maxOps+1)} {
		run := impl.RunWorld(c, ops)
		if (run.Code == impl.ErrForm) == right {
			t.Errorf("RunWorld, %s, %d operations: code %d", what, len(ops), run.Code)
		}
		if !right && !sameWorlds(run, impl.WorldRun{Code: impl.ErrForm}) {
			t.Errorf("RunWorld, %s, %d operations: %s", what, len(ops), shown(run))
		}
	}
}

func TestWorldFault(t *testing.T) {
	user := func(change func(u *impl.WorldUser)) func(*impl.WorldConfig) {
		return func(c *impl.WorldConfig) { change(&c.Users[2]) }
	}
	filter := func(text string) func(*impl.WorldConfig) { return user(func(u *impl.WorldUser) { u.Filter = text }) }
	for _, one := range []struct {
		what   string
		right  bool
		change func(c *impl.WorldConfig)
	}{
		{"plain", true, func(*impl.WorldConfig) {}},
		{"no users", true, func(c *impl.WorldConfig) { c.Users = nil }},
		{"no table", true, func(c *impl.WorldConfig) { c.Table = impl.ScoreTable{} }},
		{"the zero value", false, func(c *impl.WorldConfig) { *c = impl.WorldConfig{} }},
		{"MaxBytes 0", false, func(c *impl.WorldConfig) { c.Transfer.MaxBytes = 0 }},
		{"MaxBytes MaxText", true, func(c *impl.WorldConfig) { c.Transfer.MaxBytes = maxText }},
		{"a seed below 0", false, func(c *impl.WorldConfig) { c.Transfer.Seed = -1 }},
		{"a key of nothing", false, func(c *impl.WorldConfig) { c.Transfer.Users = make([]impl.SignKey, 1) }},
		{"no delays", false, func(c *impl.WorldConfig) { c.Queue.Delays = nil }},
		{"an age below 0", false, func(c *impl.WorldConfig) { c.Queue.MaxAge = -1 }},
		{"an alias of nothing", false, func(c *impl.WorldConfig) { c.Queue.Aliases = make([]impl.Alias, 1) }},
		{"other Locals", false, func(c *impl.WorldConfig) { c.Queue.Local = "b" }},
		{"other Locals, too", false, func(c *impl.WorldConfig) { c.Transfer.Local = "a.b" }},
		{"one other Local", true, func(c *impl.WorldConfig) { c.Transfer.Local, c.Queue.Local = "c.d", "c.d" }},
		{"Locals with a capital letter", false, func(c *impl.WorldConfig) { c.Transfer.Local, c.Queue.Local = "A", "A" }},
		{"Locals with a bracket", false, func(c *impl.WorldConfig) { c.Transfer.Local, c.Queue.Local = "[a]", "[a]" }},
		{"no Locals", false, func(c *impl.WorldConfig) { c.Transfer.Local, c.Queue.Local = "", "" }},
		{"no name", false, user(func(u *impl.WorldUser) { u.Name = "" })},
		{"no password", false, user(func(u *impl.WorldUser) { u.Password = "" })},
		{"a name of 40 bytes", true, user(func(u *impl.WorldUser) { u.Name = xs(40) })},
		{"a name of 41 bytes", false, user(func(u *impl.WorldUser) { u.Name = xs(41) })},
		{"a name with a space", false, user(func(u *impl.WorldUser) { u.Name = "a b" })},
		{"a password with quotes", false, user(func(u *impl.WorldUser) { u.Password = `"` })},
		{"a name with A", false, user(func(u *impl.WorldUser) { u.Name = "bobA" })},
		{"a name with Z", false, user(func(u *impl.WorldUser) { u.Name = "Zed" })},
		{"a name with signs beside A and Z", true, user(func(u *impl.WorldUser) { u.Name = "@[`~" })},
		{"a password with A-Z", true, user(func(u *impl.WorldUser) { u.Password = "AZ" })},
		{"two of one name", false, user(func(u *impl.WorldUser) { u.Name = "ann" })},
		{"two of one name, the last", false, user(func(u *impl.WorldUser) { u.Name = "x@y" })},
		{"two of one password", true, user(func(u *impl.WorldUser) { u.Password = "p" })},
		{"all names alike", false, func(c *impl.WorldConfig) { c.Users = slices.Repeat(c.Users[:1], 2) }},
		{"20 users", true, func(c *impl.WorldConfig) { c.Users = manyUsers(20, "") }},
		{"21 users", false, func(c *impl.WorldConfig) { c.Users = manyUsers(21, "") }},
		{"an empty filter", true, filter("")},
		{"a comment for a filter", true, filter("# nothing")},
		{"an ill filter", false, filter("keep")},
		{"an unknown command", false, filter("delete;")},
		{"a filter of MaxScript bytes", true, filter("keep;" + strings.Repeat(" ", 9995))},
		{"a filter of one byte more", false, filter("keep;" + strings.Repeat(" ", 9996))},
		{"a filter that is too long", false, filter("#" + xs(maxText))},
		{"a filter with too many nodes", false, filter(strings.Repeat("stop;", 2000))},
		{"as many nodes as can be", true, filter(strings.Repeat("stop;", 1999))},
		{"an ill filter of the last user", false, func(c *impl.WorldConfig) { c.Users[5].Filter = "x" }},
		{"an ill table", false, func(c *impl.WorldConfig) { c.Table.Good = 8 }},
		{"a table below 0", false, func(c *impl.WorldConfig) { c.Table = impl.ScoreTable{Bad: -1} }},
		{"Percent -1", false, func(c *impl.WorldConfig) { c.Percent = -1 }},
		{"Percent 0", true, func(c *impl.WorldConfig) { c.Percent = 0 }},
		{"Percent 1", true, func(c *impl.WorldConfig) { c.Percent = 1 }},
		{"Percent 100", true, func(c *impl.WorldConfig) { c.Percent = 100 }},
		{"Percent 101", false, func(c *impl.WorldConfig) { c.Percent = 101 }},
		{"Percent of the least number", false, func(c *impl.WorldConfig) { c.Percent = -1 << 63 }},
	} {
		checkWorldFault(t, one.what, one.right, one.change)
	}
}

func manyUsers(count int, filter string) []impl.WorldUser {
	var users []impl.WorldUser
	for at := range count {
		users = append(users, impl.WorldUser{Name: fmt.Sprint("u", at), Password: "p", Filter: filter})
	}
	return users
}

func slowUser(c impl.WorldConfig, to string) *impl.WorldUser {
	for at, user := range c.Users {
		if user.Name == to[:strings.LastIndex(to, "@")] {
			return &c.Users[at]
		}
	}
	return nil
}

func slowWishes(c impl.WorldConfig, item impl.Local) impl.FilterAnswer {
	user := slowUser(c, item.To)
	if user == nil {
		return impl.FilterAnswer{Keep: true}
	}
	return impl.RunFilter(impl.ReadFilter(user.Filter).Nodes, impl.FilterEnv{From: item.From, To: item.To, Message: item.Message})
}

func slowFileInto(c impl.WorldConfig, item impl.Local) []impl.StoreOp {
	if slowWorldFault(c) != impl.OK || !slowKey(item.To) || len(item.Message) > maxText || len(item.From) > maxText {
		return nil
	}
	wishes := slowWishes(c, item)
	var flags, boxes []string
	for _, flag := range wishes.Flags {
		if impl.FlagFault(flag) == impl.OK && len(flags) < maxFlags {
			flags = append(flags, flag)
		}
	}
	for _, action := range wishes.Actions {
		if action.Kind == impl.FlFile && impl.BoxNameFault(action.Text) == impl.OK {
			boxes = append(boxes, action.Text)
		}
	}
	bad := c.Percent > 0 && impl.IsBad(impl.ScoreOf(c.Table, item.Message), c.Percent)
	if wishes.Keep && bad {
		boxes = append(boxes, "Junk")
	}
	var ops []impl.StoreOp
	for _, box := range boxes {
		ops = append(ops, impl.StoreOp{Kind: impl.StCreate, Box: box}, impl.StoreOp{Kind: impl.StAppend, Box: box, Flags: flags, Message: item.Message})
	}
	if wishes.Keep && !bad {
		ops = append(ops, impl.StoreOp{Kind: impl.StAppend, Box: "INBOX", Flags: flags, Message: item.Message})
	}
	return ops
}

// checkIntoBoxes holds FileInto against the slow one, and against boxes (with `+` those that are made), each with the flags.
func checkIntoBoxes(t *testing.T, what string, c impl.WorldConfig, item impl.Local, flags []string, boxes ...string) {
	t.Helper()
	var want []impl.StoreOp
	for _, box := range boxes {
		name, made := strings.CutPrefix(box, "+")
		if made {
			want = append(want, impl.StoreOp{Kind: impl.StCreate, Box: name})
		}
		want = append(want, impl.StoreOp{Kind: impl.StAppend, Box: name, Flags: flags, Message: item.Message})
	}
	if slow := slowFileInto(c, item); !slices.EqualFunc(slow, want, sameOps) {
		t.Fatalf("%s: the slow one says %s, want %s", what, shown(slow), shown(want))
	}
	if got := impl.FileInto(c, item); !slices.EqualFunc(got, want, sameOps) {
		t.Errorf("FileInto, %s: %s, want %s", what, shown(got), shown(want))
	}
}

func forKim(message string) impl.Local {
	return impl.Local{Item: 3, To: "kim@a", From: "x@b", Message: message}
}

func TestFileInto(t *testing.T) {
	mail := "Subject: s\r\n\r\nlunch"
	to := func(key string) impl.Local { return impl.Local{To: key, Message: mail} }
	for _, one := range []struct {
		to    string
		boxes []string
	}{
		{"ann@a", some("INBOX")},
		{"zed@a", some("INBOX")},
		{"Ann@a", some("INBOX")},
		{"bob@a", some("+f")},
		{"bob@elsewhere", some("+f")},
		{"Bob@a", some("INBOX")},
		{"bob@b@a", some("INBOX")},
		{"x@y@a", some("+xy")},
		{"x@a", some("INBOX")},
		{"y@x@y@a", some("INBOX")},
		{"eve@a", nil},
		{"", nil}, {"x", nil}, {"bob", nil}, {"@a", nil}, {"bob@", nil}, {"bob@A", nil}, {"bob@[a]", nil}, {xs(65) + "@a", nil}, {xs(64) + "@a", some("INBOX")}, {xs(maxText + 1), nil},
	} {
		var flags []string
		if strings.HasPrefix(one.to, "bob@") && one.boxes != nil && one.boxes[0] == "+f" {
			flags = some("k")
		}
		checkIntoBoxes(t, one.to, plainWorld(), to(one.to), flags, one.boxes...)
	}
	for _, one := range []struct {
		filter string
		boxes  []string
	}{
		{``, some("INBOX")},
		{`keep;`, some("INBOX")},
		{`stop; discard;`, some("INBOX")},
		{`discard;`, nil},
		{`discard; keep;`, some("INBOX")},
		{`redirect "ann@a";`, nil},
		{`redirect "ann@a"; keep;`, some("INBOX")},
		{`reject "x";`, nil},
		{`fileinto "g";`, some("+g")},
		{`fileinto "g"; keep;`, some("+g", "INBOX")},
		{`keep; fileinto "g";`, some("+g", "INBOX")},
		{`fileinto "g"; fileinto "g";`, some("+g")},
		{`fileinto "h"; fileinto "g/1"; reject "x"; fileinto "i";`, some("+h", "+g/1", "+i")},
		{`fileinto "";`, nil},
		{`fileinto "a b";`, nil},
		{`fileinto "/g"; keep;`, some("INBOX")},
		{`fileinto "g//h"; fileinto "g";`, some("+g")},
		{`fileinto "` + xs(60) + `"; fileinto "` + xs(61) + `";`, some("+" + xs(60))},
		{`fileinto "INBOX";`, some("+INBOX")},
		{`fileinto "INBOX"; keep;`, some("+INBOX", "INBOX")},
		{`fileinto "Junk";`, some("+Junk")},
		{`fileinto "inbox"; fileinto "INBOX"; fileinto "Junk"; keep;`, some("+inbox", "+INBOX", "+Junk", "INBOX")},
		{`repeat 100 { repeat 100 { keep; } } fileinto "g";`, some("INBOX")},
		{`if envelope :is "from" "x@b" { fileinto "from"; }`, some("+from")},
		{`if envelope :is "to" "kim@a" { fileinto "to"; }`, some("+to")},
		{`if header :is "subject" "s" { fileinto "subject"; }`, some("+subject")},
	} {
		checkIntoBoxes(t, one.filter, filtering(one.filter), forKim(mail), nil, one.boxes...)
	}
}

func TestFileIntoFlags(t *testing.T) {
	flags := func(names ...string) string {
		out := ""
		for _, name := range names {
			out += `addflag "` + strings.ReplaceAll(name, `\`, `\\`) + `"; `
		}
		return out
	}
	for _, one := range []struct {
		what string
		all  []string
		want []string
	}{
		{"none", nil, nil},
		{"one", some("x"), some("x")},
		{"as they came", some("z", `\Seen`, "b", "a"), some("z", `\Seen`, "b", "a")},
		{"one twice", some("x", "y", "x"), some("x", "y")},
		{"ill ones", some("", "a b", `\Foo`, `\seen`, "é", xs(31), "a"), some("a")},
		{"ill ones alone", some("*", "("), nil},
		{"as many as can be", manyFlags(0, maxFlags), manyFlags(0, maxFlags)},
		{"one more", manyFlags(0, maxFlags+1), manyFlags(0, maxFlags)},
		{"ill ones among many", append(some("*", ""), manyFlags(0, maxFlags+5)...), manyFlags(0, maxFlags)},
		{"ill ones behind", append(manyFlags(0, maxFlags-1), "*", "x", "y"), append(manyFlags(0, maxFlags-1), "x")},
		{"as many as filters tell", manyFlags(0, 32), manyFlags(0, maxFlags)},
	} {
		checkIntoBoxes(t, one.what, filtering(flags(one.all...)), forKim("m"), one.want, "INBOX")
		checkIntoBoxes(t, one.what, filtering(flags(one.all...)+`fileinto "g"; fileinto "h"; keep;`), forKim("m"), one.want, "+g", "+h", "INBOX")
	}
}

func TestFileIntoScores(t *testing.T) {
	good, none, bad := "Subject: lunch\r\n\r\n", "Subject: other\r\n\r\n", "Subject: pills\r\n\r\n"
	for _, one := range []struct {
		percent int64
		mail    string
		junk    bool
	}{
		{0, good, false}, {0, none, false}, {0, bad, false},
		{1, good, true}, {2, good, false}, {1, none, true}, {50, none, true}, {51, none, false}, {99, none, false}, {50, good, false},
		{50, bad, true}, {99, bad, true}, {100, bad, false},
	} {
		what := fmt.Sprint(one.percent, one.mail)
		kept := some("INBOX")
		if one.junk {
			kept = some("+Junk")
		}
		with := func(filter string) impl.WorldConfig {
			c := filtering(filter)
			c.Percent = one.percent
			return c
		}
		item := forKim(one.mail)
		checkIntoBoxes(t, what, with(""), item, nil, kept...)
		checkIntoBoxes(t, what, with(`addflag "x";`), item, some("x"), kept...)
		checkIntoBoxes(t, what, with("discard;"), item, nil)
		checkIntoBoxes(t, what, with(`fileinto "g";`), item, nil, "+g")
		checkIntoBoxes(t, what, with(`fileinto "Junk"; keep;`), item, nil, append(some("+Junk"), kept...)...)
		checkIntoBoxes(t, what, with(`fileinto "INBOX"; keep;`), item, nil, append(some("+INBOX"), kept...)...)
		checkIntoBoxes(t, what, with(`keep;`), impl.Local{To: "nobody@a", Message: one.mail}, nil, kept...)
	}
	empty := changedWorld(func(c *impl.WorldConfig) { c.Table, c.Percent = impl.ScoreTable{}, 50 })
	checkIntoBoxes(t, "an empty table", empty, forKim(bad), nil, "+Junk")
}

func TestFileIntoSizes(t *testing.T) {
	for _, to := range some("ann@a", "zed@a", "bob@a") {
		item := impl.Local{To: to, Message: xs(maxText)}
		if ops := impl.FileInto(plainWorld(), item); len(ops) == 0 || ops[len(ops)-1].Message != item.Message {
			t.Errorf("%s: %d operations of a message of MaxText bytes", to, len(ops))
		}
		item.Message += "x"
		if ops := impl.FileInto(plainWorld(), item); len(ops) != 0 {
			t.Errorf("%s: %d operations of a message of one byte more", to, len(ops))
		}
	}
	// A filter is asked only where there is a user, and refuses an envelope of more than 1000 bytes.
	from := func(to string, size int) impl.Local { return impl.Local{To: to, From: xs(size), Message: "m"} }
	checkIntoBoxes(t, "From of 1000 bytes", plainWorld(), from("ann@a", 1000), nil, "INBOX")
	checkIntoBoxes(t, "From of 1001 bytes", plainWorld(), from("ann@a", 1001), nil)
	checkIntoBoxes(t, "From of 1001 bytes, no user", plainWorld(), from("zed@a", 1001), nil, "INBOX")
	checkIntoBoxes(t, "From of MaxText bytes, no user", plainWorld(), from("zed@a", maxText), nil, "INBOX")
	checkIntoBoxes(t, "From that is too long, no user", plainWorld(), from("zed@a", maxText+1), nil)
	checkIntoBoxes(t, "no message", plainWorld(), impl.Local{To: "zed@a"}, nil, "INBOX")
	checkIntoBoxes(t, "no message for a user", plainWorld(), impl.Local{To: "bob@a"}, some("k"), "+f")
}

// slowWorld joins the slow ones.
type slowWorld struct {
	c      impl.WorldConfig
	queue  slowQueue
	disk   slowDisk
	access slowAccess
	// All chunks of the transfer session, and what came of them.
	chunks   []string
	transfer impl.TransferRun
	told     [maxSessions]string
	// How many items more may come of the mail or item that is at hand.
	left int64
}

func slowRunWorld(c impl.WorldConfig, ops []impl.WorldOp) impl.WorldRun {
	if slowWorldFault(c) != impl.OK {
		return impl.WorldRun{Code: impl.ErrForm}
	}
	if len(ops) > maxOps {
		return impl.WorldRun{Code: impl.ErrCount}
	}
	for _, op := range ops {
		if len(op.Data) > maxText {
			return impl.WorldRun{Code: impl.ErrSize}
		}
	}
	w := &slowWorld{c: c}
	w.queue = slowQueue{config: c.Queue, here: w.here, left: &w.left}
	w.disk.open()
	w.newAccess()
	var run impl.WorldRun
	for _, op := range ops {
		run.Outs = append(run.Outs, w.do(op))
	}
	w.newAccess()
	run.Store, run.Disk, run.Boxes, run.Told = w.disk.store, w.disk.Disk, w.queue.boxes, w.told[:]
	return run
}

func (w *slowWorld) newAccess() {
	for at := range w.told {
		w.told[at] += w.access.sessions[at].told.String()
	}
	w.access = slowAccess{users: worldVisitors(w.c), change: w.byHand}
}

func (w *slowWorld) newTransfer() { w.chunks, w.transfer = nil, impl.TransferRun{} }

func (w *slowWorld) do(op impl.WorldOp) impl.WorldOut {
	var out impl.WorldOut
	w.queue.events = nil
	switch op.Kind {
	case impl.WoSend:
		out.Told = w.send(op.Data)
	case impl.WoHang:
		w.newTransfer()
	case impl.WoRead:
		if op.Session < 0 || op.Session > maxSessions-1 {
			out.Code = impl.ErrForm
			break
		}
		w.access.now, w.access.store = w.queue.time, w.disk.store
		w.access.event(coming(op.Session, op.Data))
	case impl.WoPass:
		out.Code = w.queue.do(passing(op.Wait)).Code
	case impl.WoHost:
		out.Code = w.queue.do(hostSays(op.Host, op.Answer)).Code
	case impl.WoSync:
		w.disk.do(impl.DiskOp{Kind: impl.DkSync})
	case impl.WoCrash:
		w.disk.do(crashing(op.Keep, op.Turn))
		w.newTransfer()
		w.newAccess()
	default:
		out.Code = impl.ErrForm
	}
	out.Events, out.Held = w.queue.events, w.queue.held()
	return out
}

func (w *slowWorld) send(data string) string {
	before := w.transfer
	w.chunks = append(w.chunks, data)
	w.transfer = slowRunTransfer(w.c.Transfer, w.chunks...)
	for _, mail := range w.transfer.Accepted[len(before.Accepted):] {
		w.left = maxItems
		field := "Checked: none\r\n"
		if impl.Aligned(mail.Message, impl.CheckSigns(mail.Message, w.c.Transfer.Users), false) {
			field = "Checked: aligned\r\n"
		}
		if len(field)+len(mail.Message) > maxText {
			field = ""
		}
		message := field + mail.Message
		if code, _ := w.queue.submit(submitting(mail.From, mail.To, message)); code != impl.OK && mail.From != "" {
			w.queue.submit(submitting("", some(mail.From), slowBounce("a", mail.To[0], message)))
		}
	}
	return w.transfer.Told[len(before.Told):]
}

func (w *slowWorld) here(item impl.Local) bool {
	well := w.filed(item)
	w.disk.do(impl.DiskOp{Kind: impl.DkSync})
	if !well {
		return false
	}
	wishes := slowWishes(w.c, item)
	for _, action := range wishes.Actions {
		if action.Kind == impl.FlRedirect && slowKey(action.Text) {
			w.queue.submit(submitting("", some(action.Text), item.Message))
			break
		}
	}
	for _, action := range wishes.Actions {
		if action.Kind == impl.FlReject && item.From != "" {
			w.queue.submit(submitting("", some(item.From), slowBounce("a", item.To, item.Message)))
			break
		}
	}
	w.disk.do(impl.DiskOp{Kind: impl.DkSync})
	return true
}

func (w *slowWorld) filed(item impl.Local) bool {
	for _, op := range slowFileInto(w.c, item) {
		op.Time = w.queue.time
		if w.change(op).Code != impl.OK && op.Kind == impl.StAppend {
			return false
		}
	}
	return true
}

func (w *slowWorld) change(op impl.StoreOp) impl.StoreOut {
	after, out := slowOp(w.disk.store, op)
	if out.Code != impl.OK {
		return out
	}
	frame := slowFrame(slowEncode(op))
	if frame == "" || len(w.disk.Data)+len(frame) > maxDisk || w.disk.held == maxOps {
		return impl.StoreOut{Code: impl.ErrFull}
	}
	w.disk.store, w.disk.Data, w.disk.held = after, w.disk.Data+frame, w.disk.held+1
	return out
}

func (w *slowWorld) byHand(op impl.StoreOp) impl.StoreOut {
	out := w.change(op)
	w.access.store = w.disk.store
	return out
}

func sameWorldOut(a, b impl.WorldOut) bool {
	return a.Code == b.Code && a.Told == b.Told && a.Held == b.Held && slices.Equal(a.Events, b.Events)
}

func sameWorlds(a, b impl.WorldRun) bool {
	return a.Code == b.Code && slices.EqualFunc(a.Outs, b.Outs, sameWorldOut) && sameStores(a.Store, b.Store) && a.Disk == b.Disk &&
		slices.Equal(a.Boxes, b.Boxes) && slices.Equal(a.Told, b.Told)
}

// checkWorld holds a run against the slow one, and its store against its disk.
func checkWorld(t *testing.T, what string, c impl.WorldConfig, ops ...impl.WorldOp) impl.WorldRun {
	t.Helper()
	got, want := impl.RunWorld(c, ops), slowRunWorld(c, ops)
	if got.Code != want.Code || len(got.Outs) != len(want.Outs) || len(got.Told) != len(want.Told) {
		t.Fatalf("RunWorld, %s: code %d, %d outs, %d told, want %d, %d, %d", what, got.Code, len(got.Outs), len(got.Told), want.Code, len(want.Outs), len(want.Told))
	}
	for at, out := range got.Outs {
		if !sameWorldOut(out, want.Outs[at]) {
			t.Fatalf("RunWorld, %s, operation %d, %s: %s, want %s", what, at, shown(ops[at]), shown(out), shown(want.Outs[at]))
		}
	}
	for at := range got.Told {
		if got.Told[at] != want.Told[at] {
			t.Fatalf("RunWorld, %s: session %d told %s, want %s", what, at, differing(got.Told[at], want.Told[at]), differing(want.Told[at], got.Told[at]))
		}
	}
	if !slices.Equal(got.Boxes, want.Boxes) {
		t.Fatalf("RunWorld, %s: boxes %s, want %s", what, shown(got.Boxes), shown(want.Boxes))
	}
	if !sameStores(got.Store, want.Store) {
		t.Fatalf("RunWorld, %s: the store is %s, want %s", what, shown(got.Store), shown(want.Store))
	}
	if got.Disk != want.Disk {
		t.Fatalf("RunWorld, %s: the disk is %s, want %s", what, shown(got.Disk), shown(want.Disk))
	}
	if got.Code == impl.OK {
		checkWorldStore(t, what, got)
	}
	return got
}

// checkWorldStore is promise 30.
func checkWorldStore(t *testing.T, what string, run impl.WorldRun) {
	t.Helper()
	if !sameStores(run.Store, impl.OpenLog(run.Disk.Data)) || impl.ReadLog(run.Disk.Data).End != int64(len(run.Disk.Data)) {
		t.Fatalf("%s: the store is %s, that of the log %s", what, shown(run.Store), shown(impl.OpenLog(run.Disk.Data)))
	}
	if impl.StoreFault(run.Store) != impl.OK || slowStoreFault(run.Store) != impl.OK || !within(run.Disk.Synced, int64(len(run.Disk.Data))) {
		t.Fatalf("%s: the store or the disk is not right: %s, %s", what, shown(run.Store), shown(run.Disk))
	}
}

func handing(data string) impl.WorldOp { return impl.WorldOp{Kind: impl.WoSend, Data: data} }

func reading(session int64, data string) impl.WorldOp {
	return impl.WorldOp{Kind: impl.WoRead, Session: session, Data: data}
}

// speaking are a client's lines to an access session.
func speaking(session int64, lines ...string) impl.WorldOp { return reading(session, sent(lines...)) }

func waiting(wait int64) impl.WorldOp { return impl.WorldOp{Kind: impl.WoPass, Wait: wait} }

func hosting(host string, answer int64) impl.WorldOp {
	return impl.WorldOp{Kind: impl.WoHost, Host: host, Answer: answer}
}

func falling(keep, turn int64) impl.WorldOp {
	return impl.WorldOp{Kind: impl.WoCrash, Keep: keep, Turn: turn}
}

var (
	hanging = impl.WorldOp{Kind: impl.WoHang}
	writing = impl.WorldOp{Kind: impl.WoSync}
)

// mailLines are what a client says to send one mail, behind its name.
func mailLines(from, subject string, to ...string) []string {
	lines := some("MAIL FROM:<" + from + ">")
	for _, one := range to {
		lines = append(lines, "RCPT TO:<"+one+">")
	}
	return append(lines, "DATA", "Subject: "+subject, "", "t", ".")
}

// oneMail is a whole session, from its name to its end, and a new one behind it.
func oneMail(from, subject string, to ...string) []impl.WorldOp {
	return []impl.WorldOp{handing(sent(append(some("HELO b"), mailLines(from, subject, to...)...)...)), hanging}
}

func allOps(parts ...[]impl.WorldOp) []impl.WorldOp { return slices.Concat(parts...) }

// sentMail is what a mail of mailLines is when it is in the queue.
func sentMail(subject string) string {
	return "Received: by a; Thu, 01 Jan 1970 00:00:00 +0000\r\nChecked: none\r\nSubject: " + subject + "\r\n\r\nt\r\n"
}

// worldTimes has all events in few signs, see timeline.
func worldTimes(run impl.WorldRun) string {
	var queue impl.QueueRun
	for _, out := range run.Outs {
		queue.Outs = append(queue.Outs, impl.QueueOut{Events: out.Events})
	}
	return timeline(queue)
}

// filedIn has all mails in few signs: for each box its name, `:`, and the subject of each mail, with its flags and its time.
func filedIn(s impl.Store) string {
	var out []string
	for _, box := range s.Boxes {
		var mails []string
		for _, mail := range box.Mails {
			subject := ""
			for _, value := range impl.FindField(impl.ReadHead(mail.Message).Fields, "Subject") {
				subject += strings.TrimSpace(value)
			}
			mails = append(mails, fmt.Sprint(subject, strings.Join(append(some(""), mail.Flags...), "+"), "@", mail.Time))
		}
		out = append(out, box.Name+": "+strings.Join(mails, ", "))
	}
	return strings.Join(out, "; ")
}

// wantWorld wants what came to pass, what is in the store, and which items are in the boxes.
func wantWorld(t *testing.T, what string, run impl.WorldRun, times, filed string, boxes ...int64) {
	t.Helper()
	wantText(t, "what came to pass", what, worldTimes(run), times)
	wantText(t, "what is filed", what, filedIn(run.Store), filed)
	var items []int64
	for _, one := range run.Boxes {
		items = append(items, one.Item)
	}
	wantNumbers(t, "the boxes", what, items, boxes)
}

func worldCodes(run impl.WorldRun) []int64 {
	var codes []int64
	for _, out := range run.Outs {
		codes = append(codes, out.Code)
	}
	return codes
}

func TestRunWorldCodes(t *testing.T) {
	c := plainWorld()
	for kind := int64(-1); kind <= 9; kind++ {
		long, most := impl.WorldOp{Kind: kind, Data: xs(maxText + 1)}, impl.WorldOp{Kind: kind, Data: xs(maxText)}
		for _, ops := range [][]impl.WorldOp{{long}, {most, long}, {long, most}} {
			if run := checkWorld(t, "too long", c, ops...); run.Code != impl.ErrSize || !sameWorlds(run, impl.WorldRun{Code: impl.ErrSize}) {
				t.Errorf("kind %d, too long: %s", kind, shown(run))
			}
		}
		if run := checkWorld(t, "MaxText bytes", c, most); run.Code != impl.OK || len(run.Outs) != 1 {
			t.Errorf("kind %d, MaxText bytes: %s", kind, shown(run))
		}
	}
	most := make([]impl.WorldOp, maxOps)
	if run := checkWorld(t, "MaxOps", c, most...); run.Code != impl.OK || len(run.Outs) != maxOps {
		t.Errorf("MaxOps operations: %d", run.Code)
	}
	more := append(most, handing(xs(maxText+1)))
	if run := checkWorld(t, "more", c, more...); !sameWorlds(run, impl.WorldRun{Code: impl.ErrCount}) {
		t.Errorf("more operations: %d", run.Code)
	}
}

func TestRunWorldNothing(t *testing.T) {
	for _, c := range []impl.WorldConfig{plainWorld(), changedWorld(func(c *impl.WorldConfig) { c.Users = nil })} {
		run := checkWorld(t, "nothing", c)
		if len(run.Outs) != 0 || !sameStores(run.Store, impl.StoreStart()) || run.Disk != (impl.Disk{}) || len(run.Boxes) != 0 || !slices.Equal(run.Told, make([]string, maxSessions)) {
			t.Errorf("nothing: %s", shown(run))
		}
	}
}

func TestRunWorldKinds(t *testing.T) {
	var ops []impl.WorldOp
	for _, kind := range ids(-1<<63, -1, 0, 8, 9, 256, 1<<62) {
		ops = append(ops, impl.WorldOp{Kind: kind, Data: sent("HELO b"), Session: 1, Wait: 5, Host: "b", Answer: 1, Keep: 1, Turn: 1})
	}
	// An item that waits is held behind each of them.
	ops = allOps([]impl.WorldOp{hosting("b", impl.HostLater)}, oneMail("ann@a", "s", "x@b"), ops)
	run := checkWorld(t, "no kinds", plainWorld(), ops...)
	for at, out := range run.Outs[3:] {
		if !sameWorldOut(out, impl.WorldOut{Code: impl.ErrForm, Held: 1}) {
			t.Errorf("kind %d: %s", ops[at+3].Kind, shown(out))
		}
	}
	wantText(t, "what came to pass", "no kinds", worldTimes(run), "L1@0")
	// What an operation does not name plays no part.
	filled := impl.WorldOp{Session: 99, Data: "b NOOP\r\n", Wait: -1, Host: "", Answer: 7, Keep: -1, Turn: 300}
	for _, one := range []struct {
		kind   int64
		change func(op *impl.WorldOp)
		told   string
	}{
		{impl.WoSend, func(op *impl.WorldOp) { op.Data = sent("NOOP") }, sent("220 a", "250 ok")},
		{impl.WoHang, func(op *impl.WorldOp) {}, ""},
		{impl.WoRead, func(op *impl.WorldOp) { op.Session = 2 }, ""},
		{impl.WoPass, func(op *impl.WorldOp) { op.Wait = 0 }, ""},
		{impl.WoHost, func(op *impl.WorldOp) { op.Host, op.Answer = "h", 0 }, ""},
		{impl.WoSync, func(op *impl.WorldOp) {}, ""},
		{impl.WoCrash, func(op *impl.WorldOp) {}, ""},
	} {
		op := filled
		op.Kind = one.kind
		one.change(&op)
		run := checkWorld(t, "filled", plainWorld(), op)
		if !sameWorldOut(run.Outs[0], impl.WorldOut{Told: one.told}) {
			t.Errorf("kind %d: %s", one.kind, shown(run.Outs[0]))
		}
		if said := run.Told[2] != ""; said != (one.kind == impl.WoRead) {
			t.Errorf("kind %d: told %q", one.kind, run.Told)
		}
	}
}

func TestRunWorldGreeting(t *testing.T) {
	ops := []impl.WorldOp{speaking(0, "a NOOP"), handing(""), handing(""), handing("NO"), handing("OP\r\nHELO b\r\n"), hanging, hanging, handing("QUIT\r\n"), handing("NOOP\r\n"), handing(""), hanging, handing("NOOP\r\n"), falling(0, 0), handing(""), handing("HELO b\r\n")}
	run := checkWorld(t, "greetings", plainWorld(), ops...)
	for at, want := range some("", "220 a\r\n", "", "", "250 ok\r\n250 a\r\n", "", "", "220 a\r\n221 bye\r\n", "", "", "", "220 a\r\n250 ok\r\n", "", "220 a\r\n", "250 a\r\n") {
		wantText(t, "told", fmt.Sprint("operation ", at), run.Outs[at].Told, want)
	}
	wantText(t, "the session", "greetings", run.Told[0], "a OK\r\n")
}

// TestRunWorldParted has one client's bytes in chunks of all sizes: what is told and filed is the same.
func TestRunWorldParted(t *testing.T) {
	text := sent(slices.Concat(some("EHLO b"), mailLines("x@b", "one", "ann@a", "kim@a"), mailLines("", "file g", "kim@a"), mailLines("x@b", "three", "bob@a", "eve@a"), some("QUIT"))...)
	whole := checkWorld(t, "in one", plainWorld(), handing(text))
	wantWorld(t, "in one", whole, "D1@0 D2@0 D3@0 D6@0 D4@0 D7>b@0 D5@0", "INBOX: one@0, one@0, three@0; f: three+k@0; g: file g@0", 1, 2, 3, 6, 4, 5)
	d := &dice{state: 1905}
	for _, count := range []int{2, 2, 3, 5, 10, 30, len(text), 700} {
		chunks := d.cutText(text, count)
		if count == len(text) {
			chunks = inBytes(text)
		}
		var ops []impl.WorldOp
		for _, chunk := range chunks {
			ops = append(ops, handing(chunk))
		}
		run := checkWorld(t, "parted", plainWorld(), ops...)
		told := ""
		var events []impl.QueueEvent
		for _, out := range run.Outs {
			told += out.Told
			events = append(events, out.Events...)
		}
		if told != whole.Outs[0].Told || !slices.Equal(events, whole.Outs[0].Events) || !sameStores(run.Store, whole.Store) || !slices.Equal(run.Boxes, whole.Boxes) || run.Disk != whole.Disk {
			t.Errorf("in %d chunks: %s, want %s", count, shown(run), shown(whole))
		}
	}
}

func TestRunWorldMails(t *testing.T) {
	ops := oneMail("x@b", "s", "ann@a")
	run := checkWorld(t, "one mail", plainWorld(), ops...)
	wantWorld(t, "one mail", run, "D1@0", "INBOX: s@0", 1)
	if want := (impl.Local{Item: 1, To: "ann@a", From: "x@b", Message: sentMail("s")}); run.Boxes[0] != want || run.Store.Boxes[0].Mails[0].Message != want.Message {
		t.Errorf("one mail: %s, want %s", shown(run.Boxes[0]), shown(want))
	}
	wantText(t, "told", "one mail", run.Outs[0].Told, sent("220 a", "250 a", "250 ok", "250 ok", "354 go on", "250 ok"))
	// At another time, with aliases, to several, here and elsewhere.
	ops = allOps([]impl.WorldOp{waiting(86400)}, oneMail("x@b", "s", "l@a", "ann@a", "y@c", "zed@a"))
	run = checkWorld(t, "several", plainWorld(), ops...)
	wantWorld(t, "several", run, "D1@86400 D2>b@86400 D3>c@86400 D4@86400", "INBOX: s@86400, s@86400", 1, 4)
	if message := run.Store.Boxes[0].Mails[1].Message; !strings.HasPrefix(message, "Received: by a; Fri, 02 Jan 1970 00:00:00 +0000\r\nChecked: none\r\n") {
		t.Errorf("several: %s", short(message))
	}
	// A mail that the transfer session refuses is none.
	refused := handing(sent("HELO b", "MAIL FROM:<>", "RCPT TO:<ann@a>", "DATA", "no head", ".", "DATA", "RCPT TO:<ann@a>", "QUIT"))
	run = checkWorld(t, "refused", plainWorld(), refused)
	wantWorld(t, "refused", run, "", "INBOX: ")
	strict := changedWorld(func(c *impl.WorldConfig) { c.Transfer.Relay = false })
	run = checkWorld(t, "no relay", strict, oneMail("x@b", "s", "x@b")...)
	wantWorld(t, "no relay", run, "", "INBOX: ")
}

func TestRunWorldChecked(t *testing.T) {
	key := userKey("u", 2, 3)
	sign := func(from string, key impl.SignKey) string {
		return impl.Sign("From: "+from+"\r\nSubject: s\r\n\r\nt\r\n", impl.Signer{Key: key, Names: some("From", "Subject")})
	}
	for _, one := range []struct {
		what    string
		message string
		value   string
	}{
		{"signed", sign("x@a.example", key), " aligned"},
		{"signed for a domain within", sign("x@sub.A.example", key), " aligned"},
		{"signed for another domain", sign("x@b.example", key), " none"},
		{"signed for one that ends so", sign("x@ba.example", key), " none"},
		{"signed by another key", sign("x@a.example", userKey("u", 2, 4)), " none"},
		{"signed by an unknown key", sign("x@a.example", userKey("v", 2, 3)), " none"},
		{"signed and changed", sign("x@a.example", key) + "more\r\n", " none"},
		{"not signed", "From: x@a.example\r\n\r\nt\r\n", " none"},
		{"checked already", "Checked: aligned\r\n\r\nt\r\n", " none"},
		{"without fields", "\r\nt\r\n", " none"},
	} {
		ops := []impl.WorldOp{handing(impl.ClientText("b", []impl.Accepted{{From: "x@b", To: some("ann@a"), Message: one.message}}))}
		run := checkWorld(t, one.what, plainWorld(), ops...)
		if len(run.Boxes) != 1 {
			t.Fatalf("%s: %s", one.what, shown(run))
		}
		wantText(t, "the mail", one.what, run.Boxes[0].Message, "Received: by a; Thu, 01 Jan 1970 00:00:00 +0000\r\nChecked:"+one.value+"\r\n"+one.message)
	}
}

// greatMail is a session that sends a mail of so many bytes, in two chunks.
func greatMail(from, to string, size int) []impl.WorldOp {
	mail := "Subject: great\r\n\r\n"
	for len(mail) < size-100 {
		mail += strings.Repeat("0123456789abcde\r\n", 1+(size-100-len(mail))/1700)
	}
	mail += sent(xs(size - len(mail) - 2))
	text := sent("HELO b", "MAIL FROM:<"+from+">", "RCPT TO:<"+to+">", "DATA") + mail + sent(".", "QUIT")
	half := len(text) / 2
	return []impl.WorldOp{handing(text[:half]), handing(text[half:]), hanging}
}

// TestRunWorldNoRoomForFields has mails to which a field cannot be added, or only one.
func TestRunWorldNoRoomForFields(t *testing.T) {
	c := changedWorld(func(c *impl.WorldConfig) { c.Transfer.MaxBytes = maxText })
	received, checked := len("Received: by a; Thu, 01 Jan 1970 00:00:00 +0000\r\n"), len("Checked: none\r\n")
	for _, one := range []struct {
		size  int
		fits  bool
		shows string
	}{
		{maxText - received - checked, true, ""},
		{maxText - received - checked + 1, false, "Checked: none\r\nSubject: great"},
		{maxText - checked, false, "Checked: none\r\nSubject: great"},
		{maxText - checked + 1, false, "Subject: great"},
		{maxText - 3, false, "Subject: great"},
	} {
		what := fmt.Sprint(one.size, " bytes")
		run := checkWorld(t, what, c, greatMail("kim@a", "ann@a", one.size)...)
		if !strings.HasSuffix(run.Outs[1].Told, "250 ok\r\n221 bye\r\n") || len(run.Boxes) != 1 {
			t.Fatalf("%s: told %s, %d boxes", what, short(run.Outs[1].Told), len(run.Boxes))
		}
		box := run.Boxes[0]
		if one.fits {
			if box.To != "ann@a" || len(box.Message) != maxText {
				t.Errorf("%s: %s", what, shown(box))
			}
			continue
		}
		if box.To != "kim@a" || box.From != "" || !strings.Contains(box.Message, "Subject: Undelivered\r\n\r\n"+one.shows+"\r\n") {
			t.Errorf("%s: %s", what, short(box.Message))
		}
		nobody := checkWorld(t, what, c, greatMail("", "ann@a", one.size)...)
		wantWorld(t, what+" from nobody", nobody, "", "INBOX: ")
	}
}

// withHead is a session that sends a mail with these lines for its head.
func withHead(from string, to []string, head ...string) impl.WorldOp {
	lines := some("HELO b", "MAIL FROM:<"+from+">")
	for _, one := range to {
		lines = append(lines, "RCPT TO:<"+one+">")
	}
	lines = append(append(append(lines, "DATA"), head...), "", "t", ".")
	return handing(sent(lines...))
}

// TestRunWorldRefused has mails that the queue refuses: who sent them hears of it, if there is one.
func TestRunWorldRefused(t *testing.T) {
	hops := func(count int) []string { return slices.Repeat(some("Received: x"), count) }
	fields := func(count int) []string { return slices.Repeat(some("A: b"), count) }
	c := changedWorld(func(c *impl.WorldConfig) {
		c.Transfer.MaxBytes = maxText
		c.Queue.Aliases = append(c.Queue.Aliases, hundreds("p", maxExpand+1)...)
	})
	for _, one := range []struct {
		what    string
		head    []string
		to      []string
		refused bool
	}{
		{"as many hops as can be", hops(24), some("ann@a"), false},
		{"one hop more", hops(25), some("ann@a"), true},
		{"as many fields as can be", fields(199), some("ann@a"), false},
		{"one field more", fields(200), some("ann@a"), true},
		{"an alias that goes round", some("A: b"), some("o@a"), true},
		{"an alias that goes round behind another", some("A: b"), some("ann@a", "o@a"), true},
		{"too many", some("A: b"), some("p@a"), true},
		{"several", hops(25), some("y@c", "ann@a", "x@b"), true},
	} {
		for _, from := range some("", "zed@a", "x@b", "l@a", "o@a") {
			run := checkWorld(t, one.what, c, withHead(from, one.to, one.head...))
			wantText(t, "told", one.what, run.Outs[0].Told[len(run.Outs[0].Told)-8:], "250 ok\r\n")
			times := map[string]string{"": "", "zed@a": "D1@0", "x@b": "D1>b@0", "l@a": "D1@0 D2>b@0", "o@a": ""}[from]
			if !one.refused {
				times = "D1@0"
			}
			wantText(t, "what came to pass", one.what+" from "+from, worldTimes(run), times)
			if one.refused && from == "zed@a" {
				message := "Checked: none\r\n" + sent(one.head...) + "\r\nt\r\n"
				wantText(t, "the bounce", one.what, run.Boxes[0].Message, "Received: by a; Thu, 01 Jan 1970 00:00:00 +0000\r\n"+impl.Bounce("a", one.to[0], message))
				if run.Boxes[0].From != "" {
					t.Errorf("%s: the bounce is from %s", one.what, run.Boxes[0].From)
				}
			}
		}
	}
}

func TestRunWorldHang(t *testing.T) {
	mail := mailLines("x@b", "s", "ann@a")
	hello := some("HELO b")
	answer := impl.ChallengeAnswer(userKey("u", 2, 3), 7)
	for at := range mail {
		begun, rest := sent(slices.Concat(hello, mail[:at])...), sent(mail[at:]...)
		run := checkWorld(t, "in the midst of a mail", plainWorld(), handing(begun), hanging, handing(rest), hanging, handing(sent(hello...)+sent(mail...)))
		for _, reply := range strings.Split(strings.TrimSuffix(run.Outs[2].Told, "\r\n"), "\r\n")[1:] {
			if reply != "503 not now" && reply != "500 what" {
				t.Errorf("a new session is told %q", reply)
			}
		}
		wantWorld(t, "in the midst of a mail", run, "D1@0", "INBOX: s@0", 1)
	}
	// A line that is not whole is forgotten, and the seed is that of the configuration.
	run := checkWorld(t, "a line and a seed", plainWorld(), handing("HELO b\r\nAUTH SUM u\r\n*\r\nAUTH SUM u\r\nNO"), hanging, handing("OP\r\nHELO b\r\nAUTH SUM u\r\n"+answer+"\r\n"), hanging, handing("HELO b\r\nAUTH SUM u\r\n"))
	wantText(t, "told", "first", run.Outs[0].Told, sent("220 a", "250 a", "334 7", "501 given up", "334 8"))
	wantText(t, "told", "second", run.Outs[2].Told, sent("220 a", "500 what", "250 a", "334 7", "235 welcome"))
	wantText(t, "told", "third", run.Outs[4].Told, sent("220 a", "250 a", "334 7"))
}

func TestRunWorldRead(t *testing.T) {
	for _, session := range ids(-1<<63, -1, 0, 1, maxSessions-1, maxSessions, 1<<62) {
		run := checkWorld(t, "sessions", plainWorld(), speaking(session, "a LOGIN ann p", "b CREATE g"))
		there := within(session, maxSessions-1)
		if (run.Outs[0].Code == impl.OK) != there || !there && run.Outs[0].Code != impl.ErrForm || (len(run.Store.Boxes) == 2) != there {
			t.Errorf("session %d: %s", session, shown(run))
		}
		for at, told := range run.Told {
			if heard := int64(at) == session; (told == "a OK\r\nb OK\r\n") != heard || !heard && told != "" {
				t.Errorf("session %d: %d was told %q", session, at, told)
			}
		}
	}
	// The time of what is appended is that of the queue.
	run := checkWorld(t, "times", plainWorld(), speaking(0, "a LOGIN ann p", `b APPEND INBOX (x) "1"`), waiting(50), speaking(0, `c APPEND INBOX () "2"`), waiting(maxTime-50), speaking(0, `d APPEND INBOX () "3"`), speaking(1, "a LOGIN ro p", `b APPEND INBOX () "4"`))
	wantText(t, "what is filed", "times", filedIn(run.Store), fmt.Sprint("INBOX: +x@0, @50, @", maxTime))
	wantText(t, "told", "times", run.Told[0]+run.Told[1], sent("a OK", "b OK", "c OK", "d OK", "a OK", "b NO 10"))
	for at, out := range run.Outs {
		if !sameWorldOut(out, impl.WorldOut{}) {
			t.Errorf("operation %d: %s", at, shown(out))
		}
	}
}

// TestRunWorldSeen has sessions that look at what is delivered.
func TestRunWorldSeen(t *testing.T) {
	ops := allOps(
		[]impl.WorldOp{speaking(0, "a LOGIN ann p", "b SELECT INBOX"), speaking(1, "a LOGIN ann p", "b SELECT INBOX", "c IDLE")},
		oneMail("x@b", "one", "ann@a"),
		[]impl.WorldOp{speaking(0, "c NOOP", "d FETCH 1 (SIZE BODY[TEXT])")},
		oneMail("x@b", "flag z", "kim@a"),
		[]impl.WorldOp{speaking(0, "e STORE 1 +FLAGS (\\Deleted)", "f EXPUNGE"), speaking(1, "DONE")},
		oneMail("x@b", "three", "kim@a"),
		[]impl.WorldOp{speaking(1, "d SEARCH SUBJECT three", "e STATUS INBOX")},
	)
	run := checkWorld(t, "seen", plainWorld(), ops...)
	wantText(t, "told", "the one that asks", run.Told[0], sent("a OK", "* BOX INBOX 1 1 0", "b OK", "* NEW 1 ()", "c OK", "* FETCH 1 (SIZE 83 BODY[TEXT] {3}", "t", ")", "d OK", `* CHANGED 1 (\Deleted)`, "* NEW 2 (z)", "e OK", "* GONE 1", "f OK"))
	wantText(t, "told", "the one that idles", run.Told[1], sent("a OK", "* BOX INBOX 1 1 0", "b OK", "+ idling", "* NEW 1 ()", "* GONE 1", "* NEW 2 (z)", "c OK", "* SEARCH 3", "* NEW 3 ()", "d OK", "* STATUS INBOX (2 4 1 2 5)", "e OK"))
}

func TestRunWorldPassAndHost(t *testing.T) {
	ops := allOps([]impl.WorldOp{
		hosting("b", impl.HostLater), hosting("b", 3), hosting("b", -1), hosting("", impl.HostLater), hosting("[b]", 0), hosting("a b", 0), hosting(xs(maxText+1), 0), hosting("B", impl.HostNever),
		waiting(-1), waiting(maxTime + 1), waiting(0), waiting(5),
	}, oneMail("ann@a", "s", "x@b"), []impl.WorldOp{waiting(maxTime - 4), waiting(9), waiting(1), hosting("b", impl.HostNever), waiting(10), waiting(-1), waiting(maxTime - 25), waiting(1), waiting(0)})
	run := checkWorld(t, "codes", plainWorld(), ops...)
	wantNumbers(t, "the codes", "", worldCodes(run), ids(0, 1, 1, 1, 1, 1, 1, 0, 1, 1, 0, 0, 0, 0, 1, 0, 0, 0, 0, 1, 0, 1, 0))
	wantWorld(t, "codes", run, "L1@5 L1@15 B1>b@25 D2@25", "INBOX: Undelivered@25", 2)
	for at, held := range ids(0, 0, 0, 0, 0, 0, 0, 0, 0, 0, 0, 0, 1, 1, 1, 1, 1, 1, 0, 0, 0, 0, 0) {
		if run.Outs[at].Held != held {
			t.Errorf("behind operation %d %d are held, want %d", at, run.Outs[at].Held, held)
		}
	}
	var many []impl.WorldOp
	for at := range maxHosts + 1 {
		many = append(many, hosting(fmt.Sprint("h", at), impl.HostNever))
	}
	many = append(many, hosting("h0", impl.HostTakes))
	run = checkWorld(t, "hosts", plainWorld(), many...)
	wantNumbers(t, "the codes", "of the last ones", worldCodes(run)[maxHosts-1:], ids(0, 1, 0))
	// Items that wait are tried in the midst of a time, and filed at theirs.
	ops = allOps([]impl.WorldOp{hosting("b", impl.HostLater)}, oneMail("kim@a", "1", "x@b"), []impl.WorldOp{waiting(3)}, oneMail("zed@a", "2", "x@b"), []impl.WorldOp{waiting(100)})
	run = checkWorld(t, "ages", plainWorld(), ops...)
	wantWorld(t, "ages", run, "L1@0 L2@3 L1@10 L2@13 B1>b@20 D3@20 B2>b@23 D4@23", "INBOX: Undelivered@20, Undelivered@23", 3, 4)
}

// TestRunWorldSync has changes of sessions that are on the disk, or not, when all falls.
func TestRunWorldSync(t *testing.T) {
	in := speaking(0, "a LOGIN ann p", "b CREATE g", `c APPEND g () "1"`)
	more := speaking(1, "a LOGIN ann p", "b CREATE h")
	create, put, last := framed(impl.StoreOp{Kind: impl.StCreate, Box: "g"}), framed(impl.StoreOp{Kind: impl.StAppend, Box: "g", Message: "1"}), framed(impl.StoreOp{Kind: impl.StCreate, Box: "h"})
	run := checkWorld(t, "not written", plainWorld(), in)
	if run.Disk != (impl.Disk{Data: create + put}) {
		t.Errorf("not written: %s", shown(run.Disk))
	}
	run = checkWorld(t, "written", plainWorld(), in, writing, more)
	if run.Disk != (impl.Disk{Data: create + put + last, Synced: int64(len(create + put))}) {
		t.Errorf("written: %s", shown(run.Disk))
	}
	run = checkWorld(t, "written twice", plainWorld(), in, writing, writing, more, writing)
	if run.Disk != synced(create+put+last) {
		t.Errorf("written twice: %s", shown(run.Disk))
	}
	all := create + put + last
	for keep := int64(-1); keep <= int64(len(all))+1; keep++ {
		boxes := "INBOX: "
		whole := ""
		for _, one := range []struct{ frames, boxes string }{{create, "INBOX: ; g: "}, {create + put, "INBOX: ; g: @0"}, {all, "INBOX: ; g: @0; h: "}} {
			if keep >= int64(len(one.frames)) {
				whole, boxes = one.frames, one.boxes
			}
		}
		run := checkWorld(t, "kept", plainWorld(), in, more, falling(keep, 0))
		wantText(t, "what is filed", fmt.Sprint("of which stay ", keep), filedIn(run.Store), boxes)
		if run.Disk != synced(whole) {
			t.Errorf("%d bytes stay: %s", keep, shown(run.Disk))
		}
		run = checkWorld(t, "kept behind what is written", plainWorld(), in, writing, more, falling(keep, 0))
		if kept := keep >= int64(len(last)); kept != (run.Disk == synced(all)) || !kept && run.Disk != synced(create+put) {
			t.Errorf("%d bytes stay behind what is written: %s", keep, shown(run.Disk))
		}
		// A byte that is turned makes no other frame.
		turned := checkWorld(t, "turned", plainWorld(), in, more, falling(keep, 1+(keep+1)%255))
		if len(turned.Disk.Data) > len(whole) || !strings.HasPrefix(whole, turned.Disk.Data) || keep > 0 && turned.Disk.Data == all {
			t.Errorf("%d bytes stay, one turned: %s", keep, shown(turned.Disk))
		}
	}
	for _, turn := range ids(-1, 0, 256, 1<<40) {
		run := checkWorld(t, "no turn", plainWorld(), in, falling(1000, turn))
		if run.Disk != synced(create+put) {
			t.Errorf("turn %d: %s", turn, shown(run.Disk))
		}
	}
}

// TestRunWorldTurned has a byte turned so that the log has another right operation, which the store refuses or takes.
func TestRunWorldTurned(t *testing.T) {
	in := speaking(0, "a LOGIN ann p", "b CREATE g")
	frame := framed(impl.StoreOp{Kind: impl.StCreate, Box: "g"})
	others := 0
	for keep := range int64(len(frame)) + 1 {
		for turn := int64(1); turn < 256; turn++ {
			run := impl.RunWorld(plainWorld(), []impl.WorldOp{in, falling(keep, turn), speaking(0, "c LOGIN ann p", "d CREATE h")})
			checkWorldStore(t, "turned", run)
			if len(run.Store.Boxes) != 2 || run.Told[0] != sent("a OK", "b OK", "c OK", "d OK") {
				others++
			}
		}
	}
	if others > 0 {
		t.Errorf("%d other stores", others)
	}
}

// TestRunWorldFalls has what sessions and mails are in the midst of when all falls.
func TestRunWorldFalls(t *testing.T) {
	begun := slices.Concat(some("HELO b"), mailLines("x@b", "s", "ann@a")[:4])
	ops := []impl.WorldOp{
		handing(sent(begun...)), speaking(0, "a LOGIN ann p", "b SELECT INBOX", "c IDLE"), reading(1, "a LOGIN an"), reading(2, "a LOGIN {9+}\r\nx"), speaking(3, "a LOGOUT"), speaking(4, "a LOGIN ann p"),
		falling(0, 0),
		handing(sent("", "t", ".")), speaking(0, "DONE", "d LIST"), speaking(1, "n p", "b NOOP"), speaking(2, "y", "b NOOP"), speaking(3, "b LOGIN ann p", "c LIST"), speaking(4, "b LIST"),
	}
	run := checkWorld(t, "in the midst", plainWorld(), ops...)
	wantText(t, "told", "the mail", run.Outs[7].Told, sent("220 a", "500 what", "500 what", "500 what"))
	for session, want := range [][]string{
		some("a OK", "* BOX INBOX 1 1 0", "b OK", "+ idling", "* BAD", "d NO 7"),
		some("n BAD", "b OK"),
		some("* BAD", "b OK"),
		some("* BYE", "a OK", "b OK", "* LIST INBOX", "c OK"),
		some("a OK", "b NO 7"),
	} {
		wantText(t, "told", fmt.Sprint("session ", session), run.Told[session], sent(want...))
	}
	wantWorld(t, "in the midst", run, "", "INBOX: ")
	// The queue, the hosts and the time stay.
	ops = allOps([]impl.WorldOp{waiting(3), hosting("b", impl.HostLater)}, oneMail("zed@a", "s", "x@b"), []impl.WorldOp{falling(0, 0), waiting(12), falling(9, 9)}, oneMail("zed@a", "s", "x@b"), []impl.WorldOp{waiting(100)})
	run = checkWorld(t, "what stays", plainWorld(), ops...)
	wantWorld(t, "what stays", run, "L1@3 L1@13 L2@15 B1>b@23 D3@23 L2@25 B2>b@35 D4@35", "INBOX: Undelivered@23, Undelivered@35", 3, 4)
	wantNumbers(t, "held", "behind each", ids(run.Outs[4].Held, run.Outs[6].Held, run.Outs[7].Held), ids(1, 1, 2))
	// What is delivered stays, also what sessions have changed ahead of it.
	ops = allOps([]impl.WorldOp{speaking(0, "a LOGIN ann p", "b CREATE g")}, oneMail("x@b", "s", "ann@a"), []impl.WorldOp{speaking(0, "c CREATE h"), falling(0, 0), speaking(0, "d LOGIN ann p", "e LIST")})
	run = checkWorld(t, "behind a delivery", plainWorld(), ops...)
	wantWorld(t, "behind a delivery", run, "D1@0", "INBOX: s@0; g: ", 1)
	wantText(t, "told", "behind a delivery", run.Told[0], sent("a OK", "b OK", "c OK", "d OK", "* LIST INBOX", "* LIST g", "e OK"))
	// A mail that is delivered and does nothing to the store, or is delivered elsewhere.
	for _, one := range []struct {
		what, subject, to string
		stays             bool
	}{
		{"dropped", "drop", "kim@a", true},
		{"rejected", "s", "eve@a", true},
		{"far", "s", "x@b", false},
	} {
		ops = allOps([]impl.WorldOp{speaking(0, "a LOGIN ann p", "b CREATE g")}, oneMail("", one.subject, one.to), []impl.WorldOp{falling(0, 0)})
		if run = checkWorld(t, one.what, plainWorld(), ops...); (len(run.Store.Boxes) == 2) != one.stays {
			t.Errorf("%s: %s", one.what, shown(run.Store))
		}
	}
}

// TestRunWorldToldAhead has a session told nearly as much as one can be, and a new one behind a fall that is told as much again.
func TestRunWorldToldAhead(t *testing.T) {
	c := changedWorld(func(c *impl.WorldConfig) { c.Transfer.MaxBytes = maxText })
	look := speaking(0, slices.Repeat(some("a FETCH 1 (BODY[])"), 10)...)
	in := speaking(0, "a LOGIN ann p", "b SELECT INBOX")
	ops := allOps(greatMail("", "ann@a", 99000), []impl.WorldOp{in, look, falling(0, 0), in, look, look, in})
	run := checkWorld(t, "much is told", c, ops...)
	if told := len(run.Told[0]); told < 2*maxTold || told > 2*maxTold+2*100000 {
		t.Errorf("told %d bytes", told)
	}
}

func TestRunWorldFiles(t *testing.T) {
	for _, one := range []struct {
		subject, to  string
		times, filed string
		boxes        []int64
	}{
		{"s", "kim@a", "D1@7", "INBOX: s@7", ids(1)},
		{"s", "zed@a", "D1@7", "INBOX: s@7", ids(1)},
		{"file g", "kim@a", "D1@7", "INBOX: ; g: file g@7", ids(1)},
		{"file INBOX", "kim@a", "D1@7", "INBOX: file INBOX@7", ids(1)},
		{"keep INBOX", "kim@a", "D1@7", "INBOX: keep INBOX@7, keep INBOX@7", ids(1)},
		{"two g h/i", "kim@a", "D1@7", "INBOX: ; g: two g h/i@7; h/i: two g h/i@7", ids(1)},
		{"two g a//b", "kim@a", "D1@7", "INBOX: ; g: two g a//b@7", ids(1)},
		{"keep Junk", "kim@a", "D1@7", "INBOX: keep Junk@7; Junk: keep Junk@7", ids(1)},
		{"file a b", "kim@a", "D1@7", "INBOX: ", ids(1)},
		{"drop", "kim@a", "D1@7", "INBOX: ", ids(1)},
		{"flag zz", "kim@a", "D1@7", "INBOX: flag zz+zz@7", ids(1)},
		{"flag (", "kim@a", "D1@7", "INBOX: flag (@7", ids(1)},
		{"s", "x@y@a", "D1@7", "INBOX: ; xy: s@7", ids(1)},
		{"send ann@a", "kim@a", "D2@7 D1@7", "INBOX: send ann@a@7", ids(2, 1)},
		{"copy ann@a", "kim@a", "D2@7 D1@7", "INBOX: copy ann@a@7, copy ann@a@7", ids(2, 1)},
		{"send x@b", "kim@a", "D2>b@7 D1@7", "INBOX: ", ids(1)},
		{"send l@a", "kim@a", "D2@7 D3>b@7 D1@7", "INBOX: send l@a@7", ids(2, 1)},
		{"send bob@a", "kim@a", "D3@7 D2@7 D1@7", "INBOX: send bob@a@7; f: send bob@a+k@7", ids(3, 2, 1)},
		{"send o@a", "kim@a", "D1@7", "INBOX: ", ids(1)},
		{"send Ann@A", "kim@a", "D1@7", "INBOX: ", ids(1)},
		{"send ann", "kim@a", "D1@7", "INBOX: ", ids(1)},
		{"send ", "kim@a", "D1@7", "INBOX: send@7", ids(1)},
		{"reject", "kim@a", "D2>b@7 D1@7", "INBOX: ", ids(1)},
		{"s", "eve@a", "D2>b@7 D1@7", "INBOX: ", ids(1)},
	} {
		for _, from := range some("x@b", "") {
			want := one.times
			if from == "" && (one.subject == "reject" || one.to == "eve@a") {
				want = "D1@7"
			}
			run := checkWorld(t, one.subject, plainWorld(), allOps([]impl.WorldOp{waiting(7)}, oneMail(from, one.subject, one.to))...)
			wantWorld(t, one.subject+" to "+one.to, run, want, one.filed, one.boxes...)
		}
	}
}

// TestRunWorldRedirects has what comes of filters that send mail on, and back.
func TestRunWorldRedirects(t *testing.T) {
	for _, one := range []struct {
		filter, from string
		times, filed string
		boxes        []int64
	}{
		{`redirect "x"; redirect "zed@a"; redirect "y@c";`, "x@b", "D2@0 D1@0", "INBOX: s@0", ids(2, 1)},
		{`redirect "Ann@A"; redirect "";`, "x@b", "D1@0", "INBOX: ", ids(1)},
		{`redirect "y@c"; redirect "zed@a";`, "x@b", "D2>c@0 D1@0", "INBOX: ", ids(1)},
		{`redirect "zed@a"; reject "no";`, "x@b", "D2@0 D3>b@0 D1@0", "INBOX: s@0", ids(2, 1)},
		{`reject "no"; redirect "zed@a";`, "x@b", "D2@0 D3>b@0 D1@0", "INBOX: s@0", ids(2, 1)},
		{`reject "no"; reject "nono"; keep;`, "zed@a", "D2@0 D1@0", "INBOX: s@0, Undelivered@0", ids(2, 1)},
		{`reject "no"; redirect "zed@a";`, "", "D2@0 D1@0", "INBOX: s@0", ids(2, 1)},
		{`reject "no";`, "l@a", "D2@0 D3>b@0 D1@0", "INBOX: Undelivered@0", ids(2, 1)},
		{`reject "no";`, "o@a", "D1@0", "INBOX: ", ids(1)},
		// Who rejects what tells of a rejection tells nobody.
		{`reject "no";`, "eve@a", "D2@0 D1@0", "INBOX: ", ids(2, 1)},
		{`reject "no"; fileinto "g";`, "kim@a", "D2@0 D1@0", "INBOX: ; g: s@0, Undelivered@0", ids(2, 1)},
		{`repeat 100 { repeat 100 { redirect "zed@a"; } }`, "x@b", "D1@0", "INBOX: s@0", ids(1)},
	} {
		run := checkWorld(t, one.filter, filtering(one.filter), oneMail(one.from, "s", "kim@a")...)
		wantWorld(t, one.filter+" from "+one.from, run, one.times, one.filed, one.boxes...)
	}
	// What is sent on has one field more, and is from nobody.
	run := checkWorld(t, "fields", filtering(`redirect "zed@a"; reject "no";`), oneMail("yan@a", "s", "kim@a")...)
	received := "Received: by a; Thu, 01 Jan 1970 00:00:00 +0000\r\n"
	want := []impl.Local{{Item: 2, To: "zed@a", Message: received + sentMail("s")}, {Item: 3, To: "yan@a", Message: received + impl.Bounce("a", "kim@a", sentMail("s"))}, {Item: 1, To: "kim@a", From: "yan@a", Message: sentMail("s")}}
	if !slices.Equal(run.Boxes, want) {
		t.Errorf("fields: %s, want %s", shown(run.Boxes), shown(want))
	}
	// The message is sent on as it was delivered, whatever it says now.
	hops := slices.Repeat(some("Received: x"), 22)
	run = checkWorld(t, "hops", filtering(`redirect "bob@a"; keep;`), withHead("x@b", some("kim@a"), hops...))
	wantWorld(t, "hops", run, "D3@0 D2@0 D1@0", "INBOX: @0, @0; f: +k@0", 3, 2, 1)
	run = checkWorld(t, "one hop more", filtering(`redirect "bob@a"; keep;`), withHead("x@b", some("kim@a"), append(hops, "Received: y")...))
	wantWorld(t, "one hop more", run, "D2@0 D1@0", "INBOX: @0; f: +k@0", 2, 1)
	// One who bounces to somebody who sends on.
	run = checkWorld(t, "bounced", plainWorld(), append([]impl.WorldOp{hosting("c", impl.HostNever)}, oneMail("bob@a", "s", "y@c")...)...)
	wantWorld(t, "bounced", run, "B1>c@0 D3@0 D2@0", "INBOX: Undelivered@0; f: Undelivered+k@0", 3, 2)
}

// TestRunWorldRound has users who send their mail to one another, and to themselves.
func TestRunWorldRound(t *testing.T) {
	sendTo := func(to string) string { return `redirect "` + to + `"; keep;` }
	for _, one := range []struct {
		what          string
		first, second string
		hops          int
		count         int
	}{
		{"to itself", sendTo("u0@a"), "", 0, 25},
		{"to itself by an alias", sendTo("r@a"), "", 0, 25},
		{"to one another", sendTo("u1@a"), sendTo("u0@a"), 0, 25},
		{"to one another, from afar", sendTo("u1@a"), sendTo("u0@a"), 20, 5},
		{"to itself, from afar", sendTo("u0@a"), "", 24, 1},
	} {
		c := changedWorld(func(c *impl.WorldConfig) {
			c.Users = manyUsers(2, "")
			c.Users[0].Filter, c.Users[1].Filter = one.first, one.second
			c.Queue.Aliases = []impl.Alias{alias("r@a", "u0@a")}
		})
		run := checkWorld(t, one.what, c, withHead("", some("u0@a"), append(some("Subject: s"), slices.Repeat(some("Received: x"), one.hops)...)...))
		var want []string
		for item := one.count; item > 0; item-- {
			want = append(want, fmt.Sprint("D", item, "@0"))
		}
		wantText(t, "what came to pass", one.what, worldTimes(run), strings.Join(want, " "))
		if mails := run.Store.Boxes[0].Mails; len(mails) != one.count || run.Outs[0].Held != 0 {
			t.Errorf("%s: %d mails, %d held", one.what, len(mails), run.Outs[0].Held)
		}
	}
}

// fanning has users who each send on to an alias of so many people, here or elsewhere.
func fanning(users, people int, domain string) impl.WorldConfig {
	return changedWorld(func(c *impl.WorldConfig) {
		c.Users = manyUsers(users, `redirect "all@a";`)
		var to []string
		for at := range people {
			to = append(to, fmt.Sprint("p", at, "@", domain))
		}
		c.Queue.Aliases = []impl.Alias{alias("all@a", to...)}
	})
}

// usersTo is a mail to the first of manyUsers.
func usersTo(from string, users int) []impl.WorldOp {
	var to []string
	for at := range users {
		to = append(to, fmt.Sprint("u", at, "@a"))
	}
	return oneMail(from, "s", to...)
}

// TestRunWorldManyItems has as many items come of one mail as can be, and one more.
func TestRunWorldManyItems(t *testing.T) {
	for _, one := range []struct {
		what          string
		users, people int
		events        int
	}{
		{"few", 2, 10, 22},
		{"as many as can be", 20, 19, 400},
		{"more than can be", 20, 20, 20 + 19*20},
		{"far more than can be", 20, 99, 20 + 3*99},
		{"one more than can be", 3, 100, 303},
	} {
		for _, domain := range some("a", "b") {
			run := checkWorld(t, one.what, fanning(one.users, one.people, domain), usersTo("", one.users)...)
			if events := len(run.Outs[0].Events); events != one.events || run.Outs[0].Held != 0 {
				t.Errorf("%s: %d events, want %d; %d are held", one.what, events, one.events, run.Outs[0].Held)
			}
		}
	}
	// What comes of another mail of the same chunk, or of another chunk, counts anew.
	mail := usersTo("", 20)[0].Data
	again := handing(mail + strings.TrimPrefix(mail, "HELO b\r\n"))
	run := checkWorld(t, "two mails", fanning(20, 20, "b"), again, hanging, handing(mail))
	wantNumbers(t, "events", "two mails", ids(int64(len(run.Outs[0].Events)), int64(len(run.Outs[2].Events))), ids(800, 400))
	// 20, of which three send on to a hundred each, and the others to one.
	c := fanning(20, 100, "b")
	for at := range 17 {
		c.Users[at+3].Filter = `redirect "y@c";`
	}
	run = checkWorld(t, "just as many", c, usersTo("", 20)...)
	if events := len(run.Outs[0].Events); events != 20+300+17 {
		t.Errorf("just as many: %d events", events)
	}
	// One of them sends on to so many that there are as many as can be, and one more.
	c.Queue.Aliases = append(c.Queue.Aliases, alias("more@a", farPeople("q", 1, 64)...))
	c.Users[3].Filter = `redirect "more@a";`
	run = checkWorld(t, "up to the last", c, usersTo("", 20)...)
	last := run.Outs[0].Events[len(run.Outs[0].Events)-2:]
	if len(run.Outs[0].Events) != 400 || last[0].To != "y@c" || last[1].To != "u19@a" {
		t.Errorf("up to the last: %d events, %v", len(run.Outs[0].Events), last)
	}
	c.Queue.Aliases[1].To = farPeople("q", 1, 65)
	run = checkWorld(t, "one is left out", c, usersTo("", 20)...)
	last = run.Outs[0].Events[len(run.Outs[0].Events)-2:]
	if len(run.Outs[0].Events) != 400 || last[0].To != "u18@a" || last[1].To != "u19@a" {
		t.Errorf("one is left out: %d events, %v", len(run.Outs[0].Events), last)
	}
}

// TestRunWorldManyWaiting has as many items at work as can be: what is more is refused.
func TestRunWorldManyWaiting(t *testing.T) {
	c := changedWorld(func(c *impl.WorldConfig) { c.Queue.Aliases = hundreds("p", maxExpand); c.Queue.MaxAge = 10 })
	later := []impl.WorldOp{hosting("b", impl.HostLater)}
	all := func(from string) []impl.WorldOp { return oneMail(from, "s", "p@a") }
	run := checkWorld(t, "two mails", c, allOps(later, all(""), all(""), oneMail("zed@a", "s", "ann@a"), oneMail("", "s", "ann@a"))...)
	wantNumbers(t, "held", "two mails", ids(run.Outs[1].Held, run.Outs[3].Held, run.Outs[5].Held), ids(200, 400, 400))
	wantWorld(t, "two mails", impl.WorldRun{Outs: run.Outs[5:], Store: run.Store, Boxes: run.Boxes}, "", "INBOX: ")
	// With room for one: it is at work itself, so what it sends on is one too many.
	short := changedWorld(func(c *impl.WorldConfig) {
		c.Queue.Aliases = append(hundreds("p", maxExpand), hundreds("q", maxExpand-1)...)
	})
	run = checkWorld(t, "room for one", short, allOps(later, all(""), oneMail("", "s", "q@a"), oneMail("", "copy ann@a", "kim@a"), oneMail("", "s", "zed@a"))...)
	wantText(t, "what is filed", "room for one", filedIn(run.Store), "INBOX: copy ann@a@0, s@0")
	short.Queue.Aliases = append(hundreds("p", maxExpand), hundreds("q", maxExpand-2)...)
	run = checkWorld(t, "room for two", short, allOps(later, all(""), oneMail("", "s", "q@a"), oneMail("", "copy ann@a", "kim@a"), oneMail("", "s", "zed@a"))...)
	wantText(t, "what is filed", "room for two", filedIn(run.Store), "INBOX: copy ann@a@0, copy ann@a@0, s@0")
	// Items that are bounced to somebody who sends on to others who do: what comes of each item counts alone.
	c = fanning(20, 30, "b")
	c.Users[0].Filter = `redirect "us@a";`
	var us []string
	for at := 1; at < 20; at++ {
		us = append(us, fmt.Sprint("u", at, "@a"))
	}
	c.Queue.Aliases = append(c.Queue.Aliases, alias("us@a", us...))
	c.Queue.MaxAge = 10
	run = checkWorld(t, "bounced", c, allOps([]impl.WorldOp{hosting("z", impl.HostLater)}, oneMail("u0@a", "s", "1@z", "2@z", "3@z"), []impl.WorldOp{waiting(10)})...)
	kinds := map[int64]int{}
	for _, event := range run.Outs[3].Events {
		kinds[event.Kind]++
	}
	// 19, and twelve times 30, and the one that tells of it.
	if kinds[impl.EvBounced] != 3 || kinds[impl.EvDelivered] != 3*(19+12*30+1) || run.Outs[3].Held != 0 {
		t.Errorf("bounced: %v, %d held", kinds, run.Outs[3].Held)
	}
}

// commands are so many of one command, each with a tag, in operations that are not too long.
func commands(session int64, command string, count int) []impl.WorldOp {
	line := "z " + command + "\r\n"
	var ops []impl.WorldOp
	for count > 0 {
		part := min(count, maxText/len(line))
		ops = append(ops, reading(session, strings.Repeat(line, part)))
		count -= part
	}
	return ops
}

var annIn = speaking(0, "a LOGIN ann p")

// fullBox has as many mails as can be in a box that is there.
func fullBox(box string) []impl.WorldOp {
	return commands(0, "APPEND "+box+` () ""`, maxMails)
}

// TestRunWorldFullBox has mails that the store refuses: they are bounced.
func TestRunWorldFullBox(t *testing.T) {
	for _, one := range []struct {
		from, subject, to string
		times             string
		boxes             []int64
	}{
		{"x@b", "s", "ann@a", "B1@0 D2>b@0", nil},
		{"", "s", "ann@a", "X1@0", nil},
		{"zed@a", "s", "ann@a", "B1@0 X2@0", nil},
		{"eve@a", "s", "ann@a", "B1@0 D2@0", ids(2)},
		{"bob@a", "s", "ann@a", "B1@0 X3@0 D2@0", ids(2)},
		{"x@b", "file g", "kim@a", "D1@0", ids(1)},
		{"x@b", "keep g", "kim@a", "B1@0 D2>b@0", nil},
		{"x@b", "file INBOX", "kim@a", "B1@0 D2>b@0", nil},
		{"x@b", "copy y@c", "kim@a", "B1@0 D2>b@0", nil},
		{"x@b", "send y@c", "kim@a", "D2>c@0 D1@0", ids(1)},
		{"x@b", "drop", "kim@a", "D1@0", ids(1)},
	} {
		run := checkWorld(t, one.subject, plainWorld(), allOps([]impl.WorldOp{annIn}, fullBox("INBOX"), oneMail(one.from, one.subject, one.to))...)
		wantText(t, "what came to pass", one.subject+" from "+one.from, worldTimes(run), one.times)
		var items []int64
		for _, box := range run.Boxes {
			items = append(items, box.Item)
		}
		wantNumbers(t, "the boxes", one.subject+" from "+one.from, items, one.boxes)
		if len(run.Store.Boxes[0].Mails) != maxMails {
			t.Errorf("%s: %d mails", one.subject, len(run.Store.Boxes[0].Mails))
		}
	}
	// One less than full: the first of two is filed.
	ops := allOps([]impl.WorldOp{annIn}, commands(0, `APPEND INBOX () ""`, maxMails-1), oneMail("x@b", "s", "ann@a", "zed@a"))
	run := checkWorld(t, "nearly full", plainWorld(), ops...)
	wantText(t, "what came to pass", "nearly full", worldTimes(run), "D1@0 B2@0 D3>b@0")
	// The bounce tells of the recipient and the mail.
	ops = allOps([]impl.WorldOp{annIn, speaking(0, "b CREATE f")}, fullBox("f"), oneMail("zed@a", "s", "bob@a"))
	run = checkWorld(t, "the bounce", plainWorld(), ops...)
	wantText(t, "what came to pass", "the bounce", worldTimes(run), "B1@0 D2@0")
	if want := (impl.Local{Item: 2, To: "zed@a", Message: impl.Bounce("a", "bob@a", sentMail("s"))}); len(run.Boxes) != 1 || run.Boxes[0] != want {
		t.Errorf("the bounce: %s, want %s", shown(run.Boxes), shown(want))
	}
}

// TestRunWorldPartlyFiled has mails of which a part was filed when the store refused the rest: it stays, on the disk, too.
func TestRunWorldPartlyFiled(t *testing.T) {
	c := filtering(`fileinto "g"; fileinto "h"; fileinto "i"; keep; redirect "zed@a"; reject "no";`)
	count := func(run impl.WorldRun) string {
		out := ""
		for _, box := range run.Store.Boxes {
			out += fmt.Sprint(box.Name, len(box.Mails), " ")
		}
		return out
	}
	for _, one := range []struct {
		full, times, boxes string
	}{
		{"", "D2@0 D3>b@0 D1@0", "INBOX2 g1 h1 i1 "},
		{"g", "B1@0 D2>b@0", "INBOX0 g300 "},
		{"h", "B1@0 D2>b@0", "INBOX0 g1 h300 "},
		{"i", "B1@0 D2>b@0", "INBOX0 g1 h1 i300 "},
		{"INBOX", "B1@0 D2>b@0", "INBOX300 g1 h1 i1 "},
	} {
		ops := []impl.WorldOp{annIn}
		if one.full != "" {
			ops = append(append(ops, speaking(0, "b CREATE "+one.full)), fullBox(one.full)...)
		}
		for _, crash := range []bool{false, true} {
			ops := allOps(ops, []impl.WorldOp{writing}, oneMail("x@b", "s", "kim@a"))
			if crash {
				ops = append(ops, falling(0, 0))
			}
			run := checkWorld(t, one.full, c, ops...)
			wantText(t, "what came to pass", one.full, worldTimes(run), one.times)
			wantText(t, "what is filed", fmt.Sprint(one.full, crash), count(run), one.boxes)
			if run.Disk.Synced != int64(len(run.Disk.Data)) {
				t.Errorf("%s: %d of %d bytes are written", one.full, run.Disk.Synced, len(run.Disk.Data))
			}
		}
	}
	// What sessions have changed ahead of a mail that is bounced is written, too.
	run := checkWorld(t, "ahead of a bounce", c, allOps([]impl.WorldOp{annIn, speaking(0, "b CREATE g")}, fullBox("g"), oneMail("", "s", "kim@a"), []impl.WorldOp{falling(0, 0)})...)
	wantText(t, "what is filed", "ahead of a bounce", count(run), "INBOX0 g300 ")
}

// TestRunWorldBoxes has filters that file into boxes that are there, or that cannot be made.
func TestRunWorldBoxes(t *testing.T) {
	run := checkWorld(t, "there already", plainWorld(), allOps([]impl.WorldOp{annIn, speaking(0, "b CREATE g", `c APPEND g () "1"`)}, oneMail("x@b", "file g", "kim@a"), oneMail("x@b", "file g", "kim@a"), oneMail("x@b", "file h", "kim@a"), []impl.WorldOp{speaking(0, "d DELETE h")}, oneMail("x@b", "file h", "kim@a"))...)
	wantWorld(t, "there already", run, "D1@0 D2@0 D3@0 D4@0", "INBOX: ; g: @0, file g@0, file g@0; h: file h@0", 1, 2, 3, 4)
	if run.Store.Boxes[2].Validity != 4 {
		t.Errorf("the box has the validity %d", run.Store.Boxes[2].Validity)
	}
	// What the store refuses is not in the log.
	if log := impl.ReadLog(run.Disk.Data); len(log.Ops) != 9 {
		t.Errorf("the log has %d operations", len(log.Ops))
	}
	var names []string
	for at := range maxBoxes - 1 {
		names = append(names, fmt.Sprint("b CREATE g", at))
	}
	full := []impl.WorldOp{annIn, speaking(0, names...)}
	run = checkWorld(t, "no box more", plainWorld(), allOps(full, oneMail("x@b", "file g3", "kim@a"), oneMail("x@b", "file g31", "kim@a"), oneMail("x@b", "two g3 g31", "kim@a"))...)
	wantText(t, "what came to pass", "no box more", worldTimes(run), "D1@0 B2@0 D3>b@0 B4@0 D5>b@0")
	if len(run.Store.Boxes) != maxBoxes {
		t.Errorf("%d boxes", len(run.Store.Boxes))
	}
	// Bad mail goes into a box that is made for it, by users and others.
	c := changedWorld(func(c *impl.WorldConfig) { c.Percent = 90 })
	run = checkWorld(t, "bad mail", c, allOps([]impl.WorldOp{waiting(3)}, oneMail("x@b", "pills", "ann@a"), oneMail("x@b", "lunch", "ann@a"), oneMail("x@b", "pills", "zed@a"), oneMail("x@b", "keep pills", "kim@a"), oneMail("x@b", "file pills", "kim@a"))...)
	wantWorld(t, "bad mail", run, "D1@3 D2@3 D3@3 D4@3 D5@3", "INBOX: lunch@3; Junk: pills@3, pills@3, keep pills@3; pills: keep pills@3, file pills@3", 1, 2, 3, 4, 5)
}

// TestRunWorldFullStore has as many bytes in the store as can be.
func TestRunWorldFullStore(t *testing.T) {
	great := func(size int) impl.WorldOp {
		return reading(0, fmt.Sprintf("z APPEND INBOX () {%d+}\r\n%s\r\n", size, xs(size)))
	}
	mail := len(sentMail("s"))
	for room := mail - 1; room <= mail+1; room++ {
		run := checkWorld(t, "a full store", plainWorld(), allOps([]impl.WorldOp{annIn, great(99000), great(99000), great(99000), great(99000), great(4000 - room)}, oneMail("", "s", "ann@a"), oneMail("", "s", "ann@a"))...)
		if want := map[bool]string{true: "D1@0 X2@0", false: "X1@0 X2@0"}[room >= mail]; worldTimes(run) != want {
			t.Errorf("room for %d bytes: %s, want %s", room, worldTimes(run), want)
		}
	}
}

// fullLogTo has a log of so many operations, of which the last ones change nothing.
func fullLogTo(count int) []impl.WorldOp {
	return allOps([]impl.WorldOp{annIn, speaking(0, "b SELECT INBOX")}, commands(0, "STORE 1 FLAGS ()", count))
}

// TestRunWorldFullLog has as many operations in the log as can be, or nearly so.
func TestRunWorldFullLog(t *testing.T) {
	for _, one := range []struct {
		held         int
		subject, to  string
		times, filed string
	}{
		{maxOps - 1, "s", "ann@a", "D1@0", "INBOX: s@0"},
		{maxOps, "s", "ann@a", "B1@0 D2>b@0", "INBOX: "},
		{maxOps - 2, "file g", "kim@a", "D1@0", "INBOX: ; g: file g@0"},
		{maxOps - 1, "file g", "kim@a", "B1@0 D2>b@0", "INBOX: ; g: "},
		{maxOps, "file g", "kim@a", "B1@0 D2>b@0", "INBOX: "},
		{maxOps - 3, "keep g", "kim@a", "D1@0", "INBOX: keep g@0; g: keep g@0"},
		{maxOps - 2, "keep g", "kim@a", "B1@0 D2>b@0", "INBOX: ; g: keep g@0"},
		{maxOps - 1, "copy ann@a", "kim@a", "X2@0 D1@0", "INBOX: copy ann@a@0"},
		{maxOps, "drop", "kim@a", "D1@0", "INBOX: "},
	} {
		run := checkWorld(t, one.subject, plainWorld(), allOps(fullLogTo(one.held), oneMail("x@b", one.subject, one.to))...)
		wantText(t, "what came to pass", fmt.Sprint(one.held, one.subject), worldTimes(run), one.times)
		wantText(t, "what is filed", fmt.Sprint(one.held, one.subject), filedIn(run.Store), one.filed)
		if log := impl.ReadLog(run.Disk.Data); len(log.Ops) != maxOps || run.Disk.Synced != int64(len(run.Disk.Data)) {
			t.Errorf("%d, %s: the log has %d operations, %d bytes are written", one.held, one.subject, len(log.Ops), run.Disk.Synced)
		}
	}
}

// fullDiskTo has a disk on which there is room for so many bytes more, and a store that is nearly empty.
func fullDiskTo(t *testing.T, room int) []impl.WorldOp {
	t.Helper()
	ops := []impl.WorldOp{annIn, speaking(0, "b SELECT INBOX")}
	great := func(size int) []impl.WorldOp {
		half := size / 2
		return []impl.WorldOp{reading(0, fmt.Sprintf("z APPEND INBOX (\\Deleted) {%d+}\r\n%s", size, xs(half))), reading(0, xs(size-half)+"\r\n"), speaking(0, "z EXPUNGE")}
	}
	for range 6 {
		ops = append(ops, great(99000)...)
	}
	left := maxDisk - len(impl.RunWorld(plainWorld(), ops).Disk.Data) - room
	none := len(framed(impl.StoreOp{Kind: impl.StAppend, Box: "INBOX", Flags: some(`\Deleted`)}) + framed(impl.StoreOp{Kind: impl.StExpunge, Box: "INBOX"}))
	ops = append(ops, great(left-none)...)
	if size := len(impl.RunWorld(plainWorld(), ops).Disk.Data); size != maxDisk-room {
		t.Fatalf("the disk has %d bytes", size)
	}
	return ops
}

// TestRunWorldFullDisk has as many bytes on the disk as can be.
func TestRunWorldFullDisk(t *testing.T) {
	size := len(framed(impl.StoreOp{Kind: impl.StAppend, Box: "INBOX", Message: sentMail("s")}))
	for room := size - 1; room <= size+1; room++ {
		run := checkWorld(t, "a full disk", plainWorld(), allOps(fullDiskTo(t, room), oneMail("x@b", "s", "ann@a"))...)
		if want := map[bool]string{true: "D1@0", false: "B1@0 D2>b@0"}[room >= size]; worldTimes(run) != want {
			t.Errorf("room for %d bytes: %s, want %s", room, worldTimes(run), want)
		}
	}
	create := len(framed(impl.StoreOp{Kind: impl.StCreate, Box: "g"}))
	put := len(framed(impl.StoreOp{Kind: impl.StAppend, Box: "g", Message: sentMail("file g")}))
	for _, one := range []struct {
		room         int
		times, filed string
	}{
		{create + put, "D1@0", "INBOX: ; g: file g@0"},
		{create + put - 1, "B1@0 D2>b@0", "INBOX: ; g: "},
		{create, "B1@0 D2>b@0", "INBOX: ; g: "},
		{create - 1, "B1@0 D2>b@0", "INBOX: "},
		{0, "B1@0 D2>b@0", "INBOX: "},
	} {
		run := checkWorld(t, "a full disk", plainWorld(), allOps(fullDiskTo(t, one.room), oneMail("x@b", "file g", "kim@a"), []impl.WorldOp{falling(0, 0)})...)
		wantText(t, "what came to pass", fmt.Sprint("room for ", one.room), worldTimes(run), one.times)
		wantText(t, "what is filed", fmt.Sprint("room for ", one.room), filedIn(run.Store), one.filed)
		if run.Disk.Synced != int64(len(run.Disk.Data)) {
			t.Errorf("room for %d bytes: %d are written", one.room, run.Disk.Synced)
		}
	}
}

// TestRunWorldByHand has operations of sessions that the store refuses, that have no frame, or for which there is no room.
func TestRunWorldByHand(t *testing.T) {
	start := []impl.WorldOp{annIn, speaking(0, "b CREATE g", `c APPEND INBOX (x) "1"`, "d SELECT INBOX")}
	told := sent("a OK", "b OK", "c OK", "* BOX INBOX 1 2 1", "* NEW 1 (x)", "d OK")
	check := func(what string, ahead []impl.WorldOp, command string, want ...string) {
		t.Helper()
		ops := allOps(start, ahead)
		before := impl.RunWorld(plainWorld(), ops)
		run := checkWorld(t, what, plainWorld(), append(ops, speaking(0, "e "+command))...)
		wantText(t, "told", what+", "+command, strings.TrimPrefix(run.Told[0], before.Told[0]), sent(want...))
		if !slices.Contains(want, "e OK") && (run.Disk != before.Disk || !sameStores(run.Store, before.Store)) {
			t.Errorf("%s, %s: something has changed", what, command)
		}
		if !strings.HasPrefix(before.Told[0], told) {
			t.Fatalf("%s: told %s", what, short(before.Told[0]))
		}
	}
	full := commands(0, "STORE 1 -FLAGS ()", maxOps-2)
	for what, ahead := range map[string][]impl.WorldOp{"room": nil, "no room": full} {
		check(what, ahead, "CREATE g", "e NO 7")
		check(what, ahead, "CREATE a//b", "e NO 1")
		check(what, ahead, "CREATE "+xs(300), "e NO 1")
		check(what, ahead, "DELETE none", "e NO 6")
		check(what, ahead, "DELETE "+xs(300), "e NO 6")
		check(what, ahead, "DELETE INBOX", "e NO 10")
		check(what, ahead, "RENAME g INBOX", "e NO 7")
		check(what, ahead, "RENAME g "+xs(300), "e NO 1")
		check(what, ahead, `APPEND none () "x"`, "e NO 6")
		check(what, ahead, "APPEND g ("+strings.Join(manyFlags(0, 21), " ")+`) "x"`, "e NO 1")
		check(what, ahead, "APPEND g ("+strings.Join(manyFlags(0, 256), " ")+`) "x"`, "e NO 1")
		check(what, ahead, "STORE 1 +FLAGS (*)", "e NO 1")
		check(what, ahead, "STORE 1 +FLAGS (*) 9999999999", "e NO 1")
		check(what, ahead, "STORE 1 +FLAGS ("+strings.Join(manyFlags(0, 20), " ")+") 9999999999", "e NO 8")
		check(what, ahead, "COPY 1 none", "e NO 6")
		check(what, ahead, "COPY 1 "+xs(300), "e NO 6")
		check(what, ahead, "EXPUNGE 5", "e OK")
		check(what, ahead, "STORE 1 +FLAGS (y) 4294967296", "e NO 8")
		check(what, ahead, "STORE 7 +FLAGS (y) 4294967296", "e NO 8")
	}
	check("room", nil, "STORE 1 +FLAGS (y) 4294967295", "* CHANGED 1 (x y)", "e OK")
	check("room", nil, "STORE 7 +FLAGS (y)", "e OK")
	check("room", nil, "COPY 7 g", "e OK")
	check("room", nil, "EXPUNGE", "e OK")
	check("no room", full, "CREATE h", "e NO 8")
	check("no room", full, "DELETE g", "e NO 8")
	check("no room", full, "RENAME g h", "e NO 8")
	check("no room", full, `APPEND g () ""`, "e NO 8")
	check("no room", full, "STORE 1 +FLAGS (y)", "e NO 8")
	check("no room", full, "STORE 7 +FLAGS (y)", "e NO 8")
	// It is not done, so nothing is stale.
	check("no room", full, "STORE 1 +FLAGS (y) 1", "e NO 8")
	check("no room", full, "COPY 1 g", "e NO 8")
	check("no room", full, "COPY 7 g", "e NO 8")
	check("no room", full, "EXPUNGE", "e NO 8")
	check("no room", full, "NOOP", "e OK")
	nearly := slices.Clone(full)
	nearly[len(nearly)-1] = reading(0, strings.TrimSuffix(full[len(full)-1].Data, "z STORE 1 -FLAGS ()\r\n"))
	check("room for one", nearly, "STORE 1 +FLAGS (y) 1", "* STALE 1", "e OK")
	check("room for one", nearly, "DELETE g", "e OK")
	check("room for one", nearly, "DELETE g\r\ne CREATE g", "e OK", "e NO 8")
}

// TestRunWorldByHandFullDisk has operations of sessions with just as many bytes of room on the disk as they need, and one less.
func TestRunWorldByHandFullDisk(t *testing.T) {
	size := len(framed(impl.StoreOp{Kind: impl.StCreate, Box: "g"}))
	for room, want := range map[int]string{size: "z OK", size - 1: "z NO 8", 0: "z NO 8"} {
		run := checkWorld(t, "a full disk", plainWorld(), append(fullDiskTo(t, room), speaking(0, "z CREATE g"))...)
		if !strings.HasSuffix(run.Told[0], "\r\n"+want+"\r\n") {
			t.Errorf("room for %d bytes: %s", room, run.Told[0][len(run.Told[0])-20:])
		}
	}
}

func (d *dice) worldKey() string {
	return d.pick("ann@a", "ann@a", "bob@a", "eve@a", "kim@a", "kim@a", "kim@a", "ro@a", "x@y@a", "zed@a", "l@a", "m@a", "o@a", "x@b", "x@b", "y@c", "y@d.e", "Ann@a")
}

func (d *dice) worldFilter() string {
	switch d.below(8) {
	case 0, 1:
		return ""
	case 2, 3:
		return knownFilter
	case 4:
		return writtenFilter(d)
	}
	return d.pick(fileFilter, `reject "no";`, `redirect "`+d.worldKey()+`"; keep;`, `redirect "none"; redirect "`+d.worldKey()+`";`, `if envelope :is "from" "" { discard; } else { fileinto "g"; reject "r"; keep; }`, `addflag "\\Seen"; fileinto "a/b"; fileinto "INBOX";`, `if size :over 150 { fileinto "great"; stop; } addflag "small";`)
}

// writtenFilter is one of any nodes.
func writtenFilter(d *dice) string {
	for {
		if text := impl.WriteFilter(nodesOf(d.filterBlock(1 + d.below(4)))); text != "" {
			return text
		}
	}
}

// worldConfig has few names, so that much comes to pass among its users.
func (d *dice) worldConfig() impl.WorldConfig {
	c := plainWorld()
	c.Transfer.Relay = d.below(5) > 0
	c.Transfer.MaxBytes = int64(50 + d.below(300))
	c.Queue.MaxAge = int64(d.below(50))
	c.Queue.Delays = []int64{int64(1 + d.below(10)), int64(1 + d.below(20))}
	c.Queue.Aliases = []impl.Alias{alias("l@a", d.worldKey(), d.worldKey()), alias("m@a", d.worldKey(), d.worldKey(), d.worldKey()), alias("o@a", "o@a")}
	c.Queue.Mx = []impl.Mx{mx("c", 1, "h1"), mx("c", 2, "h2"), mx("d.e", 1, "h2")}
	for at := range c.Users {
		c.Users[at].Filter = d.worldFilter()
	}
	c.Percent = int64(d.below(3) * d.below(50))
	return c
}

func (d *dice) worldMail() []string {
	subject := d.pick("s", "t", "pills", "lunch", "file g", "file a", "file INBOX", "two g a", "two a//b q", "keep z/y", "send ann@a", "send bob@a", "copy l@a", "copy kim@a", "send x@b", "reject", "drop", "flag x", `flag \Deleted`, "flag *")
	var to []string
	for range 1 + d.below(3) {
		to = append(to, d.worldKey())
	}
	lines := mailLines(d.pick("", d.worldKey(), d.worldKey()), subject, to...)
	if d.below(10) == 0 {
		lines = slices.Insert(lines, len(lines)-4, slices.Repeat(some("Received: x"), 20+d.below(6))...)
	}
	return lines
}

func (d *dice) worldSend() []impl.WorldOp {
	lines := some("HELO b")[:min(1, d.below(6))]
	for range 1 + d.below(3) {
		lines = append(lines, d.worldMail()...)
	}
	text := sent(lines...) + d.pick("", "", "", "", "QUIT\r\n", "NO", sent("MAIL FROM:<>"), sent("MAIL FROM:<>", "RCPT TO:<ann@a>", "DATA"))
	var ops []impl.WorldOp
	for _, chunk := range d.cutText(text, 1+d.below(3)) {
		ops = append(ops, handing(chunk))
		if d.below(10) == 0 {
			ops = append(ops, d.worldOp())
		}
	}
	return append(ops, hanging)[:len(ops)+d.below(2)]
}

// worldOp is one that is not of a client.
func (d *dice) worldOp() impl.WorldOp {
	switch d.below(12) {
	case 0, 1, 2:
		return waiting(int64(d.below(30)))
	case 3, 4, 5:
		return hosting(d.pick("b", "h1", "h2", "b", "c"), int64(d.below(3)))
	case 6, 7:
		return writing
	case 8, 9:
		return falling(int64(d.below(120)-10), int64(max(0, d.below(300)-200)))
	case 10:
		return hanging
	}
	op := impl.WorldOp{Kind: int64(d.below(10)), Session: int64(d.below(12) - 2), Data: d.pick("", "x", "a NOOP\r\n"), Wait: int64(d.below(5) - 2), Host: d.pick("", "b", "[b]"), Answer: int64(d.below(6) - 2)}
	return op
}

func (d *dice) worldOps(size int) []impl.WorldOp {
	events := d.accessEvents(1+d.below(4), size/3, true, true)
	var ops []impl.WorldOp
	for len(ops) < size {
		switch d.below(7) {
		case 0, 1:
			ops = append(ops, d.worldSend()...)
		case 2:
			ops = append(ops, d.worldOp())
		default:
			if len(events) > 0 {
				ops, events = append(ops, reading(events[0].Session, events[0].Data)), events[1:]
			}
		}
		if len(events) == 0 {
			events = d.accessEvents(2, size/4, true, false)
		}
	}
	return ops
}

func TestFileIntoOfAnyMails(t *testing.T) {
	d := &dice{state: 1901}
	boxes := map[string]int{}
	for range 3000 {
		c := d.worldConfig()
		item := impl.Local{Item: 1, To: d.worldKey(), From: d.pick("", d.worldKey()), Message: sent(d.worldMail()[2:]...)}
		if d.below(3) > 0 {
			item.Message = d.filterEnv().Message
		}
		want := slowFileInto(c, item)
		if got := impl.FileInto(c, item); !slices.EqualFunc(got, want, sameOps) {
			t.Fatalf("FileInto of %s: %s, want %s", shown(item), shown(got), shown(want))
		}
		for _, op := range want {
			boxes[op.Box]++
		}
	}
	if boxes["INBOX"] < 500 || boxes["Junk"] < 50 || boxes["g"] < 50 || boxes["f"] < 50 {
		t.Errorf("filed into %v", boxes)
	}
}

func TestRunWorldOfAnyOps(t *testing.T) {
	d := &dice{state: 1902}
	kinds, codes, seen := map[int64]int{}, map[int64]int{}, map[string]int{}
	for range 250 {
		run := checkWorld(t, "made up", d.worldConfig(), d.worldOps(10+d.below(120))...)
		for _, out := range run.Outs {
			codes[out.Code]++
			for _, event := range out.Events {
				kinds[event.Kind]++
			}
		}
		for _, box := range run.Store.Boxes {
			seen[box.Name] += len(box.Mails)
		}
		for _, told := range run.Told {
			seen["told"] += strings.Count(told, " OK\r\n")
		}
	}
	for kind, least := range map[int64]int{impl.EvDelivered: 5000, impl.EvBounced: 100, impl.EvDropped: 100, impl.EvLater: 500} {
		if kinds[kind] < least {
			t.Errorf("only %d events of kind %d", kinds[kind], kind)
		}
	}
	if codes[impl.ErrForm] < 50 || seen["INBOX"] < 2000 || seen["g"] < 100 || seen["Junk"] < 50 || seen["told"] < 3000 {
		t.Errorf("codes %v, mails %v", codes, seen)
	}
}

// marked has recipients of its own for each mail, some of them aliases, so that it is known of each event whose it is.
type marked struct {
	ops []impl.WorldOp
	// The recipients of each mail, as they are expanded, and whether the queue has to refuse it.
	mails   [][]string
	refused []bool
	aliases []impl.Alias
}

func (d *dice) markedMails(size int) marked {
	var all marked
	for number := range size {
		var to, recipients []string
		for at := range 1 + d.below(4) {
			key := fmt.Sprintf("%d-%d@%s", number, at, d.pick("a", "a", "b", "c"))
			to = append(to, key)
			if d.below(6) > 0 || len(all.aliases) > 90 {
				recipients = append(recipients, key)
				continue
			}
			others := some(key+"1@a", key+"2@b")
			all.aliases = append(all.aliases, alias(key, others...))
			recipients = append(recipients, others...)
		}
		lines := mailLines(d.pick("", "zed@a", "kim@a", "x@b", "bob@a"), fmt.Sprint("n", number), to...)
		hops := max(0, d.below(40)-10)
		lines = slices.Insert(lines, len(lines)-4, slices.Repeat(some("Received: x"), hops)...)
		for at, chunk := range d.cutText(sent(append(some("HELO b"), lines...)...), 1+d.below(2)) {
			all.ops = append(all.ops, handing(chunk))
			if at > 0 && d.below(10) == 0 {
				all.ops = append(all.ops, d.worldOp())
			}
		}
		for d.below(3) == 0 {
			all.ops = append(all.ops, d.worldOp())
		}
		all.mails, all.refused = append(all.mails, recipients), append(all.refused, hops >= maxHops)
	}
	return all
}

// acceptedOf are the mails that the transfer sessions of a run have accepted, as RunTransfer tells.
func acceptedOf(c impl.TransferConfig, ops []impl.WorldOp) []impl.Accepted {
	var chunks []string
	var mails []impl.Accepted
	for _, op := range append(slices.Clone(ops), hanging) {
		switch op.Kind {
		case impl.WoSend:
			chunks = append(chunks, op.Data)
		case impl.WoHang, impl.WoCrash:
			mails = append(mails, impl.RunTransfer(c, chunks).Accepted...)
			chunks = nil
		}
	}
	return mails
}

// TestPromise29 has for each recipient of each mail that was accepted one end at most, and none where the queue has refused it.
func TestPromise29(t *testing.T) {
	d := &dice{state: 1903}
	ends := map[string]int{}
	for range 120 {
		all := d.markedMails(30)
		c := d.worldConfig()
		c.Transfer.MaxBytes, c.Transfer.Relay = 5000, true
		c.Queue.Aliases = append(c.Queue.Aliases[:1:1], all.aliases...)
		ops := all.ops
		if d.below(3) == 0 {
			// With a log that is full soon.
			ops = allOps(fullLogTo(maxOps-d.below(40)), ops)
		}
		run := impl.RunWorld(c, ops)
		events, items := map[string][]impl.QueueEvent{}, map[int64]string{}
		for _, out := range run.Outs {
			for _, event := range out.Events {
				events[event.To] = append(events[event.To], event)
				if to, known := items[event.Item]; known && to != event.To {
					t.Fatalf("item %d is for %s and for %s", event.Item, to, event.To)
				}
				items[event.Item] = event.To
			}
		}
		taken := map[string]int{}
		for _, mail := range acceptedOf(c.Transfer, ops) {
			number := 0
			fmt.Sscanf(mail.To[0], "%d-", &number)
			for _, to := range all.mails[number] {
				taken[to]++
				end := endOf(t, to, events[to])
				ends[end]++
				if (end == "refused") != all.refused[number] {
					t.Fatalf("mail %d to %s is %s", number, to, end)
				}
			}
		}
		for _, mail := range all.mails {
			for _, to := range mail {
				if len(events[to]) > 0 && taken[to] != 1 {
					t.Fatalf("%s: accepted %d times, but %v", to, taken[to], events[to])
				}
			}
		}
		checkDelivered(t, c, run)
	}
	for _, end := range some("delivered", "bounced", "dropped", "at work", "refused") {
		if ends[end] < 20 {
			t.Errorf("only %d %s: %v", ends[end], end, ends)
		}
	}
}

// endOf is what has become of a recipient's item.
func endOf(t *testing.T, to string, events []impl.QueueEvent) string {
	t.Helper()
	end := "refused"
	for at, event := range events {
		if at > 0 && (end != "at work" || event.Item != events[0].Item) {
			t.Fatalf("%s: %v", to, events)
		}
		end = map[int64]string{impl.EvDelivered: "delivered", impl.EvBounced: "bounced", impl.EvDropped: "dropped", impl.EvLater: "at work"}[event.Kind]
	}
	return end
}

// checkDelivered wants all that was filed of what was delivered here to be in the log.
func checkDelivered(t *testing.T, c impl.WorldConfig, run impl.WorldRun) {
	t.Helper()
	logged, times := map[string]int{}, map[int64]int64{}
	for _, op := range impl.ReadLog(run.Disk.Data).Ops {
		logged[slowEncode(op)]++
	}
	for _, out := range run.Outs {
		for _, event := range out.Events {
			if event.Kind == impl.EvDelivered {
				times[event.Item] = event.Time
			}
		}
	}
	for _, item := range run.Boxes {
		for _, op := range impl.FileInto(c, item) {
			if op.Time = times[item.Item]; op.Kind != impl.StAppend {
				continue
			}
			if logged[slowEncode(op)]--; logged[slowEncode(op)] < 0 {
				t.Fatalf("item %d is delivered, but not in the log: %s", item.Item, shown(op))
			}
		}
	}
}

// TestPromise29AtEachFall has all fall behind each operation, with nothing kept that is not written.
func TestPromise29AtEachFall(t *testing.T) {
	d := &dice{state: 1904}
	delivered := 0
	for range 25 {
		c, ops := d.worldConfig(), d.worldOps(40)
		for at := range ops {
			run := impl.RunWorld(c, slices.Insert(slices.Clone(ops), at, falling(0, 0)))
			checkDelivered(t, c, run)
			checkWorldStore(t, "behind a fall", run)
			delivered += len(run.Boxes)
		}
	}
	if delivered < 5000 {
		t.Errorf("only %d were delivered", delivered)
	}
}

// TestPromise30 has the store held against the log behind each operation.
func TestPromise30(t *testing.T) {
	d := &dice{state: 1906}
	for range 40 {
		c, ops := d.worldConfig(), d.worldOps(60)
		for at := range ops {
			checkWorldStore(t, shown(ops[at]), impl.RunWorld(c, ops[:at+1]))
		}
	}
}

// TestPromise31 has worlds without filters in which nothing falls: each mail that is delivered is in INBOX, as it was delivered.
func TestPromise31(t *testing.T) {
	d := &dice{state: 1907}
	most, bounced := 0, 0
	for round := range 150 {
		c := d.worldConfig()
		c.Percent, c.Transfer.Relay = 0, true
		for at := range c.Users {
			c.Users[at].Filter = ""
		}
		// Sessions may look, and change what is no mail of INBOX.
		ops := []impl.WorldOp{speaking(0, "a LOGIN ro p", "b SELECT INBOX"), speaking(1, "a LOGIN ann p", "b CREATE g")}
		for len(ops) < 40+round*3 {
			switch op := d.worldOp(); {
			case op.Kind == impl.WoCrash:
				ops = append(ops, speaking(0, "c NOOP", "d FETCH 1:* (SIZE)"), speaking(1, `c APPEND g () "x"`))
			default:
				ops = append(append(ops, op), d.worldSend()...)
			}
		}
		ops = slices.DeleteFunc(ops, func(op impl.WorldOp) bool { return op.Kind == impl.WoCrash })
		run := impl.RunWorld(c, ops)
		var want []string
		for _, item := range run.Boxes {
			want = append(want, item.Message)
		}
		var times []int64
		for _, out := range run.Outs {
			for _, event := range out.Events {
				if event.Kind == impl.EvDelivered && event.Host == "" {
					times = append(times, event.Time)
				}
				if event.Kind != impl.EvDelivered && event.Host == "" && event.Kind != impl.EvLater {
					bounced++
				}
			}
		}
		mails := run.Store.Boxes[0].Mails
		if len(mails) != len(want) || len(times) != len(want) {
			t.Fatalf("%d mails, %d delivered, %d events", len(mails), len(want), len(times))
		}
		for at, mail := range mails {
			if mail.Message != want[at] || mail.Time != times[at] || len(mail.Flags) != 0 || mail.Uid != int64(at+1) {
				t.Fatalf("mail %d: %s, delivered %s at %d", at, shown(mail), short(want[at]), times[at])
			}
		}
		most = max(most, len(mails))
	}
	if most != maxMails || bounced == 0 {
		t.Errorf("at most %d mails, %d bounced here", most, bounced)
	}
}

// roomyWorld has texts of its own, and room behind its lists, with something in it.
func roomyWorld(c impl.WorldConfig) impl.WorldConfig {
	c.Transfer, c.Queue, c.Table = roomyTransfer(c.Transfer), roomyQueue(c.Queue), roomyTable(c.Table)
	var users []impl.WorldUser
	for _, user := range c.Users {
		users = append(users, impl.WorldUser{Name: strings.Clone(user.Name), Password: strings.Clone(user.Password), ReadOnly: user.ReadOnly, Filter: strings.Clone(user.Filter)})
	}
	c.Users = append(users, impl.WorldUser{Name: "room"}, impl.WorldUser{Name: "room"})[:len(users)]
	return c
}

func roomyWorldOps(ops []impl.WorldOp) []impl.WorldOp {
	var out []impl.WorldOp
	for _, op := range ops {
		op.Data, op.Host = strings.Clone(op.Data), strings.Clone(op.Host)
		out = append(out, op)
	}
	return append(out, handing("room"), handing("room"))[:len(ops)]
}

// worldWithRoom tells all that was handed in, and what stands in the room behind it.
func worldWithRoom(c impl.WorldConfig, ops []impl.WorldOp) string {
	return queueWithRoom(c.Queue, make([]impl.QueueOp, 0, 2)) + fmt.Sprint(c.Transfer, c.Transfer.Users[:len(c.Transfer.Users)+2], c.Users[:len(c.Users)+2], c.Table, c.Table.Words[:len(c.Table.Words)+2], c.Percent, ops[:len(ops)+2])
}

func worldSpans(c impl.WorldConfig, ops []impl.WorldOp) (lists, texts []span) {
	lists, texts = queueSpans(c.Queue, nil)
	lists = append(lists, spanOf(c.Transfer.Users), spanOf(c.Users), spanOf(c.Table.Words), spanOf(ops))
	texts = append(texts, textSpan(c.Transfer.Local))
	for _, key := range c.Transfer.Users {
		texts = append(texts, textSpan(key.Domain), textSpan(key.Selector))
	}
	for _, user := range c.Users {
		texts = append(texts, textSpan(user.Name), textSpan(user.Password), textSpan(user.Filter))
	}
	for _, word := range c.Table.Words {
		texts = append(texts, textSpan(word.Word))
	}
	for _, op := range ops {
		texts = append(texts, textSpan(op.Data), textSpan(op.Host))
	}
	return lists, texts
}

func worldRunSpans(run impl.WorldRun) (lists, texts []span) {
	lists, texts = storeSpans(run.Store)
	lists = append(lists, spanOf(run.Outs), spanOf(run.Boxes), spanOf(run.Told))
	texts = append(texts, textSpan(run.Disk.Data))
	for _, out := range run.Outs {
		lists, texts = append(lists, spanOf(out.Events)), append(texts, textSpan(out.Told))
		for _, event := range out.Events {
			texts = append(texts, textSpan(event.To), textSpan(event.Host))
		}
	}
	for _, one := range run.Boxes {
		texts = append(texts, textSpan(one.To), textSpan(one.From), textSpan(one.Message))
	}
	for _, told := range run.Told {
		texts = append(texts, textSpan(told))
	}
	return lists, texts
}

// TestWorldsShareNothing has answers with memory of their own, and arguments that stay as they are.
func TestWorldsShareNothing(t *testing.T) {
	d := &dice{state: 1908}
	for range 120 {
		c, ops := roomyWorld(d.worldConfig()), roomyWorldOps(d.worldOps(60))
		seen := worldWithRoom(c, ops)
		run := impl.RunWorld(c, ops)
		givenLists, givenTexts := worldSpans(c, ops)
		lists, texts := worldRunSpans(run)
		wantEachApart(t, "lists", lists)
		wantApartFrom(t, "lists", lists, givenLists)
		wantApartFrom(t, "texts", distinctTexts(texts), givenTexts)
		impl.WorldFault(c)
		for range 10 {
			item := impl.Local{To: strings.Clone(d.worldKey()), From: strings.Clone(d.worldKey()), Message: strings.Clone(sent(d.worldMail()[2:]...))}
			filed := impl.FileInto(c, item)
			lists, texts := opSpans(filed)
			wantEachApart(t, "lists", lists)
			wantApartFrom(t, "lists", lists, givenLists)
			wantApartFrom(t, "texts", distinctTexts(texts), append(givenTexts, textSpan(item.To), textSpan(item.From), textSpan(item.Message)))
			for at := range filed {
				filed[at].Flags = append(filed[at].Flags, "more")
			}
		}
		if seen != worldWithRoom(c, ops) {
			t.Fatal("an argument has changed")
		}
	}
}

func TestWorldsLeaveNothingRunning(t *testing.T) {
	before := runtime.NumGoroutine()
	d := &dice{state: 1909}
	for range 30 {
		c := d.worldConfig()
		for _, ops := range [][]impl.WorldOp{nil, {handing("x")}, {reading(0, "x")}, {falling(0, 0), falling(0, 0)}, {hanging, hanging}, d.worldOps(50), make([]impl.WorldOp, maxOps+1), {handing(xs(maxText + 1))}} {
			impl.RunWorld(c, ops)
		}
		c.Percent = -1
		impl.RunWorld(c, d.worldOps(5))
	}
	wantQuiet(t, before)
}

// TestWorldsAgain has the same answer each time, also of several calls at one time.
func TestWorldsAgain(t *testing.T) {
	d := &dice{state: 1910}
	for range 20 {
		c, ops := d.worldConfig(), d.worldOps(100)
		first := shownWhole(impl.RunWorld(c, ops))
		same := make(chan bool)
		for range 5 {
			go func() { same <- shownWhole(impl.RunWorld(c, ops)) == first }()
		}
		for range 5 {
			if !<-same {
				t.Error("a run answers otherwise another time")
			}
		}
	}
}

// TestRunWorldGreat has runs as great as can be.
func TestRunWorldGreat(t *testing.T) {
	// As many mails as fit into chunks of MaxText bytes, for one who keeps all and one who sends all on.
	mail := sent("MAIL FROM:<>", "RCPT TO:<kim@a>", "RCPT TO:<bob@a>", "DATA", "", ".")
	chunk := strings.Repeat(mail, maxText/len(mail))
	run := impl.RunWorld(plainWorld(), append([]impl.WorldOp{handing("HELO b\r\n")}, slices.Repeat([]impl.WorldOp{handing(chunk)}, 10)...))
	checkWorldStore(t, "many mails", run)
	for _, box := range run.Store.Boxes {
		if len(box.Mails) != maxMails {
			t.Errorf("%s has %d mails", box.Name, len(box.Mails))
		}
	}
	// All that one session says, in as many operations as there can be, with all falling now and then.
	var ops []impl.WorldOp
	for len(ops) < maxOps {
		ops = append(ops, speaking(int64(len(ops)%maxSessions), "a LOGIN ann p", "b SELECT INBOX", `c APPEND INBOX () "`+xs(200)+`"`))
		if len(ops)%7 == 0 {
			ops = append(ops, writing)
		}
		if len(ops)%50 == 0 {
			ops = append(ops, falling(100, 3))
		}
		if len(ops)%60 == 0 {
			ops = append(ops, speaking(int64(len(ops)%maxSessions), "d LOGIN ann p", "e SELECT INBOX", `f STORE 1:* +FLAGS (\Deleted)`, "g EXPUNGE"))
		}
	}
	run = impl.RunWorld(plainWorld(), ops[:maxOps])
	checkWorldStore(t, "many operations", run)
	if log := impl.ReadLog(run.Disk.Data); len(log.Ops) < 1000 {
		t.Errorf("the log has %d operations", len(log.Ops))
	}
	// Users who all send to one another, as far as that goes.
	c := changedWorld(func(c *impl.WorldConfig) {
		c.Users = manyUsers(20, `redirect "us@a"; keep;`)
		c.Queue.Aliases = []impl.Alias{alias("us@a")}
		for _, user := range c.Users {
			c.Queue.Aliases[0].To = append(c.Queue.Aliases[0].To, user.Name+"@a")
		}
	})
	run = checkWorld(t, "one another", c, oneMail("", "s", "us@a")...)
	if len(run.Outs[0].Events) != maxItems || len(run.Store.Boxes[0].Mails) != maxMails {
		t.Errorf("one another: %d events, %d mails", len(run.Outs[0].Events), len(run.Store.Boxes[0].Mails))
	}
}
