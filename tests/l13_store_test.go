package tests

import (
	"cmp"
	"fmt"
	"math"
	"regexp"
	"slices"
	"strings"
	"testing"
	"unsafe"

	"loop.example/g00013/impl"
)

const (
	maxBoxes      = 32
	maxMails      = 300
	maxFlags      = 20
	maxStoreBytes = 400000
	maxNumber     = 4294967295
	maxOps        = 2000
)

func TestStoreConstants(t *testing.T) {
	got := []int64{impl.MaxBoxes, impl.MaxMails, impl.MaxFlags, impl.MaxStoreBytes, impl.MaxNumber, impl.MaxOps}
	wantNumbers(t, "limits", "", got, []int64{maxBoxes, maxMails, maxFlags, maxStoreBytes, maxNumber, maxOps})
	kinds := []int64{impl.StCreate, impl.StDelete, impl.StRename, impl.StAppend, impl.StSet, impl.StAdd, impl.StDrop, impl.StExpunge, impl.StCopy}
	wantNumbers(t, "kinds", "", kinds, []int64{1, 2, 3, 4, 5, 6, 7, 8, 9})
}

func checkFlag(t *testing.T, text string, want int64) {
	t.Helper()
	if got := impl.FlagFault(text); got != want {
		t.Errorf("FlagFault of %s: %d, want %d", short(text), got, want)
	}
}

var systemFlags = some(`\Seen`, `\Answered`, `\Flagged`, `\Deleted`, `\Draft`)

func TestFlagFaultOfSystemFlags(t *testing.T) {
	for _, name := range systemFlags {
		checkFlag(t, name, impl.OK)
		// Without the byte 92 it is a flag like any other.
		checkFlag(t, name[1:], impl.OK)
		wrong := some(`\`+name, strings.ToLower(name), strings.ToUpper(name), name+" ", " "+name, name+"x", name[:len(name)-1], name[1:]+`\`, name+`\`, "/"+name[1:])
		for _, text := range wrong {
			checkFlag(t, text, impl.ErrForm)
		}
	}
	for _, text := range some(`\`, `\\`, `\Recent`, `\x`, `\*`, `\Seen\Seen`, `\Seen \Draft`) {
		checkFlag(t, text, impl.ErrForm)
	}
}

func TestFlagFaultSizes(t *testing.T) {
	for size := range 40 {
		want := int64(impl.OK)
		if size < 1 || size > 30 {
			want = impl.ErrForm
		}
		checkFlag(t, xs(size), want)
	}
	for _, size := range []int{255, 256, 257, 65536 + 30, maxText, maxText + 1} {
		checkFlag(t, xs(size), impl.ErrForm)
	}
}

const (
	boxSigns  = "abcdefghijklmnopqrstuvwxyzABCDEFGHIJKLMNOPQRSTUVWXYZ0123456789-_"
	flagSigns = boxSigns + "$"
)

func TestFlagFaultBytes(t *testing.T) {
	for b := range 256 {
		sign := string([]byte{byte(b)})
		want := int64(impl.ErrForm)
		if strings.Contains(flagSigns, sign) {
			want = impl.OK
		}
		for _, text := range some(sign, "a"+sign, sign+"a", "a"+sign+"a", sign+sign, xs(29)+sign, sign+xs(29)) {
			checkFlag(t, text, want)
		}
	}
	for _, text := range some("é", "a\x00", "Ü", "ａ", "a b", "a\r\n", "(a)", "a/b", "a.b", "[", "`", "{", "@", ":") {
		checkFlag(t, text, impl.ErrForm)
	}
}

func checkBoxName(t *testing.T, name string, want int64) {
	t.Helper()
	if got := impl.BoxNameFault(name); got != want {
		t.Errorf("BoxNameFault of %s: %d, want %d", short(name), got, want)
	}
}

func TestBoxNameFaultSizes(t *testing.T) {
	for size := range 70 {
		want := int64(impl.OK)
		if size < 1 || size > 60 {
			want = impl.ErrForm
		}
		checkBoxName(t, xs(size), want)
		if size >= 3 {
			checkBoxName(t, "a/"+xs(size-2), want)
			checkBoxName(t, xs(size-2)+"/a", want)
		}
	}
	checkBoxName(t, strings.Repeat("a/", 29)+"ab", impl.OK)
	checkBoxName(t, strings.Repeat("a/", 30), impl.ErrForm)
	checkBoxName(t, strings.Repeat("a/", 30)+"a", impl.ErrForm)
	for _, size := range []int{255, 256, 256 + 60, 65536 + 1, maxText, maxText + 1} {
		checkBoxName(t, xs(size), impl.ErrForm)
	}
}

func TestBoxNameFaultSteps(t *testing.T) {
	for _, name := range some("a/b", "a/b/c", "INBOX/x", "a/INBOX", "inbox", "-/_", "0/0/0") {
		checkBoxName(t, name, impl.OK)
	}
	for _, name := range some("/", "//", "/a", "a/", "/a/", "a//b", "a///b", "//a", "a//", "a/b//c", "a//b/c", `a\b`, "a.b", "a/ b") {
		checkBoxName(t, name, impl.ErrForm)
	}
	for at := range 60 {
		name := []byte(xs(60))
		name[at] = '/'
		want := int64(impl.OK)
		if at == 0 || at == 59 {
			want = impl.ErrForm
		}
		checkBoxName(t, string(name), want)
		name[(at+1)%60] = '/'
		checkBoxName(t, string(name), impl.ErrForm)
	}
}

func TestBoxNameFaultBytes(t *testing.T) {
	for b := range 256 {
		sign := string([]byte{byte(b)})
		want := int64(impl.ErrForm)
		if strings.Contains(boxSigns, sign) {
			want = impl.OK
		}
		for _, name := range some(sign, "a"+sign, sign+"a", "a/"+sign, sign+"/a", xs(59)+sign, sign+xs(59)) {
			checkBoxName(t, name, want)
		}
	}
	checkBoxName(t, "a$", impl.ErrForm)
	checkBoxName(t, "é", impl.ErrForm)
}

func sameMail(a, b impl.Mail) bool {
	return a.Uid == b.Uid && a.Mod == b.Mod && a.Time == b.Time && a.Message == b.Message && slices.Equal(a.Flags, b.Flags)
}

func sameMailbox(a, b impl.Mailbox) bool {
	return a.Name == b.Name && a.Validity == b.Validity && a.NextUid == b.NextUid && a.TopMod == b.TopMod &&
		slices.EqualFunc(a.Mails, b.Mails, sameMail) && slices.Equal(a.Gones, b.Gones)
}

func sameStores(a, b impl.Store) bool {
	return a.NextValidity == b.NextValidity && slices.EqualFunc(a.Boxes, b.Boxes, sameMailbox)
}

func sameOut(a, b impl.StoreOut) bool {
	return a.Code == b.Code && slices.Equal(a.Uids, b.Uids) && slices.Equal(a.Failed, b.Failed)
}

func storeCopy(store impl.Store) impl.Store {
	store.Boxes = slices.Clone(store.Boxes)
	for at, b := range store.Boxes {
		mails := slices.Clone(b.Mails)
		for i, mail := range mails {
			mails[i].Flags = slices.Clone(mail.Flags)
		}
		store.Boxes[at].Mails, store.Boxes[at].Gones = mails, slices.Clone(b.Gones)
	}
	return store
}

func stored(uid, mod int64, message string, flags ...string) impl.Mail {
	return impl.Mail{Uid: uid, Mod: mod, Time: 1000 + uid, Flags: flags, Message: message}
}

// someStore has its INBOX between two other boxes, with mails and some that are gone.
func someStore() impl.Store {
	return impl.Store{NextValidity: 10, Boxes: []impl.Mailbox{
		{Name: "A/b", Validity: 9, NextUid: 3, TopMod: 4, Mails: []impl.Mail{stored(2, 4, "one", "$x")}},
		{
			Name: "INBOX", Validity: 1, NextUid: 10, TopMod: 12,
			Mails: []impl.Mail{
				stored(2, 3, "abc", `\Seen`),
				stored(3, 12, ""),
				stored(5, 7, "hello", `\Deleted`, "x"),
				stored(7, 7, "ab", `\Deleted`, `\Draft`, `\Seen`),
			},
			Gones: []impl.Gone{{Uid: 1, Mod: 4}, {Uid: 8, Mod: 4}, {Uid: 4, Mod: 9}, {Uid: 6, Mod: 12}},
		},
		{Name: "z", Validity: 4, NextUid: 1},
	}}
}

// The places of the boxes of someStore.
const (
	aheadBox = 0
	inBox    = 1
	lastBox  = 2
)

// manyFlags rise.
func manyFlags(from, end int) []string {
	var flags []string
	for number := from; number < end; number++ {
		flags = append(flags, fmt.Sprintf("f%02d", number))
	}
	return flags
}

// manyMails have the Uids and Mods from 1 on.
func manyMails(size int, message string, flags ...string) []impl.Mail {
	var mails []impl.Mail
	for at := range int64(size) {
		mails = append(mails, impl.Mail{Uid: at + 1, Mod: at + 1, Flags: slices.Clone(flags), Message: message})
	}
	return mails
}

// upTo are the numbers from one to another.
func upTo(from, last int64) []int64 {
	var numbers []int64
	for number := from; number <= last; number++ {
		numbers = append(numbers, number)
	}
	return numbers
}

func manyGones(from, last, mod int64) []impl.Gone {
	var gones []impl.Gone
	for _, uid := range upTo(from, last) {
		gones = append(gones, impl.Gone{Uid: uid, Mod: mod})
	}
	return gones
}

// storeOfBytes has messages of so many bytes together in its last box, each as long as it may be.
func storeOfBytes(size int) impl.Store {
	s := someStore()
	size -= 13
	b := &s.Boxes[lastBox]
	for size > 0 {
		next := min(size, maxText)
		b.TopMod++
		b.Mails = append(b.Mails, impl.Mail{Uid: b.NextUid, Mod: b.TopMod, Message: xs(next)})
		b.NextUid++
		size -= next
	}
	return s
}

var (
	flagForm    = regexp.MustCompile(`\A(\\(Seen|Answered|Flagged|Deleted|Draft)|[a-zA-Z0-9$_-]{1,30})\z`)
	boxNameForm = regexp.MustCompile(`\A[a-zA-Z0-9_-]+(/[a-zA-Z0-9_-]+)*\z`)
)

func isBoxName(name string) bool { return len(name) <= 60 && boxNameForm.MatchString(name) }

func areSlowFlags(flags []string) bool {
	for _, text := range flags {
		if !flagForm.MatchString(text) {
			return false
		}
	}
	return len(flags) <= maxFlags
}

// slowStoreFault holds each two things against each other.
func slowStoreFault(s impl.Store) int64 {
	between := func(least, number, most int64) bool { return number >= least && number <= most }
	ok := between(1, s.NextValidity, maxNumber) && between(1, int64(len(s.Boxes)), maxBoxes)
	inboxes, size := 0, 0
	for at, b := range s.Boxes {
		ok = ok && isBoxName(b.Name) && b.Validity >= 1 && b.Validity < s.NextValidity
		for _, later := range s.Boxes[at+1:] {
			ok = ok && strings.Compare(b.Name, later.Name) < 0 && b.Validity != later.Validity
		}
		if b.Name == "INBOX" {
			inboxes++
		}
		ok = ok && between(1, b.NextUid, maxNumber) && between(0, b.TopMod, maxNumber) && len(b.Mails) <= maxMails && len(b.Gones) <= maxMails
		for i, mail := range b.Mails {
			ok = ok && mail.Uid >= 1 && mail.Uid < b.NextUid && between(1, mail.Mod, b.TopMod) && between(0, mail.Time, maxTime)
			ok = ok && areSlowFlags(mail.Flags) && slices.IsSorted(mail.Flags) && len(slices.Compact(slices.Clone(mail.Flags))) == len(mail.Flags)
			ok = ok && len(mail.Message) <= maxText
			size += len(mail.Message)
			for _, later := range b.Mails[i+1:] {
				ok = ok && mail.Uid < later.Uid
			}
			for _, gone := range b.Gones {
				ok = ok && mail.Uid != gone.Uid
			}
		}
		for i, gone := range b.Gones {
			ok = ok && gone.Uid >= 1 && gone.Uid < b.NextUid && between(1, gone.Mod, b.TopMod)
			for _, later := range b.Gones[i+1:] {
				ok = ok && gone.Uid != later.Uid && gone.Mod <= later.Mod
			}
		}
	}
	if ok && inboxes == 1 && size <= maxStoreBytes {
		return impl.OK
	}
	return impl.ErrForm
}

// checkStore holds a fault against what RunStore answers, too.
func checkStore(t *testing.T, what string, store impl.Store, want int64) {
	t.Helper()
	before := storeCopy(store)
	if got, slow := impl.StoreFault(store), slowStoreFault(store); got != want || slow != want {
		t.Errorf("StoreFault, %s: %d, the slow one %d, want %d", what, got, slow, want)
	}
	var kept impl.Store
	outs := 0
	if want == impl.OK {
		kept, outs = store, 1
	}
	if run := impl.RunStore(store, nil); !sameStores(run.Store, kept) || len(run.Outs) != 0 {
		t.Errorf("RunStore of nothing, %s: %s", what, shown(run))
	}
	if run := impl.RunStore(store, []impl.StoreOp{{}}); !sameStores(run.Store, kept) || len(run.Outs) != outs {
		t.Errorf("RunStore of an ill operation, %s: %s", what, shown(run))
	}
	if !sameStores(before, store) {
		t.Errorf("%s: the argument has changed", what)
	}
}

// storeChange makes another store of someStore.
type storeChange struct {
	what   string
	want   int64
	change func(s *impl.Store)
}

func checkChanges(t *testing.T, changes []storeChange) {
	t.Helper()
	for _, c := range changes {
		s := someStore()
		c.change(&s)
		checkStore(t, c.what, s, c.want)
	}
}

func TestStoreFaultOfBoxes(t *testing.T) {
	checkStore(t, "the beginning", impl.StoreStart(), impl.OK)
	checkStore(t, "some store", someStore(), impl.OK)
	checkStore(t, "nothing", impl.Store{}, impl.ErrForm)
	checkStore(t, "no box", impl.Store{NextValidity: 5}, impl.ErrForm)
	checkChanges(t, []storeChange{
		{"no INBOX", impl.ErrForm, func(s *impl.Store) { s.Boxes = slices.Delete(s.Boxes, inBox, inBox+1) }},
		{"INBOX alone", impl.OK, func(s *impl.Store) { s.Boxes = s.Boxes[inBox : inBox+1] }},
		{"INBOX in other capitals", impl.ErrForm, func(s *impl.Store) { s.Boxes[inBox].Name = "Inbox" }},
		{"equal names", impl.ErrForm, func(s *impl.Store) { s.Boxes[lastBox].Name = "INBOX" }},
		{"equal names ahead", impl.ErrForm, func(s *impl.Store) { s.Boxes[aheadBox].Name = "INBOX" }},
		{"falling names", impl.ErrForm, func(s *impl.Store) { s.Boxes[lastBox].Name = "A/a" }},
		{"a falling name ahead", impl.ErrForm, func(s *impl.Store) { s.Boxes[aheadBox].Name = "zz" }},
		{"a name that only just rises", impl.OK, func(s *impl.Store) { s.Boxes[lastBox].Name = "INBOX-" }},
		{"a name that only just falls", impl.ErrForm, func(s *impl.Store) { s.Boxes[lastBox].Name = "INBO" }},
		{"an empty name", impl.ErrForm, func(s *impl.Store) { s.Boxes[aheadBox].Name = "" }},
		{"an ill name", impl.ErrForm, func(s *impl.Store) { s.Boxes[lastBox].Name = "z/" }},
		{"a name of 60", impl.OK, func(s *impl.Store) { s.Boxes[lastBox].Name = xs(60) }},
		{"a name of 61", impl.ErrForm, func(s *impl.Store) { s.Boxes[lastBox].Name = xs(61) }},
		{"a name that is too long", impl.ErrForm, func(s *impl.Store) { s.Boxes[lastBox].Name = xs(maxText + 1) }},
	})
	for _, size := range []int{1, 2, maxBoxes - 1, maxBoxes, maxBoxes + 1, 2 * maxBoxes, 3000} {
		want := int64(impl.OK)
		if size > maxBoxes {
			want = impl.ErrForm
		}
		checkStore(t, fmt.Sprint(size, " boxes"), storeOfBoxes(size), want)
	}
}

// storeOfBoxes has an INBOX and others behind it.
func storeOfBoxes(size int) impl.Store {
	s := impl.StoreStart()
	for len(s.Boxes) < size {
		s.Boxes = append(s.Boxes, impl.Mailbox{Name: fmt.Sprintf("b%04d", len(s.Boxes)), Validity: s.NextValidity, NextUid: 1})
		s.NextValidity++
	}
	return s
}

func TestStoreFaultOfValidities(t *testing.T) {
	for next, want := range map[int64]int64{
		0: impl.ErrForm, -1: impl.ErrForm, 1: impl.ErrForm, 2: impl.OK, 3: impl.OK, maxNumber - 1: impl.OK, maxNumber: impl.OK, maxNumber + 1: impl.ErrForm,
		math.MaxInt64: impl.ErrForm, math.MinInt64: impl.ErrForm, 1<<32 + 2: impl.ErrForm,
	} {
		s := impl.StoreStart()
		s.NextValidity = next
		checkStore(t, fmt.Sprint("NextValidity ", next), s, want)
	}
	for validity, want := range map[int64]int64{
		0: impl.ErrForm, -1: impl.ErrForm, 1: impl.ErrForm, 2: impl.OK, 3: impl.OK, 9: impl.ErrForm, 8: impl.OK, 10: impl.ErrForm, 11: impl.ErrForm,
		math.MaxInt64: impl.ErrForm, math.MinInt64: impl.ErrForm, 1<<32 + 2: impl.ErrForm,
	} {
		s := someStore()
		s.Boxes[lastBox].Validity = validity
		checkStore(t, fmt.Sprint("Validity ", validity), s, want)
	}
	s := someStore()
	s.NextValidity = maxNumber
	s.Boxes[inBox].Validity = maxNumber - 1
	checkStore(t, "the last Validity", s, impl.OK)
	s.Boxes[inBox].Validity = maxNumber
	checkStore(t, "a Validity of NextValidity", s, impl.ErrForm)
}

func TestStoreFaultOfNumbers(t *testing.T) {
	for next, want := range map[int64]int64{
		0: impl.ErrForm, -1: impl.ErrForm, 1: impl.OK, 2: impl.OK, maxNumber - 1: impl.OK, maxNumber: impl.OK, maxNumber + 1: impl.ErrForm,
		math.MaxInt64: impl.ErrForm, math.MinInt64: impl.ErrForm,
	} {
		s := someStore()
		s.Boxes[lastBox].NextUid = next
		checkStore(t, fmt.Sprint("NextUid ", next), s, want)
	}
	for top, want := range map[int64]int64{
		0: impl.OK, -1: impl.ErrForm, 1: impl.OK, maxNumber - 1: impl.OK, maxNumber: impl.OK, maxNumber + 1: impl.ErrForm,
		math.MaxInt64: impl.ErrForm, math.MinInt64: impl.ErrForm,
	} {
		s := someStore()
		s.Boxes[lastBox].TopMod = top
		checkStore(t, fmt.Sprint("TopMod ", top), s, want)
	}
	checkChanges(t, []storeChange{
		{"NextUid just above all", impl.OK, func(s *impl.Store) { s.Boxes[inBox].NextUid = 9 }},
		{"NextUid of one that is gone", impl.ErrForm, func(s *impl.Store) { s.Boxes[inBox].NextUid = 8 }},
		{"NextUid of a mail", impl.ErrForm, func(s *impl.Store) { s.Boxes[aheadBox].NextUid = 2 }},
		{"TopMod below a mail's Mod", impl.ErrForm, func(s *impl.Store) { s.Boxes[aheadBox].TopMod = 3 }},
		{"TopMod below a gone one's Mod", impl.ErrForm, func(s *impl.Store) {
			s.Boxes[inBox].Mails[1].Mod = 11
			s.Boxes[inBox].TopMod = 11
		}},
		{"the last Uid and Mod", impl.OK, func(s *impl.Store) {
			s.Boxes[inBox].NextUid, s.Boxes[inBox].TopMod = maxNumber, maxNumber
			s.Boxes[inBox].Mails[3].Uid, s.Boxes[inBox].Mails[3].Mod = maxNumber-1, maxNumber
		}},
		{"a Uid of MaxNumber", impl.ErrForm, func(s *impl.Store) {
			s.Boxes[inBox].NextUid = maxNumber
			s.Boxes[inBox].Mails[3].Uid = maxNumber
		}},
	})
}

func TestStoreFaultOfMails(t *testing.T) {
	for uid, want := range map[int64]int64{
		0: impl.ErrForm, -1: impl.ErrForm, 1: impl.ErrForm, 2: impl.ErrForm, 3: impl.ErrForm, 4: impl.ErrForm, 5: impl.ErrForm, 6: impl.ErrForm,
		7: impl.OK, 8: impl.ErrForm, 9: impl.OK, 10: impl.ErrForm, 11: impl.ErrForm, math.MaxInt64: impl.ErrForm, math.MinInt64: impl.ErrForm,
	} {
		s := someStore()
		s.Boxes[inBox].Mails[3].Uid = uid
		checkStore(t, fmt.Sprint("a Uid of ", uid), s, want)
	}
	for mod, want := range map[int64]int64{
		0: impl.ErrForm, -1: impl.ErrForm, 1: impl.OK, 3: impl.OK, 11: impl.OK, 12: impl.OK, 13: impl.ErrForm, math.MaxInt64: impl.ErrForm, math.MinInt64: impl.ErrForm,
	} {
		s := someStore()
		s.Boxes[inBox].Mails[2].Mod = mod
		checkStore(t, fmt.Sprint("a Mod of ", mod), s, want)
	}
	for time, want := range map[int64]int64{
		0: impl.OK, -1: impl.ErrForm, 1: impl.OK, maxTime: impl.OK, maxTime + 1: impl.ErrForm, math.MaxInt64: impl.ErrForm, math.MinInt64: impl.ErrForm,
	} {
		s := someStore()
		s.Boxes[inBox].Mails[0].Time = time
		checkStore(t, fmt.Sprint("a Time of ", time), s, want)
	}
	for _, size := range []int{0, 1, maxMails - 1, maxMails, maxMails + 1, 2 * maxMails} {
		s := someStore()
		s.Boxes[lastBox] = impl.Mailbox{Name: "z", Validity: 4, NextUid: 1000, TopMod: 1000, Mails: manyMails(size, "m")}
		want := int64(impl.OK)
		if size > maxMails {
			want = impl.ErrForm
		}
		checkStore(t, fmt.Sprint(size, " mails"), s, want)
	}
}

func TestStoreFaultOfFlags(t *testing.T) {
	for _, c := range []struct {
		flags []string
		want  int64
	}{
		{nil, impl.OK}, {some("a"), impl.OK}, {some("a", "b"), impl.OK}, {some("A", "a"), impl.OK}, {some("$", "-", "0", "A", `\Seen`, "_", "a"), impl.OK},
		{systemFlags, impl.ErrForm}, {slices.Sorted(slices.Values(systemFlags)), impl.OK}, {some("a", "ab"), impl.OK}, {some("ab", "a"), impl.ErrForm},
		{some("a", "a"), impl.ErrForm}, {some("b", "a"), impl.ErrForm}, {some("a", "A"), impl.ErrForm}, {some("a", "b", "b"), impl.ErrForm}, {some("a", "c", "b"), impl.ErrForm},
		{some(""), impl.ErrForm}, {some("", "a"), impl.ErrForm}, {some(`\seen`), impl.ErrForm}, {some("a", "b c"), impl.ErrForm}, {some(xs(30)), impl.OK}, {some(xs(31)), impl.ErrForm},
		{some(xs(maxText + 1)), impl.ErrForm}, {manyFlags(0, maxFlags-1), impl.OK}, {manyFlags(0, maxFlags), impl.OK}, {manyFlags(0, maxFlags+1), impl.ErrForm},
		{manyFlags(0, 99), impl.ErrForm},
	} {
		for _, at := range []int{0, 3} {
			s := someStore()
			s.Boxes[inBox].Mails[at].Flags = c.flags
			checkStore(t, fmt.Sprint("flags ", shown(c.flags)), s, c.want)
		}
	}
}

func TestStoreFaultOfGones(t *testing.T) {
	gone := func(uid, mod int64) func(s *impl.Store) {
		return func(s *impl.Store) { s.Boxes[inBox].Gones[1] = impl.Gone{Uid: uid, Mod: mod} }
	}
	checkChanges(t, []storeChange{
		{"another one gone", impl.OK, gone(9, 4)},
		{"Uid of 0", impl.ErrForm, gone(0, 4)},
		{"Uid of -1", impl.ErrForm, gone(-1, 4)},
		{"Uid of NextUid", impl.ErrForm, gone(10, 4)},
		{"Uid above NextUid", impl.ErrForm, gone(math.MaxInt64, 4)},
		{"Uid of a mail", impl.ErrForm, gone(2, 4)},
		{"Uid of the last mail", impl.ErrForm, gone(7, 4)},
		{"gone twice, ahead", impl.ErrForm, gone(1, 4)},
		{"gone twice, behind", impl.ErrForm, gone(6, 4)},
		{"Mod of 0", impl.ErrForm, gone(8, 0)},
		{"Mod of -1", impl.ErrForm, gone(8, -1)},
		{"Mod that falls", impl.ErrForm, gone(8, 3)},
		{"Mod that rises", impl.OK, gone(8, 5)},
		{"Mod of the next one", impl.OK, gone(8, 9)},
		{"Mod above the next one's", impl.ErrForm, gone(8, 10)},
		{"last Mod of TopMod less one", impl.OK, func(s *impl.Store) { s.Boxes[inBox].Gones[3].Mod = 11 }},
		{"last Mod above TopMod", impl.ErrForm, func(s *impl.Store) { s.Boxes[inBox].Gones[3].Mod = 13 }},
		{"first Mod of 1", impl.OK, func(s *impl.Store) { s.Boxes[inBox].Gones[0].Mod = 1 }},
		{"first Mod of 0", impl.ErrForm, func(s *impl.Store) { s.Boxes[inBox].Gones[0].Mod = 0 }},
		{"Uids of another box's mails", impl.OK, func(s *impl.Store) { s.Boxes[aheadBox].Gones = []impl.Gone{{Uid: 1, Mod: 1}} }},
	})
	for _, size := range []int64{0, 1, maxMails - 1, maxMails, maxMails + 1, 2 * maxMails} {
		s := someStore()
		s.Boxes[lastBox] = impl.Mailbox{Name: "z", Validity: 4, NextUid: 1000, TopMod: 5, Gones: manyGones(1, size, 5)}
		want := int64(impl.OK)
		if size > maxMails {
			want = impl.ErrForm
		}
		checkStore(t, fmt.Sprint(size, " gones"), s, want)
	}
}

func TestStoreFaultOfBytes(t *testing.T) {
	for size, want := range map[int]int64{0: impl.OK, 1: impl.OK, maxText: impl.OK, maxText + 1: impl.ErrForm, 2 * maxText: impl.ErrForm} {
		s := someStore()
		s.Boxes[inBox].Mails[1].Message = xs(size)
		checkStore(t, fmt.Sprint("a message of ", size), s, want)
	}
	for size, want := range map[int]int64{maxStoreBytes - 1: impl.OK, maxStoreBytes: impl.OK, maxStoreBytes + 1: impl.ErrForm, 2 * maxStoreBytes: impl.ErrForm} {
		s := storeOfBytes(size)
		checkStore(t, fmt.Sprint(size, " bytes"), s, want)
		if got := impl.StoreBytes(s); got != int64(size) {
			t.Errorf("StoreBytes: %d, want %d", got, size)
		}
	}
}

// TestStoreFaultOfTurnedStores turns one thing or two.
func TestStoreFaultOfTurnedStores(t *testing.T) {
	d := &dice{state: 1400}
	wrong := 0
	for range 4000 {
		s := someStore()
		for range 1 + d.below(2) {
			d.turn(&s)
		}
		want := slowStoreFault(s)
		if want != impl.OK {
			wrong++
		}
		if got := impl.StoreFault(s); got != want {
			t.Fatalf("StoreFault of %#v: %d, want %d", s, got, want)
		}
	}
	if wrong < 1000 || wrong > 3500 {
		t.Errorf("%d wrong ones", wrong)
	}
}

func (d *dice) turn(s *impl.Store) {
	number := []int64{-1, 0, 1, 2, 3, 4, 5, 7, 8, 9, 10, 12, 13, maxNumber, maxNumber + 1}[d.below(15)]
	b := &s.Boxes[d.below(len(s.Boxes))]
	switch kind := d.below(12); {
	case kind == 0:
		s.NextValidity = number
	case kind == 1:
		b.Name = d.pick("A/b", "INBOX", "z", "B", "Z", "a//b", "")
	case kind == 2:
		b.Validity = number
	case kind == 3:
		b.NextUid = number
	case kind == 4:
		b.TopMod = number
	case kind < 9 && len(b.Mails) > 0:
		mail := &b.Mails[d.below(len(b.Mails))]
		switch d.below(4) {
		case 0:
			mail.Uid = number
		case 1:
			mail.Mod = number
		case 2:
			mail.Time = number
		default:
			mail.Flags = append(mail.Flags, d.pick(`\Seen`, "a", "x", "y", `\x`, "zz"))
		}
	case len(b.Gones) > 0:
		gone := &b.Gones[d.below(len(b.Gones))]
		if d.below(2) == 0 {
			gone.Uid = number
		} else {
			gone.Mod = number
		}
	}
}

func TestStoreStart(t *testing.T) {
	want := impl.Store{NextValidity: 2, Boxes: []impl.Mailbox{{Name: "INBOX", Validity: 1, NextUid: 1}}}
	first := impl.StoreStart()
	if !sameStores(first, want) {
		t.Errorf("StoreStart: %s", shown(first))
	}
	first.Boxes[0].Name = "other"
	if !sameStores(impl.StoreStart(), want) {
		t.Errorf("StoreStart once more: %s", shown(impl.StoreStart()))
	}
}

func checkBytes(t *testing.T, what string, s impl.Store, want int64) {
	t.Helper()
	if got := impl.StoreBytes(s); got != want {
		t.Errorf("StoreBytes, %s: %d, want %d", what, got, want)
	}
}

func TestStoreBytes(t *testing.T) {
	checkBytes(t, "nothing", impl.Store{}, 0)
	checkBytes(t, "the beginning", impl.StoreStart(), 0)
	checkBytes(t, "some store", someStore(), 13)
	for _, size := range []int{13, 14, 1000, maxText, maxStoreBytes, maxStoreBytes + 1, 3 * maxStoreBytes} {
		checkBytes(t, fmt.Sprint(size), storeOfBytes(size), int64(size))
	}
	// Bytes are counted, not characters, and the flags and names do not count.
	s := impl.Store{Boxes: []impl.Mailbox{{Name: "longer", Mails: []impl.Mail{{Message: "é\r\n\x00"}, {Flags: manyFlags(0, 30)}}}, {Mails: []impl.Mail{{Message: "x"}}}}}
	checkBytes(t, "a store with faults", s, 6)
	for what, b := range storesTooLong() {
		checkBytes(t, what, impl.Store{Boxes: []impl.Mailbox{{Mails: []impl.Mail{{Message: "abc"}}}, b}}, 0)
	}
}

// storesTooLong have one text of more than MaxText bytes each.
func storesTooLong() map[string]impl.Mailbox {
	return map[string]impl.Mailbox{
		"a long name":    {Name: xs(maxText + 1)},
		"a long message": {Name: "a", Mails: []impl.Mail{{Message: xs(maxText + 1)}}},
		"a long flag":    {Name: "a", Mails: []impl.Mail{{Flags: some("x", xs(maxText+1))}}},
	}
}

func checkFindBox(t *testing.T, s impl.Store, name string, want int64) {
	t.Helper()
	if got := impl.FindBox(s, name); got != want {
		t.Errorf("FindBox of %s in %s: %d, want %d", short(name), shown(s), got, want)
	}
}

func TestFindBox(t *testing.T) {
	s := someStore()
	for at, name := range some("A/b", "INBOX", "z") {
		checkFindBox(t, s, name, int64(at))
	}
	for _, name := range some("", "a/b", "A", "A/", "b", "inbox", "INBOX ", "INBO", "INBOXx", "Z", "zz", "\x00", xs(60), xs(61), xs(maxText), xs(maxText+1)) {
		checkFindBox(t, s, name, -1)
	}
	checkFindBox(t, impl.Store{}, "INBOX", -1)
	checkFindBox(t, impl.Store{}, "", -1)
	for at := range maxBoxes {
		many := storeOfBoxes(maxBoxes)
		checkFindBox(t, many, many.Boxes[at].Name, int64(at))
	}
	// A store that is not right is looked through as it is.
	ill := impl.Store{Boxes: []impl.Mailbox{{Name: "z"}, {Name: "a"}, {Name: "/"}, {Name: "a"}, {}}}
	for name, at := range map[string]int64{"z": 0, "a": 1, "/": 2, "": 4, "b": -1} {
		checkFindBox(t, ill, name, at)
	}
	checkFindBox(t, storeOfBoxes(3000), "b2999", 2999)
	for _, b := range storesTooLong() {
		checkFindBox(t, impl.Store{Boxes: []impl.Mailbox{b}}, b.Name, -1)
	}
}

// slowBox is nil if there is none of this name.
func slowBox(s *impl.Store, name string) *impl.Mailbox {
	for at := range s.Boxes {
		if s.Boxes[at].Name == name {
			return &s.Boxes[at]
		}
	}
	return nil
}

// slowOp does an operation on a copy, whose boxes are put in order behind it.
func slowOp(before impl.Store, op impl.StoreOp) (impl.Store, impl.StoreOut) {
	s := storeCopy(before)
	out := slowDo(&s, op)
	if out.Code != impl.OK {
		return before, impl.StoreOut{Code: out.Code}
	}
	slices.SortStableFunc(s.Boxes, func(a, b impl.Mailbox) int { return strings.Compare(a.Name, b.Name) })
	return s, out
}

type slowFault struct {
	holds bool
	code  int64
}

// firstCode is that of the first fault that holds.
func firstCode(faults ...slowFault) int64 {
	for _, one := range faults {
		if one.holds {
			return one.code
		}
	}
	return impl.OK
}

func slowDo(s *impl.Store, op impl.StoreOp) impl.StoreOut {
	b, to := slowBox(s, op.Box), slowBox(s, op.To)
	none := slowFault{b == nil, impl.ErrNone}
	manyUids := slowFault{len(op.Uids) > maxMails, impl.ErrForm}
	switch op.Kind {
	case 1:
		full := len(s.Boxes) == maxBoxes || s.NextValidity == maxNumber
		if code := firstCode(slowFault{!isBoxName(op.Box), impl.ErrForm}, slowFault{b != nil, impl.ErrState}, slowFault{full, impl.ErrFull}); code != impl.OK {
			return impl.StoreOut{Code: code}
		}
		s.Boxes = append(s.Boxes, impl.Mailbox{Name: op.Box, Validity: s.NextValidity, NextUid: 1})
		s.NextValidity++
		return impl.StoreOut{}
	case 2, 3:
		code := firstCode(none, slowFault{op.Box == "INBOX", impl.ErrRight})
		if op.Kind == 3 && code == impl.OK {
			code = firstCode(slowFault{!isBoxName(op.To), impl.ErrForm}, slowFault{to != nil, impl.ErrState})
		}
		if code == impl.OK && op.Kind == 2 {
			s.Boxes = slices.DeleteFunc(s.Boxes, func(other impl.Mailbox) bool { return other.Name == op.Box })
		} else if code == impl.OK {
			b.Name = op.To
		}
		return impl.StoreOut{Code: code}
	case 4:
		ill := !areSlowFlags(op.Flags) || op.Time < 0 || op.Time > maxTime
		if code := firstCode(none, slowFault{ill, impl.ErrForm}, slowFault{len(op.Message) > maxText, impl.ErrSize}); code != impl.OK {
			return impl.StoreOut{Code: code}
		}
		return slowPut(s, b, []impl.Mail{{Time: op.Time, Flags: op.Flags, Message: op.Message}})
	case 5, 6, 7:
		ill := !areSlowFlags(op.Flags) || op.Mod < 0
		if code := firstCode(none, slowFault{ill, impl.ErrForm}, manyUids); code != impl.OK {
			return impl.StoreOut{Code: code}
		}
		return slowFlags(b, op)
	case 8:
		if code := firstCode(none, manyUids); code != impl.OK {
			return impl.StoreOut{Code: code}
		}
		return slowExpunge(b, op.Uids)
	case 9:
		if code := firstCode(none, slowFault{to == nil, impl.ErrNone}, manyUids); code != impl.OK {
			return impl.StoreOut{Code: code}
		}
		var copies []impl.Mail
		for _, mail := range b.Mails {
			if slices.Contains(op.Uids, mail.Uid) {
				copies = append(copies, mail)
			}
		}
		return slowPut(s, to, copies)
	}
	return impl.StoreOut{Code: impl.ErrForm}
}

// slowPut looks at its bounds mail by mail.
func slowPut(s *impl.Store, b *impl.Mailbox, mails []impl.Mail) impl.StoreOut {
	var uids []int64
	size := 0
	for _, other := range s.Boxes {
		for _, mail := range other.Mails {
			size += len(mail.Message)
		}
	}
	for _, mail := range mails {
		size += len(mail.Message)
		if len(b.Mails) == maxMails || b.NextUid == maxNumber || b.TopMod == maxNumber || size > maxStoreBytes {
			return impl.StoreOut{Code: impl.ErrFull}
		}
		flags := slices.Compact(slices.Sorted(slices.Values(mail.Flags)))
		b.TopMod++
		b.Mails = append(b.Mails, impl.Mail{Uid: b.NextUid, Mod: b.TopMod, Time: mail.Time, Flags: flags, Message: mail.Message})
		uids = append(uids, b.NextUid)
		b.NextUid++
	}
	return impl.StoreOut{Uids: uids}
}

func slowFlags(b *impl.Mailbox, op impl.StoreOp) impl.StoreOut {
	if b.TopMod == maxNumber {
		return impl.StoreOut{Code: impl.ErrFull}
	}
	var out impl.StoreOut
	for at := range b.Mails {
		mail := &b.Mails[at]
		if !slices.Contains(op.Uids, mail.Uid) {
			continue
		}
		if op.Mod != 0 && mail.Mod > op.Mod {
			out.Failed = append(out.Failed, mail.Uid)
			continue
		}
		var flags []string
		switch op.Kind {
		case 5:
			flags = slices.Clone(op.Flags)
		case 6:
			flags = append(slices.Clone(mail.Flags), op.Flags...)
		case 7:
			for _, own := range mail.Flags {
				if !slices.Contains(op.Flags, own) {
					flags = append(flags, own)
				}
			}
		}
		slices.Sort(flags)
		mail.Flags = slices.Compact(flags)
		mail.Mod = b.TopMod + 1
		out.Uids = append(out.Uids, mail.Uid)
		if len(mail.Flags) > maxFlags {
			return impl.StoreOut{Code: impl.ErrFull}
		}
	}
	if len(out.Uids) > 0 {
		b.TopMod++
	}
	return out
}

func slowExpunge(b *impl.Mailbox, uids []int64) impl.StoreOut {
	if b.TopMod == maxNumber {
		return impl.StoreOut{Code: impl.ErrFull}
	}
	var out impl.StoreOut
	b.Mails = slices.DeleteFunc(b.Mails, func(mail impl.Mail) bool {
		goes := slices.Contains(mail.Flags, `\Deleted`) && (len(uids) == 0 || slices.Contains(uids, mail.Uid))
		if goes {
			out.Uids = append(out.Uids, mail.Uid)
			b.Gones = append(b.Gones, impl.Gone{Uid: mail.Uid, Mod: b.TopMod + 1})
		}
		return goes
	})
	if len(out.Uids) > 0 {
		b.TopMod++
	}
	for len(b.Gones) > maxMails {
		b.Gones = b.Gones[1:]
	}
	return out
}

// checkOp holds one operation against what is wanted of it, and against the slow one.
func checkOp(t *testing.T, what string, before impl.Store, op impl.StoreOp, want impl.StoreOut, after impl.Store) {
	t.Helper()
	slowAfter, slow := slowOp(before, op)
	if !sameOut(slow, want) || !sameStores(slowAfter, after) {
		t.Errorf("%s: the slow one tells %s, want %s", what, shown(slow), shown(want))
	}
	run := impl.RunStore(before, []impl.StoreOp{op})
	if len(run.Outs) != 1 {
		t.Fatalf("%s: %d outs, the store's fault is %d", what, len(run.Outs), impl.StoreFault(before))
	}
	if !sameOut(run.Outs[0], want) {
		t.Errorf("%s: %s, want %s", what, shown(run.Outs[0]), shown(want))
	}
	if !sameStores(run.Store, after) {
		t.Errorf("%s: the store is %s, want %s", what, shown(run.Store), shown(after))
	}
	if fault := slowStoreFault(run.Store); fault != impl.OK {
		t.Errorf("%s: the store is not right any more", what)
	}
}

// checkRefused wants a code and the store as it was.
func checkRefused(t *testing.T, what string, before impl.Store, op impl.StoreOp, code int64) {
	t.Helper()
	checkOp(t, what, before, op, impl.StoreOut{Code: code}, before)
}

// checkDone wants an operation to change someStore.
func checkDone(t *testing.T, what string, op impl.StoreOp, want impl.StoreOut, change func(s *impl.Store)) {
	t.Helper()
	after := someStore()
	change(&after)
	checkOp(t, what, someStore(), op, want, after)
}

func nothingChanges(*impl.Store) {}

func toldUids(uids ...int64) impl.StoreOut { return impl.StoreOut{Uids: uids} }

// opFault makes a right operation, or its store, wrong.
type opFault struct {
	what string
	code int64
	make func(s *impl.Store, op *impl.StoreOp)
}

func inboxOf(s *impl.Store) *impl.Mailbox { return slowBox(s, "INBOX") }

func inNoBox(_ *impl.Store, op *impl.StoreOp)        { op.Box = "none" }
func withTooManyUids(_ *impl.Store, o *impl.StoreOp) { o.Uids = upTo(1, maxMails+1) }
func withTopMod(s *impl.Store, _ *impl.StoreOp)      { inboxOf(s).TopMod = maxNumber }
func withLastUid(s *impl.Store, _ *impl.StoreOp)     { inboxOf(s).NextUid = maxNumber }

// withMaxBytes fills the last box alone, so that others hold what they held.
func withMaxBytes(s *impl.Store, _ *impl.StoreOp) {
	s.Boxes[lastBox] = storeOfBytes(maxStoreBytes - int(impl.StoreBytes(*s)) + 13).Boxes[lastBox]
}

func withMaxMails(s *impl.Store, _ *impl.StoreOp) {
	b := inboxOf(s)
	b.Mails, b.NextUid, b.TopMod, b.Gones = manyMails(maxMails, ""), max(b.NextUid, 1000), max(b.TopMod, 1000), nil
}

func withIllFlag(_ *impl.Store, op *impl.StoreOp)   { op.Flags = some("a", `\x`) }
func withLongFlag(_ *impl.Store, op *impl.StoreOp)  { op.Flags = some(xs(maxText + 1)) }
func withManyFlags(_ *impl.Store, op *impl.StoreOp) { op.Flags = manyFlags(0, maxFlags+1) }

// flagFaults are those of StSet, StAdd and StDrop.
var flagFaults = []opFault{
	{"no box", impl.ErrNone, inNoBox},
	{"an ill flag", impl.ErrForm, withIllFlag},
	{"a long flag", impl.ErrForm, withLongFlag},
	{"too many flags", impl.ErrForm, withManyFlags},
	{"too many Uids", impl.ErrForm, withTooManyUids},
	{"a Mod below 0", impl.ErrForm, func(_ *impl.Store, op *impl.StoreOp) { op.Mod = -1 }},
	{"the lowest Mod", impl.ErrForm, func(_ *impl.Store, op *impl.StoreOp) { op.Mod = math.MinInt64 }},
	{"no Mod left", impl.ErrFull, withTopMod},
}

var moveFaults = []opFault{
	{"no box", impl.ErrNone, inNoBox},
	{"an ill name", impl.ErrNone, func(_ *impl.Store, op *impl.StoreOp) { op.Box = "/" }},
	{"a long name", impl.ErrNone, func(_ *impl.Store, op *impl.StoreOp) { op.Box = xs(maxText + 1) }},
	{"INBOX", impl.ErrRight, func(_ *impl.Store, op *impl.StoreOp) { op.Box = "INBOX" }},
}

// faultyOp is a right operation, and what makes it wrong, in the order in which the document tells it.
type faultyOp struct {
	op     impl.StoreOp
	faults []opFault
}

// faultyOps has one of each kind.
func faultyOps() []faultyOp {
	return []faultyOp{
		{impl.StoreOp{Kind: impl.StCreate, Box: "new"}, []opFault{
			{"an ill name", impl.ErrForm, func(_ *impl.Store, op *impl.StoreOp) { op.Box = "a//b" }},
			{"no name", impl.ErrForm, func(_ *impl.Store, op *impl.StoreOp) { op.Box = "" }},
			{"a long name", impl.ErrForm, func(_ *impl.Store, op *impl.StoreOp) { op.Box = xs(maxText + 1) }},
			{"there is one", impl.ErrState, func(_ *impl.Store, op *impl.StoreOp) { op.Box = "INBOX" }},
			{"too many boxes", impl.ErrFull, func(s *impl.Store, _ *impl.StoreOp) {
				s.Boxes = storeOfBoxes(maxBoxes).Boxes
				s.NextValidity = maxNumber - 1
			}},
			{"no Validity left", impl.ErrFull, func(s *impl.Store, _ *impl.StoreOp) { s.NextValidity = maxNumber }},
		}},
		{impl.StoreOp{Kind: impl.StDelete, Box: "z"}, moveFaults},
		{impl.StoreOp{Kind: impl.StRename, Box: "z", To: "new"}, slices.Concat(moveFaults, []opFault{
			{"an ill new name", impl.ErrForm, func(_ *impl.Store, op *impl.StoreOp) { op.To = "a/" }},
			{"no new name", impl.ErrForm, func(_ *impl.Store, op *impl.StoreOp) { op.To = "" }},
			{"a long new name", impl.ErrForm, func(_ *impl.Store, op *impl.StoreOp) { op.To = xs(maxText + 1) }},
			{"there is one", impl.ErrState, func(_ *impl.Store, op *impl.StoreOp) { op.To = "INBOX" }},
			{"its own name", impl.ErrState, func(_ *impl.Store, op *impl.StoreOp) { op.To = "z" }},
		})},
		{impl.StoreOp{Kind: impl.StAppend, Box: "INBOX", Flags: some("a"), Time: 7, Message: "m"}, []opFault{
			{"no box", impl.ErrNone, inNoBox},
			{"an ill flag", impl.ErrForm, withIllFlag},
			{"a long flag", impl.ErrForm, withLongFlag},
			{"too many flags", impl.ErrForm, withManyFlags},
			{"a Time below 0", impl.ErrForm, func(_ *impl.Store, op *impl.StoreOp) { op.Time = -1 }},
			{"a Time above all", impl.ErrForm, func(_ *impl.Store, op *impl.StoreOp) { op.Time = maxTime + 1 }},
			{"a long message", impl.ErrSize, func(_ *impl.Store, op *impl.StoreOp) { op.Message = xs(maxText + 1) }},
			{"too many mails", impl.ErrFull, withMaxMails},
			{"no Uid left", impl.ErrFull, withLastUid},
			{"no Mod left", impl.ErrFull, withTopMod},
			{"too many bytes", impl.ErrFull, withMaxBytes},
		}},
		{impl.StoreOp{Kind: impl.StSet, Box: "INBOX", Uids: []int64{2, 5}, Flags: some("a"), Mod: 9}, flagFaults},
		{impl.StoreOp{Kind: impl.StAdd, Box: "INBOX", Uids: []int64{2, 5}, Flags: some("a"), Mod: 9}, slices.Concat(flagFaults, []opFault{
			{"too many flags of a mail", impl.ErrFull, func(s *impl.Store, _ *impl.StoreOp) {
				b := inboxOf(s)
				b.Mails = slices.Clone(b.Mails)
				b.Mails[2].Flags = manyFlags(0, maxFlags)
			}},
		})},
		{impl.StoreOp{Kind: impl.StDrop, Box: "INBOX", Uids: []int64{2, 5}, Flags: some("a"), Mod: 9}, flagFaults},
		{impl.StoreOp{Kind: impl.StExpunge, Box: "INBOX", Uids: []int64{2, 5}}, []opFault{
			{"no box", impl.ErrNone, inNoBox},
			{"too many Uids", impl.ErrForm, withTooManyUids},
			{"no Mod left", impl.ErrFull, withTopMod},
		}},
		{impl.StoreOp{Kind: impl.StCopy, Box: "A/b", Uids: []int64{2}, To: "INBOX"}, []opFault{
			{"no box", impl.ErrNone, inNoBox},
			{"no other box", impl.ErrNone, func(_ *impl.Store, op *impl.StoreOp) { op.To = "none" }},
			{"too many Uids", impl.ErrForm, withTooManyUids},
			{"too many mails", impl.ErrFull, withMaxMails},
			{"no Uid left", impl.ErrFull, withLastUid},
			{"no Mod left", impl.ErrFull, withTopMod},
			{"too many bytes", impl.ErrFull, withMaxBytes},
		}},
	}
}

// TestStoreOpFaults makes each operation wrong in one way, and in each two ways: the one told first is answered.
func TestStoreOpFaults(t *testing.T) {
	for _, kind := range faultyOps() {
		after, want := slowOp(someStore(), kind.op)
		if want.Code != impl.OK {
			t.Fatalf("kind %d: %d", kind.op.Kind, want.Code)
		}
		checkOp(t, fmt.Sprint("kind ", kind.op.Kind), someStore(), kind.op, want, after)
		for first, one := range kind.faults {
			s, op := someStore(), kind.op
			one.make(&s, &op)
			checkRefused(t, fmt.Sprint("kind ", op.Kind, ", ", one.what), s, op, one.code)
			for _, other := range kind.faults[first+1:] {
				s, op := someStore(), kind.op
				// The one told first is made last, so that it holds even where the two cannot hold together.
				other.make(&s, &op)
				one.make(&s, &op)
				checkRefused(t, fmt.Sprint("kind ", op.Kind, ", ", one.what, " and ", other.what), s, op, one.code)
			}
		}
	}
}

func TestStoreOpKinds(t *testing.T) {
	for _, kind := range []int64{0, 10, -1, 11, 255, 256 + 1, 1<<32 + 1, math.MaxInt64, math.MinInt64} {
		for _, op := range []impl.StoreOp{{}, {Box: "INBOX"}, {Box: "none"}, {Box: "new", To: "newer", Uids: upTo(1, 400), Flags: some(""), Time: -1, Mod: -1, Message: xs(maxText + 1)}} {
			op.Kind = kind
			checkRefused(t, fmt.Sprint("kind ", kind), someStore(), op, impl.ErrForm)
		}
	}
}

// TestStoreOpFilled fills what an operation does not name with what would be wrong.
func TestStoreOpFilled(t *testing.T) {
	to := func(op *impl.StoreOp) { op.To = "//" }
	toInbox := func(op *impl.StoreOp) { op.To = "INBOX" }
	uids := func(op *impl.StoreOp) { op.Uids = upTo(-5, maxMails) }
	flags := func(op *impl.StoreOp) { op.Flags = append(manyFlags(0, 30), "", xs(maxText+1)) }
	time := func(op *impl.StoreOp) { op.Time = -1 }
	mod := func(op *impl.StoreOp) { op.Mod = -1 }
	lowMod := func(op *impl.StoreOp) { op.Mod = 1 }
	message := func(op *impl.StoreOp) { op.Message = xs(maxText + 1) }
	for kind, fills := range map[int64][]func(op *impl.StoreOp){
		impl.StCreate:  {to, toInbox, uids, flags, time, mod, message},
		impl.StDelete:  {to, toInbox, uids, flags, time, mod, message},
		impl.StRename:  {uids, flags, time, mod, message},
		impl.StAppend:  {to, toInbox, uids, mod, lowMod},
		impl.StSet:     {to, toInbox, time, message},
		impl.StAdd:     {to, toInbox, time, message},
		impl.StDrop:    {to, toInbox, time, message},
		impl.StExpunge: {to, toInbox, flags, time, mod, lowMod, message},
		impl.StCopy:    {flags, time, mod, lowMod, message},
	} {
		right := faultyOps()[kind-1].op
		after, want := slowOp(someStore(), right)
		all := right
		for at, fill := range fills {
			op := right
			fill(&op)
			fill(&all)
			checkOp(t, fmt.Sprint("kind ", kind, ", filling ", at), someStore(), op, want, after)
		}
		checkOp(t, fmt.Sprint("kind ", kind, ", all filled"), someStore(), all, want, after)
	}
}

func create(name string) impl.StoreOp { return impl.StoreOp{Kind: impl.StCreate, Box: name} }

func TestStoreCreate(t *testing.T) {
	fresh := func(name string) impl.Mailbox { return impl.Mailbox{Name: name, Validity: 10, NextUid: 1} }
	for name, at := range map[string]int{"-": 0, "A": 0, "A/a": 0, "A/b-": 1, "B": 1, "INBO": 1, "INBOX-": 2, "INBOX/x": 2, "inbox": 2, "y": 2, "z-": 3, "z/z": 3, "zz": 3, xs(60): 2} {
		checkDone(t, "StCreate of "+name, create(name), impl.StoreOut{}, func(s *impl.Store) {
			s.Boxes = slices.Insert(s.Boxes, at, fresh(name))
			s.NextValidity = 11
		})
	}
	for name, code := range map[string]int64{"INBOX": impl.ErrState, "A/b": impl.ErrState, "z": impl.ErrState, "": impl.ErrForm, "/": impl.ErrForm, "a$": impl.ErrForm, xs(61): impl.ErrForm} {
		checkRefused(t, "StCreate of "+name, someStore(), create(name), code)
	}
	s := storeOfBoxes(maxBoxes - 1)
	s.NextValidity = maxNumber - 1
	run := impl.RunStore(s, []impl.StoreOp{create("new"), create("newer"), create("new"), create("")})
	wantNumbers(t, "codes", "StCreate at both bounds", outCodes(run), []int64{impl.OK, impl.ErrFull, impl.ErrState, impl.ErrForm})
	if b := run.Store.Boxes[maxBoxes-1]; len(run.Store.Boxes) != maxBoxes || b.Name != "new" || b.Validity != maxNumber-1 || run.Store.NextValidity != maxNumber {
		t.Errorf("the last box is %s", shown(b))
	}
	s = someStore()
	s.NextValidity = maxNumber
	checkRefused(t, "StCreate without a Validity left", s, create("new"), impl.ErrFull)
}

func outCodes(run impl.StoreRun) []int64 {
	var codes []int64
	for _, out := range run.Outs {
		codes = append(codes, out.Code)
	}
	return codes
}

func TestStoreDelete(t *testing.T) {
	remove := func(name string) impl.StoreOp { return impl.StoreOp{Kind: impl.StDelete, Box: name} }
	for name, at := range map[string]int{"A/b": aheadBox, "z": lastBox} {
		checkDone(t, "StDelete of "+name, remove(name), impl.StoreOut{}, func(s *impl.Store) { s.Boxes = slices.Delete(s.Boxes, at, at+1) })
	}
	for name, code := range map[string]int64{"INBOX": impl.ErrRight, "inbox": impl.ErrNone, "": impl.ErrNone, "A": impl.ErrNone, "A/": impl.ErrNone, "y": impl.ErrNone, xs(maxText + 1): impl.ErrNone} {
		checkRefused(t, "StDelete of "+short(name), someStore(), remove(name), code)
	}
	// A box of the same name has nothing of the one that was there.
	run := impl.RunStore(someStore(), []impl.StoreOp{remove("A/b"), remove("A/b"), create("A/b"), remove("A/b"), create("A/b"), create("A/b")})
	wantNumbers(t, "codes", "made again", outCodes(run), []int64{impl.OK, impl.ErrNone, impl.OK, impl.OK, impl.OK, impl.ErrState})
	want := someStore()
	want.NextValidity = 12
	want.Boxes[aheadBox] = impl.Mailbox{Name: "A/b", Validity: 11, NextUid: 1}
	if !sameStores(run.Store, want) {
		t.Errorf("made again: %s, want %s", shown(run.Store), shown(want))
	}
	// What is deleted takes its bytes with it.
	full := storeOfBytes(maxStoreBytes)
	put := impl.StoreOp{Kind: impl.StAppend, Box: "INBOX", Message: xs(maxText)}
	run = impl.RunStore(full, []impl.StoreOp{put, remove("z"), put, put, put, put})
	wantNumbers(t, "codes", "bytes", outCodes(run), []int64{impl.ErrFull, impl.OK, impl.OK, impl.OK, impl.OK, impl.ErrFull})
}

func TestStoreRename(t *testing.T) {
	rename := func(name, to string) impl.StoreOp { return impl.StoreOp{Kind: impl.StRename, Box: name, To: to} }
	for to, at := range map[string]int{"-": 0, "A": 0, "A/a": 0, "A/b-": 0, "INBO": 0, "INBOX/x": 1, "inbox": 1, "y": 1, "zz": 2} {
		checkDone(t, "StRename to "+to, rename("A/b", to), impl.StoreOut{}, func(s *impl.Store) {
			b := s.Boxes[aheadBox]
			b.Name = to
			s.Boxes = slices.Insert(slices.Delete(s.Boxes, aheadBox, aheadBox+1), at, b)
		})
	}
	checkDone(t, "StRename of the last box", rename("z", "0"), impl.StoreOut{}, func(s *impl.Store) {
		b := s.Boxes[lastBox]
		b.Name = "0"
		s.Boxes = slices.Insert(s.Boxes[:lastBox], 0, b)
	})
	for _, c := range []struct {
		name, to string
		code     int64
	}{
		{"INBOX", "new", impl.ErrRight}, {"INBOX", "INBOX", impl.ErrRight}, {"INBOX", "//", impl.ErrRight}, {"none", "new", impl.ErrNone}, {"none", "//", impl.ErrNone},
		{"none", "INBOX", impl.ErrNone}, {"inbox", "new", impl.ErrNone}, {"", "new", impl.ErrNone}, {"z", "", impl.ErrForm}, {"z", "z/", impl.ErrForm}, {"z", xs(61), impl.ErrForm},
		{"z", "z", impl.ErrState}, {"z", "INBOX", impl.ErrState}, {"z", "A/b", impl.ErrState}, {"A/b", "A/b", impl.ErrState},
	} {
		checkRefused(t, "StRename of "+c.name+" to "+short(c.to), someStore(), rename(c.name, c.to), c.code)
	}
	checkDone(t, "StRename to 60 bytes", rename("z", xs(60)), impl.StoreOut{}, func(s *impl.Store) { s.Boxes[lastBox].Name = xs(60) })
	// A full store has room for another name, and the old one is free then.
	full := storeOfBoxes(maxBoxes)
	full.NextValidity = maxNumber
	run := impl.RunStore(full, []impl.StoreOp{rename("b0001", "a"), rename("b0002", "b0001"), rename("b0002", "c")})
	wantNumbers(t, "codes", "a full store", outCodes(run), []int64{impl.OK, impl.OK, impl.ErrNone})
	if at := impl.FindBox(run.Store, "b0001"); at < 0 || run.Store.Boxes[at].Validity != 3 {
		t.Errorf("b0001 is %d of %s", at, shown(run.Store))
	}
}

// putMail is an operation that appends to INBOX.
func putMail(time int64, message string, flags ...string) impl.StoreOp {
	return impl.StoreOp{Kind: impl.StAppend, Box: "INBOX", Flags: flags, Time: time, Message: message}
}

func TestStoreAppend(t *testing.T) {
	for _, c := range []struct {
		op    impl.StoreOp
		flags []string
	}{
		{putMail(5, "new"), nil},
		{putMail(0, ""), nil},
		{putMail(maxTime, "\x00\xff\r\n"), nil},
		{putMail(1, "m", "a"), some("a")},
		{putMail(1, "m", "b", "a"), some("a", "b")},
		{putMail(1, "m", "b", "a", "b", "a", "b"), some("a", "b")},
		{putMail(1, "m", "x", `\Deleted`, "x"), some(`\Deleted`, "x")},
		{putMail(1, "m", "a", "A", "_", `\Seen`, "$", "0"), some("$", "0", "A", `\Seen`, "_", "a")},
		{putMail(1, "m", systemFlags...), slices.Sorted(slices.Values(systemFlags))},
		{putMail(1, "m", slices.Repeat(some("a"), maxFlags)...), some("a")},
		{putMail(1, "m", manyFlags(0, maxFlags)...), manyFlags(0, maxFlags)},
		{putMail(1, xs(maxText)), nil},
	} {
		want := impl.Mail{Uid: 10, Mod: 13, Time: c.op.Time, Flags: c.flags, Message: c.op.Message}
		checkDone(t, "StAppend of "+shown(c.op), c.op, toldUids(10), func(s *impl.Store) {
			b := &s.Boxes[inBox]
			b.Mails, b.NextUid, b.TopMod = append(b.Mails, want), 11, 13
		})
	}
	op := putMail(3, "x")
	op.Box = "z"
	checkDone(t, "StAppend to an empty box", op, toldUids(1), func(s *impl.Store) {
		b := &s.Boxes[lastBox]
		b.Mails, b.NextUid, b.TopMod = []impl.Mail{{Uid: 1, Mod: 1, Time: 3, Message: "x"}}, 2, 1
	})
	for what, op := range map[string]impl.StoreOp{
		"one flag too many":                 putMail(1, "m", manyFlags(0, maxFlags+1)...),
		"one flag too many, though equal":   putMail(1, "m", slices.Repeat(some("a"), maxFlags+1)...),
		"an ill flag behind right ones":     putMail(1, "m", "a", "b", "c d"),
		"an ill flag ahead of right ones":   putMail(1, "m", `\Recent`, "b"),
		"a Time of -1":                      putMail(-1, "m"),
		"a Time of MaxTime and one":         putMail(maxTime+1, "m"),
		"the highest Time":                  putMail(math.MaxInt64, "m"),
		"the lowest Time":                   putMail(math.MinInt64, "m"),
		"an ill flag, and a long message":   putMail(0, xs(maxText+1), ""),
		"a Time of -1, and a long message":  putMail(-1, xs(maxText+1)),
		"very many flags, and no right one": putMail(0, "", make([]string, 5000)...),
	} {
		checkRefused(t, "StAppend, "+what, someStore(), op, impl.ErrForm)
	}
	checkRefused(t, "StAppend of a long message", someStore(), putMail(1, xs(maxText+1)), impl.ErrSize)
	checkRefused(t, "StAppend of a very long message", someStore(), putMail(1, xs(maxStoreBytes+1)), impl.ErrSize)
}

func TestStoreAppendBounds(t *testing.T) {
	run := impl.RunStore(impl.StoreStart(), slices.Repeat([]impl.StoreOp{putMail(1, "")}, maxMails+2))
	for at, out := range run.Outs {
		want := toldUids(int64(at + 1))
		if at >= maxMails {
			want = impl.StoreOut{Code: impl.ErrFull}
		}
		if !sameOut(out, want) {
			t.Errorf("append %d: %s, want %s", at, shown(out), shown(want))
		}
	}
	if b := run.Store.Boxes[0]; len(b.Mails) != maxMails || b.NextUid != maxMails+1 || b.TopMod != maxMails {
		t.Errorf("the full box has %d mails, NextUid %d, TopMod %d", len(b.Mails), b.NextUid, b.TopMod)
	}
	// Another box has room still.
	op := putMail(1, "")
	op.Box = "a"
	wantNumbers(t, "codes", "another box", outCodes(impl.RunStore(run.Store, []impl.StoreOp{create("a"), op, putMail(1, "")})), []int64{impl.OK, impl.OK, impl.ErrFull})

	for what, change := range map[string]func(b *impl.Mailbox){
		"NextUid": func(b *impl.Mailbox) { b.NextUid = maxNumber - 1 },
		"TopMod":  func(b *impl.Mailbox) { b.TopMod = maxNumber - 1 },
		"both":    func(b *impl.Mailbox) { b.NextUid, b.TopMod = maxNumber-1, maxNumber-1 },
	} {
		s := someStore()
		change(&s.Boxes[inBox])
		run := impl.RunStore(s, []impl.StoreOp{putMail(1, "m"), putMail(1, "m")})
		wantNumbers(t, "codes", what, outCodes(run), []int64{impl.OK, impl.ErrFull})
		if b := run.Store.Boxes[inBox]; b.NextUid != s.Boxes[inBox].NextUid+1 || b.TopMod != s.Boxes[inBox].TopMod+1 || impl.StoreFault(run.Store) != impl.OK {
			t.Errorf("%s: %s", what, shown(b))
		}
	}
	full := storeOfBytes(maxStoreBytes - 5)
	codes := outCodes(impl.RunStore(full, []impl.StoreOp{putMail(1, xs(6)), putMail(1, xs(5)), putMail(1, "x"), putMail(1, "")}))
	wantNumbers(t, "codes", "bytes", codes, []int64{impl.ErrFull, impl.OK, impl.ErrFull, impl.OK})
	codes = outCodes(impl.RunStore(impl.StoreStart(), slices.Repeat([]impl.StoreOp{putMail(1, xs(maxText))}, 5)))
	wantNumbers(t, "codes", "long messages", codes, []int64{impl.OK, impl.OK, impl.OK, impl.OK, impl.ErrFull})
}

// flagging is an operation on the flags of INBOX.
func flagging(kind, mod int64, uids []int64, flags ...string) impl.StoreOp {
	return impl.StoreOp{Kind: kind, Box: "INBOX", Uids: uids, Flags: flags, Mod: mod}
}

// flagged has other flags, and the next Mod, in some places of INBOX.
func flagged(flags map[int][]string) func(s *impl.Store) {
	return func(s *impl.Store) {
		b := &s.Boxes[inBox]
		b.TopMod++
		for at, list := range flags {
			b.Mails[at].Flags, b.Mails[at].Mod = list, b.TopMod
		}
	}
}

func ids(uids ...int64) []int64 { return uids }

func TestStoreFlags(t *testing.T) {
	seen, deleted := `\Seen`, `\Deleted`
	all := some(deleted, `\Draft`, seen)
	for _, c := range []struct {
		what string
		op   impl.StoreOp
		want impl.StoreOut
		then map[int][]string
	}{
		{"set", flagging(impl.StSet, 0, ids(2), "b", "a", "b"), toldUids(2), map[int][]string{0: some("a", "b")}},
		{"set to none", flagging(impl.StSet, 0, ids(5)), toldUids(5), map[int][]string{2: nil}},
		{"set to what it has", flagging(impl.StSet, 0, ids(5), "x", deleted), toldUids(5), map[int][]string{2: some(deleted, "x")}},
		{"set several", flagging(impl.StSet, 0, ids(2, 3, 5, 7), "n"), toldUids(2, 3, 5, 7), map[int][]string{0: some("n"), 1: some("n"), 2: some("n"), 3: some("n")}},
		{"set in no order, twice, and some that are not there", flagging(impl.StSet, 0, ids(7, 99, 2, 7, 2, 1, -4, 0, 2), "n"), toldUids(2, 7), map[int][]string{0: some("n"), 3: some("n")}},
		{"add", flagging(impl.StAdd, 0, ids(2), "a"), toldUids(2), map[int][]string{0: some(seen, "a")}},
		{"add what it has", flagging(impl.StAdd, 0, ids(2, 7), seen), toldUids(2, 7), map[int][]string{0: some(seen), 3: all}},
		{"add nothing", flagging(impl.StAdd, 0, ids(3)), toldUids(3), map[int][]string{1: nil}},
		{"add ahead and behind", flagging(impl.StAdd, 0, ids(5, 3), "y", "0", "y"), toldUids(3, 5), map[int][]string{1: some("0", "y"), 2: some("0", deleted, "x", "y")}},
		{"drop", flagging(impl.StDrop, 0, ids(5), "x"), toldUids(5), map[int][]string{2: some(deleted)}},
		{"drop what it has not", flagging(impl.StDrop, 0, ids(5), "y", "X"), toldUids(5), map[int][]string{2: some(deleted, "x")}},
		{"drop all", flagging(impl.StDrop, 0, ids(2, 5, 7), `\Seen`, "x", deleted, `\Draft`, "q", "q"), toldUids(2, 5, 7), map[int][]string{0: nil, 2: nil, 3: nil}},
		{"drop nothing", flagging(impl.StDrop, 0, ids(7)), toldUids(7), map[int][]string{3: all}},
		{"drop of none", flagging(impl.StDrop, 0, ids(3), "x"), toldUids(3), map[int][]string{1: nil}},
		{"a Mod below all", flagging(impl.StAdd, 2, ids(2, 3, 5, 7), "n"), impl.StoreOut{Failed: ids(2, 3, 5, 7)}, nil},
		{"a Mod of 1", flagging(impl.StSet, 1, ids(2)), impl.StoreOut{Failed: ids(2)}, nil},
		{"a Mod of one mail", flagging(impl.StSet, 3, ids(2, 3, 5, 7), "n"), impl.StoreOut{Uids: ids(2), Failed: ids(3, 5, 7)}, map[int][]string{0: some("n")}},
		{"a Mod above one mail's", flagging(impl.StSet, 4, ids(7, 2), "n"), impl.StoreOut{Uids: ids(2), Failed: ids(7)}, map[int][]string{0: some("n")}},
		{"a Mod just below two mails'", flagging(impl.StDrop, 6, ids(7, 5, 5, 2), "x"), impl.StoreOut{Uids: ids(2), Failed: ids(5, 7)}, map[int][]string{0: some(seen)}},
		{"a Mod of two mails", flagging(impl.StDrop, 7, ids(7, 5, 5, 3), "x"), impl.StoreOut{Uids: ids(5, 7), Failed: ids(3)}, map[int][]string{2: some(deleted), 3: all}},
		{"a Mod of TopMod", flagging(impl.StAdd, 12, ids(3), "n"), toldUids(3), map[int][]string{1: some("n")}},
		{"a Mod above TopMod", flagging(impl.StAdd, maxNumber, ids(3), "n"), toldUids(3), map[int][]string{1: some("n")}},
		{"the highest Mod", flagging(impl.StAdd, math.MaxInt64, ids(3), "n"), toldUids(3), map[int][]string{1: some("n")}},
		{"no Uids", flagging(impl.StSet, 0, nil, "n"), impl.StoreOut{}, nil},
		{"Uids that are not there", flagging(impl.StSet, 0, ids(1, 4, 6, 8, 9, 10, 11, 0, -1, maxNumber, math.MaxInt64, math.MinInt64), "n"), impl.StoreOut{}, nil},
		{"MaxMails Uids", flagging(impl.StSet, 0, upTo(3, maxMails+2), "n"), toldUids(3, 5, 7), map[int][]string{1: some("n"), 2: some("n"), 3: some("n")}},
		{"MaxFlags", flagging(impl.StSet, 0, ids(2), manyFlags(0, maxFlags)...), toldUids(2), map[int][]string{0: manyFlags(0, maxFlags)}},
	} {
		change := nothingChanges
		if c.then != nil {
			change = flagged(c.then)
		}
		checkDone(t, c.what, c.op, c.want, change)
	}
}

func TestStoreFlagBounds(t *testing.T) {
	full := someStore()
	full.Boxes[inBox].Mails[2].Flags = manyFlags(0, maxFlags)
	full.Boxes[inBox].Mails[1].Flags = manyFlags(0, maxFlags-1)
	for _, c := range []struct {
		what string
		op   impl.StoreOp
		code int64
	}{
		{"a flag more than MaxFlags", flagging(impl.StAdd, 0, ids(5), "g"), impl.ErrFull},
		{"one mail of several is full", flagging(impl.StAdd, 0, ids(2, 3, 5, 7), "g"), impl.ErrFull},
		{"the full one is behind the others, twice", flagging(impl.StAdd, 9, ids(5, 2, 5), "g"), impl.ErrFull},
		{"two flags more than one less", flagging(impl.StAdd, 0, ids(3), "g", "h"), impl.ErrFull},
		{"the last one that there is room for", flagging(impl.StAdd, 0, ids(3), "g"), impl.OK},
		{"flags that it has", flagging(impl.StAdd, 0, ids(3, 5), manyFlags(0, maxFlags)...), impl.OK},
		{"the full one is stale", flagging(impl.StAdd, 6, ids(2, 5), "g"), impl.OK},
		{"the full one is not asked for", flagging(impl.StAdd, 0, ids(2, 7), "g"), impl.OK},
		{"set instead", flagging(impl.StSet, 0, ids(5), "g"), impl.OK},
		{"dropped", flagging(impl.StDrop, 0, ids(5), "g"), impl.OK},
		{"set to one too many", flagging(impl.StSet, 0, ids(5), manyFlags(0, maxFlags+1)...), impl.ErrForm},
		{"one too many dropped", flagging(impl.StDrop, 0, ids(5), manyFlags(0, maxFlags+1)...), impl.ErrForm},
		{"one too many equal ones", flagging(impl.StAdd, 0, ids(2), slices.Repeat(some("a"), maxFlags+1)...), impl.ErrForm},
		{"one Uid too many, all equal", flagging(impl.StAdd, 0, slices.Repeat(ids(2), maxMails+1), "a"), impl.ErrForm},
		{"MaxMails equal Uids", flagging(impl.StAdd, 0, slices.Repeat(ids(2), maxMails), "a"), impl.OK},
	} {
		after, want := slowOp(full, c.op)
		if want.Code != c.code {
			t.Errorf("%s: the slow one tells %d, want %d", c.what, want.Code, c.code)
		}
		checkOp(t, c.what, full, c.op, want, after)
	}
	// The last Mod can be given once, and what would give none is refused, too.
	last := someStore()
	last.Boxes[inBox].TopMod = maxNumber - 1
	for _, kind := range []int64{impl.StSet, impl.StAdd, impl.StDrop} {
		ops := []impl.StoreOp{flagging(kind, 0, nil), flagging(kind, 0, ids(3), "n"), flagging(kind, 0, ids(3), "n"), flagging(kind, 0, nil), flagging(kind, 0, ids(99)), flagging(kind, 1, ids(3))}
		run := impl.RunStore(last, ops)
		wantNumbers(t, "codes", "the last Mod", outCodes(run), []int64{impl.OK, impl.OK, impl.ErrFull, impl.ErrFull, impl.ErrFull, impl.ErrFull})
		if b := run.Store.Boxes[inBox]; b.TopMod != maxNumber || b.Mails[1].Mod != maxNumber {
			t.Errorf("the last Mod: %s", shown(b))
		}
	}
	all := impl.StoreStart()
	all.Boxes[0] = impl.Mailbox{Name: "INBOX", Validity: 1, NextUid: maxMails + 1, TopMod: maxMails, Mails: manyMails(maxMails, "m", "a")}
	for _, kind := range []int64{impl.StSet, impl.StAdd, impl.StDrop} {
		op := flagging(kind, 150, upTo(1, maxMails), "b", "a")
		after, want := slowOp(all, op)
		checkOp(t, "MaxMails mails", all, op, want, after)
		wantNumbers(t, "Failed", "MaxMails mails", want.Failed, upTo(151, maxMails))
	}
}

func expunging(uids ...int64) impl.StoreOp {
	return impl.StoreOp{Kind: impl.StExpunge, Box: "INBOX", Uids: uids}
}

func TestStoreExpunge(t *testing.T) {
	without := func(places ...int) func(s *impl.Store) {
		return func(s *impl.Store) {
			b := &s.Boxes[inBox]
			b.TopMod = 13
			for _, at := range places {
				b.Gones = append(b.Gones, impl.Gone{Uid: b.Mails[at].Uid, Mod: 13})
			}
			for _, at := range slices.Backward(places) {
				b.Mails = slices.Delete(b.Mails, at, at+1)
			}
		}
	}
	checkDone(t, "all", expunging(), toldUids(5, 7), without(2, 3))
	checkDone(t, "one", expunging(5), toldUids(5), without(2))
	checkDone(t, "the last one", expunging(7, 7), toldUids(7), without(3))
	checkDone(t, "in no order, and others", expunging(7, 99, 2, 5, 3, -1), toldUids(5, 7), without(2, 3))
	checkDone(t, "without the flag", expunging(2, 3), impl.StoreOut{}, nothingChanges)
	checkDone(t, "not there", expunging(1, 4, 99), impl.StoreOut{}, nothingChanges)
	checkDone(t, "MaxMails Uids", expunging(upTo(6, maxMails+5)...), toldUids(7), without(3))
	checkRefused(t, "one Uid too many", someStore(), expunging(upTo(1, maxMails+1)...), impl.ErrForm)
	checkRefused(t, "one too many equal ones", someStore(), expunging(slices.Repeat(ids(5), maxMails+1)...), impl.ErrForm)
	for _, name := range some("A/b", "z") {
		op := impl.StoreOp{Kind: impl.StExpunge, Box: name}
		checkDone(t, "none has the flag", op, impl.StoreOut{}, nothingChanges)
	}
	// A flag that is written alike is another one.
	s := someStore()
	s.Boxes[inBox].Mails[2].Flags = some("Deleted")
	s.Boxes[inBox].Mails[3].Flags = some(`\Draft`, "deleted")
	checkOp(t, "no such flag", s, expunging(), impl.StoreOut{}, s)
}

func TestStoreExpungeBounds(t *testing.T) {
	last := someStore()
	last.Boxes[inBox].TopMod = maxNumber - 1
	run := impl.RunStore(last, []impl.StoreOp{expunging(99), expunging(5), expunging(7), expunging(99), expunging()})
	wantNumbers(t, "codes", "the last Mod", outCodes(run), []int64{impl.OK, impl.OK, impl.ErrFull, impl.ErrFull, impl.ErrFull})
	if b := run.Store.Boxes[inBox]; b.TopMod != maxNumber || b.Gones[len(b.Gones)-1] != (impl.Gone{Uid: 5, Mod: maxNumber}) {
		t.Errorf("the last Mod: %s", shown(b))
	}
	for gones := range map[int64]bool{0: true, 1: true, maxMails - 3: true, maxMails - 2: true, maxMails - 1: true, maxMails: true} {
		for _, mails := range []int64{1, 2, 3, maxMails - 1, maxMails} {
			s := impl.StoreStart()
			b := &s.Boxes[0]
			b.NextUid, b.TopMod = 1000, 700
			b.Gones = manyGones(601, 600+gones, 600)
			b.Mails = manyMails(int(mails), "", `\Deleted`)
			after := storeCopy(s)
			after.Boxes[0].TopMod = 701
			after.Boxes[0].Mails = nil
			all := append(after.Boxes[0].Gones, manyGones(1, mails, 701)...)
			after.Boxes[0].Gones = all[max(0, len(all)-maxMails):]
			checkOp(t, fmt.Sprint(mails, " go behind ", gones), s, expunging(), toldUids(upTo(1, mails)...), after)
		}
	}
}

func copying(from, to string, uids ...int64) impl.StoreOp {
	return impl.StoreOp{Kind: impl.StCopy, Box: from, To: to, Uids: uids}
}

func TestStoreCopy(t *testing.T) {
	copies := func(to int, places ...int) func(s *impl.Store) {
		return func(s *impl.Store) {
			b := &s.Boxes[to]
			for _, at := range places {
				mail := s.Boxes[inBox].Mails[at]
				b.TopMod++
				mail.Uid, mail.Mod = b.NextUid, b.TopMod
				b.NextUid++
				b.Mails = append(b.Mails, mail)
			}
		}
	}
	checkDone(t, "one", copying("INBOX", "z", 5), toldUids(1), copies(lastBox, 2))
	checkDone(t, "all", copying("INBOX", "z", 2, 3, 5, 7), toldUids(1, 2, 3, 4), copies(lastBox, 0, 1, 2, 3))
	checkDone(t, "behind others", copying("INBOX", "A/b", 3, 2), toldUids(3, 4), copies(aheadBox, 0, 1))
	checkDone(t, "in no order, twice, and some that are not there", copying("INBOX", "z", 7, 99, 2, 7, 2, -1, 1), toldUids(1, 2), copies(lastBox, 0, 3))
	checkDone(t, "into the same box", copying("INBOX", "INBOX", 7, 2), toldUids(10, 11), copies(inBox, 0, 3))
	checkDone(t, "the whole box into itself", copying("INBOX", "INBOX", upTo(1, maxMails)...), toldUids(10, 11, 12, 13), copies(inBox, 0, 1, 2, 3))
	checkDone(t, "nothing", copying("INBOX", "z"), impl.StoreOut{}, nothingChanges)
	checkDone(t, "nothing into itself", copying("z", "z", 1, 2), impl.StoreOut{}, nothingChanges)
	checkDone(t, "what is not there", copying("INBOX", "z", 1, 4, 10, 0, maxNumber), impl.StoreOut{}, nothingChanges)
	checkDone(t, "MaxMails Uids", copying("INBOX", "z", upTo(4, maxMails+3)...), toldUids(1, 2), copies(lastBox, 2, 3))
	for what, c := range map[string]struct {
		op   impl.StoreOp
		code int64
	}{
		"no box":                  {copying("none", "z", 1), impl.ErrNone},
		"no other box":            {copying("INBOX", "none", 2), impl.ErrNone},
		"no other box, for none":  {copying("INBOX", "none"), impl.ErrNone},
		"neither box":             {copying("none", "", 2), impl.ErrNone},
		"too many Uids":           {copying("INBOX", "z", upTo(1, maxMails+1)...), impl.ErrForm},
		"too many equal Uids":     {copying("INBOX", "z", slices.Repeat(ids(2), maxMails+1)...), impl.ErrForm},
		"too many, and no box":    {copying("none", "z", upTo(1, maxMails+1)...), impl.ErrNone},
		"too many, and no other":  {copying("INBOX", "none", upTo(1, maxMails+1)...), impl.ErrNone},
		"a long name":             {copying(xs(maxText+1), "z", 1), impl.ErrNone},
		"another one's long name": {copying("INBOX", xs(maxText+1), 2), impl.ErrNone},
	} {
		checkRefused(t, "StCopy, "+what, someStore(), c.op, c.code)
	}
}

func TestStoreCopyBounds(t *testing.T) {
	op := copying("INBOX", "z", 2, 5, 7)
	check := func(what string, s impl.Store, op impl.StoreOp, code int64) {
		t.Helper()
		after, want := slowOp(s, op)
		if want.Code != code {
			t.Errorf("%s: the slow one tells %d, want %d", what, want.Code, code)
		}
		checkOp(t, what, s, op, want, after)
	}
	for room, code := range map[int64]int64{0: impl.ErrFull, 1: impl.ErrFull, 2: impl.ErrFull, 3: impl.OK, 4: impl.OK} {
		what := fmt.Sprint("room for ", room)
		s := someStore()
		s.Boxes[lastBox].NextUid = maxNumber - room
		check(what+" by NextUid", s, op, code)
		s = someStore()
		s.Boxes[lastBox].TopMod = maxNumber - room
		check(what+" by TopMod", s, op, code)
		s = someStore()
		s.Boxes[lastBox] = impl.Mailbox{Name: "z", Validity: 4, NextUid: 1000, TopMod: 1000, Mails: manyMails(maxMails-int(room), "")}
		check(what+" by mails", s, op, code)
		check(what+", for nothing", s, copying("INBOX", "z", 99), impl.OK)
		check(what+", the other way", s, copying("z", "A/b", 1, 2, 3), impl.OK)
	}
	for size, code := range map[int]int64{maxStoreBytes: impl.ErrFull, maxStoreBytes - 9: impl.ErrFull, maxStoreBytes - 10: impl.OK, maxStoreBytes - 11: impl.OK} {
		s := storeOfBytes(size)
		check(fmt.Sprint("of ", size, " bytes"), s, op, code)
		check(fmt.Sprint("an empty one, of ", size, " bytes"), s, copying("INBOX", "A/b", 3), impl.OK)
	}
	for _, size := range []int{149, 150, 151, maxMails} {
		s := impl.StoreStart()
		s.Boxes[0].NextUid, s.Boxes[0].TopMod, s.Boxes[0].Mails = 1000, 1000, manyMails(size, "")
		code := int64(impl.OK)
		if size > 150 {
			code = impl.ErrFull
		}
		check(fmt.Sprint("a box of ", size, " into itself"), s, copying("INBOX", "INBOX", upTo(1, maxMails)...), code)
	}
	s := storeOfBytes(maxStoreBytes/2 + 13)
	check("all bytes twice", s, copying("z", "z", 1, 2), impl.ErrFull)
	s = storeOfBytes(maxStoreBytes / 2)
	s.Boxes[aheadBox].Mails, s.Boxes[inBox].Mails = nil, nil
	s.Boxes[lastBox].Mails[0].Message = xs(maxText)
	s.Boxes[lastBox].Mails[1].Message = xs(maxText)
	check("all bytes just twice", s, copying("z", "A/b", 1, 2), impl.OK)
}

func TestStoreRunSizes(t *testing.T) {
	for size := range map[int]bool{0: true, 1: true, maxOps - 1: true, maxOps: true, maxOps + 1: true, 2 * maxOps: true} {
		ops := make([]impl.StoreOp, size)
		for at := range ops {
			ops[at] = flagging(impl.StAdd, 0, ids(2), "n")
		}
		run := impl.RunStore(someStore(), ops)
		if size > maxOps {
			if len(run.Outs) != 0 || !sameStores(run.Store, impl.Store{}) {
				t.Errorf("%d operations: %s", size, shown(run))
			}
			continue
		}
		if len(run.Outs) != size || run.Store.Boxes[inBox].TopMod != int64(12+size) {
			t.Errorf("%d operations: %d outs, %s", size, len(run.Outs), shown(run.Store))
		}
	}
	// A run is its operations one after the other.
	run := impl.RunStore(impl.StoreStart(), []impl.StoreOp{
		putMail(1, "abc", "x"), create("b"), copying("INBOX", "b", 1), flagging(impl.StSet, 0, ids(1), `\Deleted`), {}, expunging(), expunging(),
		copying("b", "INBOX", 1), copying("INBOX", "b", 1, 2), {Kind: impl.StRename, Box: "b", To: "a"}, {Kind: impl.StDelete, Box: "b"}, create("b"), {Kind: impl.StDelete, Box: "a"},
	})
	want := []impl.StoreOut{
		toldUids(1), {}, toldUids(1), toldUids(1), {Code: impl.ErrForm}, toldUids(1), {}, toldUids(2), toldUids(2), {}, {Code: impl.ErrNone}, {}, {},
	}
	if !slices.EqualFunc(run.Outs, want, sameOut) {
		t.Errorf("one after the other: %s, want %s", shown(run.Outs), shown(want))
	}
	left := impl.Store{NextValidity: 4, Boxes: []impl.Mailbox{
		{Name: "INBOX", Validity: 1, NextUid: 3, TopMod: 4, Mails: []impl.Mail{{Uid: 2, Mod: 4, Time: 1, Flags: some("x"), Message: "abc"}}, Gones: []impl.Gone{{Uid: 1, Mod: 3}}},
		{Name: "b", Validity: 3, NextUid: 1},
	}}
	if !sameStores(run.Store, left) {
		t.Errorf("one after the other: %s, want %s", shown(run.Store), shown(left))
	}
}

func checkSince(t *testing.T, b impl.Mailbox, mod int64, changed, gone []int64) {
	t.Helper()
	got := impl.ChangesSince(b, mod)
	if !slices.Equal(got.Changed, changed) || !slices.Equal(got.Gone, gone) {
		t.Errorf("ChangesSince %d of %s: %s, want %s and %s", mod, shown(b), shown(got), few(changed), few(gone))
	}
}

func TestChangesSince(t *testing.T) {
	b := someStore().Boxes[inBox]
	for _, c := range []struct {
		mod           int64
		changed, gone []int64
	}{
		{math.MinInt64, ids(2, 3, 5, 7), ids(1, 8, 4, 6)}, {-1, ids(2, 3, 5, 7), ids(1, 8, 4, 6)}, {0, ids(2, 3, 5, 7), ids(1, 8, 4, 6)}, {2, ids(2, 3, 5, 7), ids(1, 8, 4, 6)},
		{3, ids(3, 5, 7), ids(1, 8, 4, 6)}, {4, ids(3, 5, 7), ids(4, 6)}, {6, ids(3, 5, 7), ids(4, 6)}, {7, ids(3), ids(4, 6)}, {8, ids(3), ids(4, 6)}, {9, ids(3), ids(6)},
		{11, ids(3), ids(6)}, {12, nil, nil}, {13, nil, nil}, {math.MaxInt64, nil, nil},
	} {
		checkSince(t, b, c.mod, c.changed, c.gone)
	}
	for _, mod := range []int64{-1, 0, 1, math.MinInt64, math.MaxInt64} {
		checkSince(t, impl.Mailbox{}, mod, nil, nil)
	}
	// The box is taken as it is: no rule of a store is asked of it, and all is told in its own order.
	ill := impl.Mailbox{Name: "//", Mails: []impl.Mail{stored(9, 5, xs(maxText+1), "", xs(maxText+1)), stored(-3, 5, ""), stored(9, 7, ""), stored(1, -2, "")}, Gones: []impl.Gone{{Uid: 9, Mod: 8}, {Uid: 9, Mod: 6}, {Uid: 0, Mod: -5}}}
	checkSince(t, ill, 4, ids(9, -3, 9), ids(9, 9))
	checkSince(t, ill, 6, ids(9), ids(9))
	checkSince(t, ill, -2, ids(9, -3, 9), ids(9, 9))
	checkSince(t, ill, -3, ids(9, -3, 9, 1), ids(9, 9))
	checkSince(t, ill, -6, ids(9, -3, 9, 1), ids(9, 9, 0))
	for _, mails := range []int{0, 1, maxMails - 1, maxMails, maxMails + 1, 5000} {
		for _, gones := range []int64{0, 1, maxMails - 1, maxMails, maxMails + 1, 5000} {
			many := impl.Mailbox{Mails: manyMails(mails, ""), Gones: manyGones(1, gones, 5)}
			if mails > maxMails || gones > maxMails {
				checkSince(t, many, 0, nil, nil)
				checkSince(t, many, -1, nil, nil)
				continue
			}
			checkSince(t, many, 0, upTo(1, int64(mails)), upTo(1, gones))
			checkSince(t, many, 10, upTo(11, int64(mails)), nil)
		}
	}
}

// startStores are right ones, with room for more and with hardly any.
func startStores() []impl.Store {
	near := someStore()
	near.NextValidity = maxNumber - 3
	for at := range near.Boxes {
		near.Boxes[at].NextUid = maxNumber - 8
		near.Boxes[at].TopMod = maxNumber - 20
	}
	crowded := storeOfBoxes(maxBoxes - 2)
	crowded.Boxes[0].NextUid, crowded.Boxes[0].TopMod, crowded.Boxes[0].Mails = 1000, 1000, manyMails(maxMails-2, "m", manyFlags(0, maxFlags-1)...)
	crowded.Boxes[1].NextUid, crowded.Boxes[1].TopMod, crowded.Boxes[1].Gones = 1000, 500, manyGones(1, maxMails-2, 500)
	crowded.Boxes[1].Mails = []impl.Mail{stored(999, 1, "last", `\Deleted`)}
	return []impl.Store{impl.StoreStart(), someStore(), near, crowded, storeOfBytes(maxStoreBytes - 40)}
}

// storeOp is one that may well be done, now and then one that is not.
func (d *dice) storeOp(s impl.Store) impl.StoreOp {
	op := impl.StoreOp{Kind: int64(1 + d.below(9))}
	if d.below(3) > 0 {
		// Boxes come and go, but less often than mails.
		op.Kind = int64(4 + d.below(6))
	}
	name := func() string {
		if d.below(4) == 0 || op.Kind == impl.StCreate {
			return d.pick("INBOX", "a", "b", "a/b", "B", "z", "none", "", "a/")
		}
		return s.Boxes[d.below(len(s.Boxes))].Name
	}
	op.Box, op.To = name(), d.pick("a", "b", "a/b", "B", "z", "zz", "A", "/")
	if op.Kind == impl.StCopy {
		op.To = name()
	}
	if b := slowBox(&s, op.Box); b != nil {
		op.Uids = d.uidsOf(*b)
		if d.below(3) == 0 {
			op.Mod = b.TopMod - int64(d.below(4))
		}
	}
	for range d.below(4) {
		op.Flags = append(op.Flags, d.pick(`\Seen`, `\Deleted`, `\Deleted`, `\Draft`, "a", "b", "$c", "f00", "f01", "g"))
	}
	if d.below(20) == 0 {
		op.Flags = append(op.Flags, d.pick(`\x`, "", xs(31)))
	}
	op.Time = int64(d.below(1000))
	op.Message = d.pick("", "m", "hello", xs(20), xs(39), xs(50))
	switch d.below(60) {
	case 0:
		op.Kind = int64(d.below(20) - 5)
	case 1:
		op.Message = xs(maxText + d.below(2))
	case 2:
		op.Time = []int64{-1, maxTime, maxTime + 1}[d.below(3)]
	case 3:
		op.Mod = -1
	case 4:
		op.Uids = upTo(1, maxMails+int64(d.below(2)))
	}
	return op
}

// uidsOf are some of a box's own, and some that it has not, or not any more.
func (d *dice) uidsOf(b impl.Mailbox) []int64 {
	var uids []int64
	for range d.below(6) {
		uids = append(uids, b.NextUid-int64(d.below(12)))
	}
	for range min(len(b.Mails), d.below(4)) {
		uids = append(uids, b.Mails[d.below(len(b.Mails))].Uid)
	}
	return uids
}

// storeHistory is a run of made-up operations, and the store ahead of and behind each.
type storeHistory struct {
	ops    []impl.StoreOp
	outs   []impl.StoreOut
	stores []impl.Store
}

// history does each operation by a run of its own.
func (d *dice) history(t *testing.T, start impl.Store, size int) storeHistory {
	t.Helper()
	h := storeHistory{stores: []impl.Store{start}}
	for range size {
		now := h.stores[len(h.stores)-1]
		op := d.storeOp(now)
		run := impl.RunStore(now, []impl.StoreOp{op})
		if len(run.Outs) != 1 {
			t.Fatalf("%d outs of one operation", len(run.Outs))
		}
		h.ops, h.outs, h.stores = append(h.ops, op), append(h.outs, run.Outs[0]), append(h.stores, run.Store)
	}
	return h
}

// TestStoreRunsOfAnyOps holds made-up runs against the slow ones, operation by operation and as a whole.
func TestStoreRunsOfAnyOps(t *testing.T) {
	d := &dice{state: 1401}
	codes := map[[2]int64]int{}
	for _, start := range startStores() {
		for range 12 {
			h := d.history(t, start, 120)
			for at, op := range h.ops {
				after, want := slowOp(h.stores[at], op)
				codes[[2]int64{op.Kind, want.Code}]++
				if !sameOut(h.outs[at], want) || !sameStores(h.stores[at+1], after) {
					t.Fatalf("%s: %s, want %s", shown(op), shown(h.outs[at]), shown(want))
				}
			}
			run := impl.RunStore(start, h.ops)
			if !slices.EqualFunc(run.Outs, h.outs, sameOut) || !sameStores(run.Store, h.stores[len(h.ops)]) {
				t.Fatalf("a run differs from its operations one by one")
			}
		}
	}
	for kind := int64(impl.StCreate); kind <= impl.StCopy; kind++ {
		if codes[[2]int64{kind, impl.OK}] < 50 {
			t.Errorf("kind %d was done %d times", kind, codes[[2]int64{kind, impl.OK}])
		}
		for _, code := range []int64{impl.ErrNone, impl.ErrFull} {
			if kind > impl.StRename && codes[[2]int64{kind, code}] == 0 {
				t.Errorf("kind %d never had the code %d", kind, code)
			}
		}
	}
}

// TestPromise16 looks at every store of made-up runs, and at what they tell of new mails and boxes.
func TestPromise16(t *testing.T) {
	d := &dice{state: 1416}
	for _, start := range startStores() {
		for range 12 {
			h := d.history(t, start, 120)
			told := newNumbersTold(start)
			for at, op := range h.ops {
				before, after := h.stores[at], h.stores[at+1]
				if impl.StoreFault(after) != impl.OK || slowStoreFault(after) != impl.OK {
					t.Fatalf("behind %s the store is not right: %s", shown(op), shown(after))
				}
				if h.outs[at].Code != impl.OK && !sameStores(before, after) {
					t.Fatalf("%s with the code %d has changed the store", shown(op), h.outs[at].Code)
				}
				told.check(t, before, after, op, h.outs[at])
			}
		}
	}
}

// numbersTold are all Validities of a store so far, each with its Uids.
type numbersTold map[int64]map[int64]bool

func newNumbersTold(s impl.Store) numbersTold {
	told := numbersTold{}
	for _, b := range s.Boxes {
		told[b.Validity] = map[int64]bool{}
		for _, mail := range b.Mails {
			told[b.Validity][mail.Uid] = true
		}
		for _, gone := range b.Gones {
			told[b.Validity][gone.Uid] = true
		}
	}
	return told
}

func (told numbersTold) check(t *testing.T, before, after impl.Store, op impl.StoreOp, out impl.StoreOut) {
	t.Helper()
	for _, b := range after.Boxes {
		wasThere := slices.ContainsFunc(before.Boxes, func(other impl.Mailbox) bool { return other.Validity == b.Validity })
		if !wasThere && told[b.Validity] != nil {
			t.Fatalf("the Validity %d comes again", b.Validity)
		}
		if !wasThere {
			told[b.Validity] = map[int64]bool{}
		}
	}
	to := op.Box
	if op.Kind == impl.StCopy {
		to = op.To
	}
	if out.Code != impl.OK || op.Kind != impl.StAppend && op.Kind != impl.StCopy {
		return
	}
	b := slowBox(&after, to)
	for _, uid := range out.Uids {
		if told[b.Validity][uid] {
			t.Fatalf("the Uid %d is told twice in a box of the Validity %d", uid, b.Validity)
		}
		told[b.Validity][uid] = true
		if !slices.ContainsFunc(b.Mails, func(mail impl.Mail) bool { return mail.Uid == uid }) {
			t.Fatalf("the Uid %d is told, but there is no such mail", uid)
		}
	}
}

func boxOfValidity(s impl.Store, validity int64) *impl.Mailbox {
	for at := range s.Boxes {
		if s.Boxes[at].Validity == validity {
			return &s.Boxes[at]
		}
	}
	return nil
}

// changesBehind reckons from what the operations told which Uids of a box have changed and gone since a time.
func (h storeHistory) changesBehind(from int, validity int64) (changed map[int64]bool, gone []int64) {
	changed = map[int64]bool{}
	for at := from; at < len(h.ops); at++ {
		op, out := h.ops[at], h.outs[at]
		name := op.Box
		if op.Kind == impl.StCopy {
			name = op.To
		}
		b := slowBox(&h.stores[at], name)
		if out.Code != impl.OK || b == nil || b.Validity != validity {
			continue
		}
		for _, uid := range out.Uids {
			if op.Kind == impl.StExpunge {
				delete(changed, uid)
				gone = append(gone, uid)
			} else {
				changed[uid] = true
			}
		}
	}
	return changed, gone
}

// checkChangesBehind holds ChangesSince against what was told, and against a copy that is brought up to date by it.
func (h storeHistory) checkChangesBehind(t *testing.T, from int) (told int) {
	t.Helper()
	last := h.stores[len(h.stores)-1]
	for _, old := range h.stores[from].Boxes {
		now := boxOfValidity(last, old.Validity)
		if now == nil {
			continue
		}
		changed, gone := h.changesBehind(from, old.Validity)
		if len(gone) > maxMails {
			continue
		}
		list := impl.ChangesSince(*now, old.TopMod)
		var want []int64
		for _, mail := range now.Mails {
			if changed[mail.Uid] {
				want = append(want, mail.Uid)
			}
		}
		if !slices.Equal(list.Changed, want) || !slices.Equal(list.Gone, gone) {
			t.Fatalf("since %d: %s, want %s and %s", old.TopMod, shown(list), few(want), few(gone))
		}
		told += len(want) + len(gone)
		checkBroughtUp(t, old, *now, list)
	}
	return told
}

// checkBroughtUp puts what has changed into an old box, and wants the new one's mails.
func checkBroughtUp(t *testing.T, old, now impl.Mailbox, list impl.ChangeList) {
	t.Helper()
	known := map[int64]impl.Mail{}
	for _, mail := range old.Mails {
		known[mail.Uid] = mail
	}
	for _, mail := range now.Mails {
		if slices.Contains(list.Changed, mail.Uid) {
			known[mail.Uid] = mail
		}
	}
	for _, uid := range list.Gone {
		delete(known, uid)
	}
	if len(known) != len(now.Mails) {
		t.Fatalf("brought up to date there are %d mails, want %d", len(known), len(now.Mails))
	}
	for _, mail := range now.Mails {
		if !sameMail(known[mail.Uid], mail) {
			t.Fatalf("brought up to date the mail %d is %s, want %s", mail.Uid, shown(known[mail.Uid]), shown(mail))
		}
	}
}

// TestPromise17 asks for what has changed since each TopMod of made-up runs.
func TestPromise17(t *testing.T) {
	d := &dice{state: 1417}
	for _, start := range startStores() {
		told := 0
		for range 8 {
			h := d.history(t, start, 150)
			for from := range h.stores {
				told += h.checkChangesBehind(t, from)
				if from > 0 {
					checkModsRise(t, h.stores[from-1], h.stores[from])
				}
			}
		}
		if told < 1000 {
			t.Errorf("%d changes alone", told)
		}
	}
}

// checkModsRise wants no Mod below what it was, nor a change that has the Mod it had.
func checkModsRise(t *testing.T, before, after impl.Store) {
	t.Helper()
	for _, b := range after.Boxes {
		old := boxOfValidity(before, b.Validity)
		if old == nil {
			continue
		}
		if b.TopMod < old.TopMod || b.TopMod == old.TopMod && !slices.EqualFunc(b.Mails, old.Mails, sameMail) {
			t.Fatalf("TopMod %d behind %d", b.TopMod, old.TopMod)
		}
		for _, mail := range b.Mails {
			at := slices.IndexFunc(old.Mails, func(other impl.Mail) bool { return other.Uid == mail.Uid })
			if at >= 0 && (mail.Mod < old.Mails[at].Mod || mail.Mod == old.Mails[at].Mod && !sameMail(mail, old.Mails[at])) {
				t.Fatalf("the Mod of %d is %d behind %d", mail.Uid, mail.Mod, old.Mails[at].Mod)
			}
		}
	}
}

// TestPromise17ManyGone has just MaxMails mails gone since a TopMod, and then more of them.
func TestPromise17ManyGone(t *testing.T) {
	put := putMail(1, "", `\Deleted`)
	ops := append(slices.Repeat([]impl.StoreOp{put}, maxMails), expunging())
	checkSince(t, impl.RunStore(impl.StoreStart(), ops).Store.Boxes[0], maxMails, nil, upTo(1, maxMails))
	for more := int64(1); more <= 4; more++ {
		ops = append(ops, put, expunging())
		b := impl.RunStore(impl.StoreStart(), ops).Store.Boxes[0]
		// The first ones are forgotten, but since the TopMod behind them no more than MaxMails have gone.
		checkSince(t, b, maxMails, nil, upTo(1+more, maxMails+more))
		checkSince(t, b, maxMails+1, nil, upTo(maxMails+1, maxMails+more))
		checkSince(t, b, b.TopMod, nil, nil)
	}
}

// span is the memory of a list, the room behind it included.
type span struct{ from, end uintptr }

func spanOf[T any](list []T) span {
	from := uintptr(unsafe.Pointer(unsafe.SliceData(list)))
	var one T
	return span{from, from + uintptr(cap(list))*unsafe.Sizeof(one)}
}

func textSpan(text string) span {
	from := uintptr(unsafe.Pointer(unsafe.StringData(text)))
	return span{from, from + uintptr(len(text))}
}

// storeSpans are those of the lists and texts of a store.
func storeSpans(s impl.Store) (lists, texts []span) {
	lists = append(lists, spanOf(s.Boxes))
	for _, b := range s.Boxes {
		lists = append(lists, spanOf(b.Mails), spanOf(b.Gones))
		texts = append(texts, textSpan(b.Name))
		for _, mail := range b.Mails {
			lists = append(lists, spanOf(mail.Flags))
			texts = append(texts, textSpan(mail.Message))
			for _, text := range mail.Flags {
				texts = append(texts, textSpan(text))
			}
		}
	}
	return lists, texts
}

func opSpans(ops []impl.StoreOp) (lists, texts []span) {
	lists = append(lists, spanOf(ops))
	for _, op := range ops {
		lists = append(lists, spanOf(op.Uids), spanOf(op.Flags))
		texts = append(texts, textSpan(op.Box), textSpan(op.To), textSpan(op.Message))
		for _, text := range op.Flags {
			texts = append(texts, textSpan(text))
		}
	}
	return lists, texts
}

// inOrder leaves out the spans in which nothing can stand.
func inOrder(spans []span) []span {
	spans = slices.DeleteFunc(slices.Clone(spans), func(one span) bool { return one.from == one.end })
	slices.SortFunc(spans, func(a, b span) int { return cmp.Compare(a.from, b.from) })
	return spans
}

func wantEachApart(t *testing.T, what string, spans []span) {
	t.Helper()
	end := uintptr(0)
	for _, one := range inOrder(spans) {
		if one.from < end {
			t.Fatalf("%s share memory with one another", what)
		}
		end = max(end, one.end)
	}
}

func wantApartFrom(t *testing.T, what string, own, given []span) {
	t.Helper()
	own, given = inOrder(own), inOrder(given)
	end := uintptr(0)
	for _, one := range own {
		for len(given) > 0 && given[0].from < one.end {
			end = max(end, given[0].end)
			given = given[1:]
		}
		if one.from < end {
			t.Fatalf("%s share memory with an argument", what)
		}
	}
}

// withTexts has texts of its own, also where they are written alike.
func withTexts(s impl.Store) impl.Store {
	s = storeCopy(s)
	for at := range s.Boxes {
		b := &s.Boxes[at]
		b.Name = strings.Clone(b.Name)
		for i := range b.Mails {
			b.Mails[i].Message = strings.Clone(b.Mails[i].Message)
			for j, text := range b.Mails[i].Flags {
				b.Mails[i].Flags[j] = strings.Clone(text)
			}
		}
	}
	return s
}

// roomyStore has room behind its lists, with something in it.
func roomyStore(s impl.Store) impl.Store {
	s = withTexts(s)
	for at := range s.Boxes {
		b := &s.Boxes[at]
		for i, mail := range b.Mails {
			b.Mails[i].Flags = append(slices.Clone(mail.Flags), "room", "room")[:len(mail.Flags)]
		}
		b.Mails = append(slices.Clone(b.Mails), stored(7777, 7777, "room"), stored(7778, 7778, "room"))[:len(b.Mails)]
		b.Gones = append(slices.Clone(b.Gones), impl.Gone{Uid: 7777}, impl.Gone{Uid: 7778})[:len(b.Gones)]
	}
	s.Boxes = append(slices.Clone(s.Boxes), impl.Mailbox{Name: "room"}, impl.Mailbox{Name: "room"})[:len(s.Boxes)]
	return s
}

// seenWithRoom is a store, and what stands in the room behind each of its lists.
func seenWithRoom(s impl.Store) impl.Store {
	all := storeCopy(impl.Store{Boxes: s.Boxes[:len(s.Boxes)+2], NextValidity: s.NextValidity})
	for at, b := range s.Boxes {
		all.Boxes[at].Mails = slices.Clone(b.Mails[:len(b.Mails)+2])
		all.Boxes[at].Gones = slices.Clone(b.Gones[:len(b.Gones)+2])
		for i, mail := range b.Mails {
			all.Boxes[at].Mails[i].Flags = slices.Clone(mail.Flags[:len(mail.Flags)+2])
		}
	}
	return all
}

func roomyOps(ops []impl.StoreOp) []impl.StoreOp {
	var out []impl.StoreOp
	for _, op := range ops {
		op.Box, op.To, op.Message = strings.Clone(op.Box), strings.Clone(op.To), strings.Clone(op.Message)
		flags := slices.Clone(op.Flags)
		for at, text := range flags {
			flags[at] = strings.Clone(text)
		}
		op.Flags = append(flags, "room", "room")[:len(op.Flags)]
		op.Uids = append(slices.Clone(op.Uids), 7777, 7778)[:len(op.Uids)]
		out = append(out, op)
	}
	return append(out, impl.StoreOp{Kind: 77}, impl.StoreOp{Kind: 77})[:len(out)]
}

func opsWithRoom(ops []impl.StoreOp) []impl.StoreOp {
	all := slices.Clone(ops[:len(ops)+2])
	for at, op := range ops {
		all[at].Flags, all[at].Uids = slices.Clone(op.Flags[:len(op.Flags)+2]), slices.Clone(op.Uids[:len(op.Uids)+2])
	}
	return all
}

func sameOps(a, b impl.StoreOp) bool {
	return a.Kind == b.Kind && a.Box == b.Box && a.To == b.To && slices.Equal(a.Uids, b.Uids) && slices.Equal(a.Flags, b.Flags) &&
		a.Time == b.Time && a.Mod == b.Mod && a.Message == b.Message
}

// TestStoreRunsShareNothing has answers with memory of their own, list by list, and arguments that stay as they are.
func TestStoreRunsShareNothing(t *testing.T) {
	d := &dice{state: 1402}
	for _, start := range startStores() {
		for range 10 {
			store, ops := roomyStore(start), roomyOps(d.history(t, start, 60).ops)
			seenStore, seenOps := seenWithRoom(store), opsWithRoom(ops)
			run := impl.RunStore(store, ops)
			checkRunShares(t, store, ops, run)
			for i := range run.Store.Boxes {
				b := &run.Store.Boxes[i]
				impl.ChangesSince(*b, 0)
				b.Gones = append(b.Gones, impl.Gone{})
				for j := range b.Mails {
					b.Mails[j].Flags = append(b.Mails[j].Flags, "turned")
					b.Mails[j].Flags[0] = "turned"
				}
			}
			impl.StoreFault(store)
			impl.StoreBytes(store)
			impl.FindBox(store, "INBOX")
			if !sameStores(seenStore, seenWithRoom(store)) || !slices.EqualFunc(seenOps, opsWithRoom(ops), sameOps) {
				t.Fatalf("an argument has changed")
			}
		}
	}
}

func checkRunShares(t *testing.T, store impl.Store, ops []impl.StoreOp, run impl.StoreRun) {
	t.Helper()
	givenLists, givenTexts := storeSpans(store)
	opLists, opTexts := opSpans(ops)
	lists, texts := storeSpans(run.Store)
	lists = append(lists, spanOf(run.Outs))
	for _, out := range run.Outs {
		lists = append(lists, spanOf(out.Uids), spanOf(out.Failed))
	}
	wantEachApart(t, "lists", lists)
	wantApartFrom(t, "lists", lists, slices.Concat(givenLists, opLists))
	wantApartFrom(t, "texts", texts, slices.Concat(givenTexts, opTexts))
}

// TestStoreRunsOfCopies has flags and messages that several mails have from one.
func TestStoreRunsOfCopies(t *testing.T) {
	store := roomyStore(someStore())
	ops := roomyOps([]impl.StoreOp{
		flagging(impl.StSet, 0, ids(2, 3, 5, 7), "a", "b"), copying("INBOX", "INBOX", 2, 3), copying("INBOX", "z", 2, 3, 5, 7, 10), copying("z", "A/b", 1, 2, 3),
		flagging(impl.StAdd, 0, ids(2, 3), `\Deleted`), expunging(), putMail(1, "new", "a", "b"), flagging(impl.StDrop, 0, ids(5, 7), "b"),
	})
	run := impl.RunStore(store, ops)
	wantNumbers(t, "codes", "copies", outCodes(run), make([]int64, len(ops)))
	checkRunShares(t, store, ops, run)
	before := storeCopy(run.Store)
	for at := range run.Store.Boxes {
		for i := range run.Store.Boxes[at].Mails {
			mail := &run.Store.Boxes[at].Mails[i]
			for j := range mail.Flags {
				mail.Flags[j] = "turned"
			}
			_ = append(mail.Flags, "turned")
			copy(mail.Flags, before.Boxes[at].Mails[i].Flags)
			if !sameStores(before, run.Store) {
				t.Fatalf("flags of the mail %d are another's, too", mail.Uid)
			}
		}
	}
	// What ChangesSince tells is the caller's.
	b := run.Store.Boxes[inBox]
	list := impl.ChangesSince(b, 0)
	wantEachApart(t, "changes", []span{spanOf(list.Changed), spanOf(list.Gone), spanOf(b.Mails), spanOf(b.Gones)})
}

// TestStoreRunsAgain asks twice, as what a map tells in its own order differs from time to time.
func TestStoreRunsAgain(t *testing.T) {
	op := flagging(impl.StAdd, 0, ids(2, 3, 5, 7), manyFlags(0, 15)...)
	ops := []impl.StoreOp{putMail(1, "m", slices.Sorted(slices.Values(systemFlags))...), op, flagging(impl.StDrop, 0, ids(2, 7), "f03", `\Seen`), copying("INBOX", "z", upTo(1, 20)...)}
	first := impl.RunStore(someStore(), ops)
	for range 50 {
		run := impl.RunStore(someStore(), ops)
		if !sameStores(run.Store, first.Store) || !slices.EqualFunc(run.Outs, first.Outs, sameOut) {
			t.Fatalf("a run answers %s, then %s", shown(first), shown(run))
		}
	}
}
