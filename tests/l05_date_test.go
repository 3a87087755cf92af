package tests

import (
	"fmt"
	"strings"
	"testing"
	"time"

	"loop.example/g00013/impl"
)

const (
	maxTime = 253402300799
	maxZone = 1439
)

// clockOf is a time in a zone, as the library reckons it.
func clockOf(at, zone int64) time.Time {
	return time.Unix(at, 0).In(time.FixedZone("", int(60*zone)))
}

func checkDate(t *testing.T, value string, want impl.Date) {
	t.Helper()
	if got := impl.ReadDate(value); got != want {
		t.Errorf("ReadDate of %s: %+v, want %+v", short(value), got, want)
	}
}

func date(at, zone int64) impl.Date { return impl.Date{Good: true, Time: at, Zone: zone} }

// checkWritten holds a date against the library's, and reads it.
func checkWritten(t *testing.T, at, zone int64) {
	t.Helper()
	given := fmt.Sprint(at, " in ", zone)
	clock := clockOf(at, zone)
	written := impl.WriteDate(at, zone)
	wantText(t, "WriteDate", given, written, clock.Format("Mon, 02 Jan 2006 15:04:05 -0700"))
	wantText(t, "WriteStamp", given, impl.WriteStamp(at, zone), clock.Format("02-Jan-2006 15:04:05 -0700"))
	checkDate(t, written, date(at, zone))
}

func TestDateConstants(t *testing.T) {
	wantNumbers(t, "constants", "", []int64{impl.MaxTime}, []int64{maxTime})
}

func TestWriteDateTexts(t *testing.T) {
	for _, c := range []struct {
		at, zone    int64
		date, stamp string
	}{
		{0, 0, "Thu, 01 Jan 1970 00:00:00 +0000", "01-Jan-1970 00:00:00 +0000"},
		{59, 0, "Thu, 01 Jan 1970 00:00:59 +0000", "01-Jan-1970 00:00:59 +0000"},
		{86399, 0, "Thu, 01 Jan 1970 23:59:59 +0000", "01-Jan-1970 23:59:59 +0000"},
		{86400, 0, "Fri, 02 Jan 1970 00:00:00 +0000", "02-Jan-1970 00:00:00 +0000"},
		{0, 1, "Thu, 01 Jan 1970 00:01:00 +0001", "01-Jan-1970 00:01:00 +0001"},
		{0, maxZone, "Thu, 01 Jan 1970 23:59:00 +2359", "01-Jan-1970 23:59:00 +2359"},
		{86340, -maxZone, "Thu, 01 Jan 1970 00:00:00 -2359", "01-Jan-1970 00:00:00 -2359"},
		{60, -1, "Thu, 01 Jan 1970 00:00:00 -0001", "01-Jan-1970 00:00:00 -0001"},
		{951782400, 0, "Tue, 29 Feb 2000 00:00:00 +0000", "29-Feb-2000 00:00:00 +0000"},
		{951782399, 0, "Mon, 28 Feb 2000 23:59:59 +0000", "28-Feb-2000 23:59:59 +0000"},
		{951868800, 0, "Wed, 01 Mar 2000 00:00:00 +0000", "01-Mar-2000 00:00:00 +0000"},
		{4107542400, 0, "Mon, 01 Mar 2100 00:00:00 +0000", "01-Mar-2100 00:00:00 +0000"},
		{4107542399, 0, "Sun, 28 Feb 2100 23:59:59 +0000", "28-Feb-2100 23:59:59 +0000"},
		{1798761599, 60, "Fri, 01 Jan 2027 00:59:59 +0100", "01-Jan-2027 00:59:59 +0100"},
		{maxTime, 0, "Fri, 31 Dec 9999 23:59:59 +0000", "31-Dec-9999 23:59:59 +0000"},
		{maxTime, -1, "Fri, 31 Dec 9999 23:58:59 -0001", "31-Dec-9999 23:58:59 -0001"},
		{maxTime, -maxZone, "Fri, 31 Dec 9999 00:00:59 -2359", "31-Dec-9999 00:00:59 -2359"},
		{maxTime - 60, 1, "Fri, 31 Dec 9999 23:59:59 +0001", "31-Dec-9999 23:59:59 +0001"},
	} {
		given := fmt.Sprint(c.at, " in ", c.zone)
		wantText(t, "WriteDate", given, impl.WriteDate(c.at, c.zone), c.date)
		wantText(t, "WriteStamp", given, impl.WriteStamp(c.at, c.zone), c.stamp)
		checkWritten(t, c.at, c.zone)
	}
}

func TestWriteDateRefuses(t *testing.T) {
	for _, c := range [][2]int64{
		{-1, 0}, {maxTime + 1, 0}, {0, -1}, {59, -1}, {maxTime, 1}, {maxTime - 59, 1}, {86339, -maxZone}, {maxTime - 60*maxZone + 1, maxZone},
		{1 << 40, 0}, {-60, 1}, {maxTime + 60, -1}, {maxTime + 1, -1}, {-1, maxZone},
		{1e9, maxZone + 1}, {1e9, -maxZone - 1}, {1e9, 1 << 62}, {1e9, -1 << 63}, {1e9, 1<<63 - 1},
		{-1 << 63, 0}, {-1 << 63, -1}, {-1 << 63, maxZone}, {1<<63 - 1, 0}, {1<<63 - 1, 1}, {1<<63 - 1, -maxZone}, {1<<63 - 1, 1<<63 - 1}, {-1 << 63, -1 << 63},
	} {
		given := fmt.Sprint(c[0], " in ", c[1])
		wantText(t, "WriteDate", given, impl.WriteDate(c[0], c[1]), "")
		wantText(t, "WriteStamp", given, impl.WriteStamp(c[0], c[1]), "")
	}
}

func TestPromise5(t *testing.T) {
	d := &dice{state: 50}
	for range 50000 {
		at := (int64(d.below(1<<30))<<30 | int64(d.below(1<<30))) % (maxTime + 1)
		zone := int64(d.below(2*maxZone+1) - maxZone)
		if shown := at + 60*zone; shown >= 0 && shown <= maxTime {
			checkWritten(t, at, zone)
		}
	}
	for zone := int64(-maxZone); zone <= maxZone; zone++ {
		checkWritten(t, 86400, zone)
		checkWritten(t, maxTime-86400, zone)
		checkWritten(t, max(0, -60*zone), zone)
		checkWritten(t, min(maxTime, maxTime-60*zone), zone)
	}
}

// TestMonths has the first and the last second of each month that there is.
func TestMonths(t *testing.T) {
	for year := 1970; year <= 9999; year++ {
		for month := time.January; month <= time.December; month++ {
			first := time.Date(year, month, 1, 0, 0, 0, 0, time.UTC).Unix()
			checkWritten(t, first, 0)
			if first > 0 {
				checkWritten(t, first-1, 0)
			}
		}
	}
}

func TestReadDateTexts(t *testing.T) {
	const at = 1000000000 // 9 September 2001, 01:46:40, a Sunday
	for _, c := range []struct {
		value string
		want  impl.Date
	}{
		{"Sun, 09 Sep 2001 01:46:40 +0000", date(at, 0)},
		{"9 Sep 2001 01:46:40 +0000", date(at, 0)},
		{"09 Sep 2001 01:46:40 -0000", date(at, 0)},
		{"sUN,09 sEP 2001 01:46:40 gmt", date(at, 0)},
		// The day's name need not be the day's.
		{"Mon, 9 Sep 2001 01:46:40 +0000", date(at, 0)},
		{"9 Sep 2001 01:46 +0000", date(at-40, 0)},
		{"9 Sep 2001 03:46:40 +0200", date(at, 120)},
		{"8 Sep 2001 23:16:40 -0230", date(at, -150)},
		{"9 Sep 01 01:46:40 Z", date(at, 0)},
		{"9 Sep 101 01:46:40 Z", date(at, 0)},
		// Gaps and comments between all tokens.
		{" Sun , 9 Sep 2001 01 : 46 : 40 +0000 ", date(at, 0)},
		{"(a)Sun(b),(c)9(d)Sep(e)2001(f)01(g):(h)46(i):(j)40(k)+0000(l)", date(at, 0)},
		{"\tSun,\r\n 9\tSep\r\n\t2001 01:46:40\r\n +0000\r\n ", date(at, 0)},
		{"9(x)Sep(y)2001 01:46:40+0000", impl.Date{}},
		{"9 Sep 2001 01:46:40(x)+0000", date(at, 0)},
		// Years of two, three and four digits.
		{"1 Jan 70 00:00 Z", date(0, 0)},
		{"1 Jan 00 00:00 Z", date(946684800, 0)},
		{"1 Jan 49 00:00 Z", date(2493072000, 0)},
		{"1 Jan 50 00:00 Z", impl.Date{}},
		{"1 Jan 69 00:00 Z", impl.Date{}},
		{"31 Dec 69 23:59 -0001", date(0, -1)},
		{"1 Jan 99 00:00 Z", date(915148800, 0)},
		{"1 Jan 070 00:00 Z", date(0, 0)},
		{"1 Jan 000 00:00 Z", impl.Date{}},
		{"1 Jan 049 00:00 Z", impl.Date{}},
		{"1 Jan 100 00:00 Z", date(946684800, 0)},
		{"1 Jan 999 00:00 Z", date(29316470400, 0)},
		{"1 Jan 0070 00:00 Z", impl.Date{}},
		{"1 Jan 0000 00:00 Z", impl.Date{}},
		{"1 Jan 1970 00:00 Z", date(0, 0)},
		{"1 Jan 9999 00:00 Z", date(253370764800, 0)},
		{"1 Jan 5 00:00 Z", impl.Date{}},
		{"1 Jan 10000 00:00 Z", impl.Date{}},
		{"1 Jan 01970 00:00 Z", impl.Date{}},
		// 29 February.
		{"29 Feb 2004 00:00 Z", date(1078012800, 0)},
		{"29 Feb 2003 00:00 Z", impl.Date{}},
		{"29 Feb 2000 00:00 Z", date(951782400, 0)},
		{"29 Feb 00 00:00 Z", date(951782400, 0)},
		{"29 Feb 2100 00:00 Z", impl.Date{}},
		{"29 Feb 200 00:00 Z", impl.Date{}},
		{"28 Feb 2100 00:00 Z", date(4107456000, 0)},
		{"29 Feb 2400 00:00 Z", date(13574563200, 0)},
		{"30 Feb 2000 00:00 Z", impl.Date{}},
		// Seconds.
		{"1 Jan 1970 00:00:59 Z", date(59, 0)},
		{"1 Jan 1970 00:00:60 Z", date(59, 0)},
		{"1 Jan 1970 00:00:61 Z", impl.Date{}},
		{"31 Dec 9999 23:59:60 Z", date(maxTime, 0)},
		{"1 Jan 1970 23:00 Z", date(82800, 0)},
		{"1 Jan 1970 24:00 Z", impl.Date{}},
		{"1 Jan 1970 00:59 Z", date(3540, 0)},
		{"1 Jan 1970 00:60 Z", impl.Date{}},
		// The zone carries the time beyond.
		{"1 Jan 1970 00:00 +0001", impl.Date{}},
		{"1 Jan 1970 00:01 +0001", date(0, 1)},
		{"1 Jan 1970 23:59 +2359", date(0, maxZone)},
		{"1 Jan 1970 23:58 +2359", impl.Date{}},
		{"31 Dec 1969 23:59 -0001", date(0, -1)},
		{"31 Dec 1969 23:59 -0000", impl.Date{}},
		{"31 Dec 1969 23:58:59 -0001", impl.Date{}},
		{"31 Dec 1969 00:01 -2359", date(0, -maxZone)},
		{"31 Dec 1969 00:00 -2359", impl.Date{}},
		{"31 Dec 9999 23:59:59 +0000", date(maxTime, 0)},
		{"31 Dec 9999 23:59:59 -0001", impl.Date{}},
		{"31 Dec 9999 23:58:59 -0001", date(maxTime, -1)},
		{"31 Dec 9999 23:59:59 +2359", date(maxTime-60*maxZone, maxZone)},
		{"1 Jan 1970 00:00 EST", date(18000, -300)},
		{"31 Dec 1969 19:00 EST", date(0, -300)},
		{"31 Dec 1969 18:59 EST", impl.Date{}},
		{"31 Dec 9999 19:00 EST", impl.Date{}},
	} {
		checkDate(t, c.value, c.want)
	}
}

func TestReadDateNames(t *testing.T) {
	months := strings.Fields("Jan Feb Mar Apr May Jun Jul Aug Sep Oct Nov Dec")
	for i, name := range months {
		at := time.Date(2001, time.Month(i+1), 9, 0, 0, 0, 0, time.UTC).Unix()
		for _, text := range []string{name, strings.ToLower(name), strings.ToUpper(name)} {
			checkDate(t, "9 "+text+" 2001 00:00 Z", date(at, 0))
		}
		for _, text := range []string{name + "x", name[:2], "\"" + name + "\"", name + ".", "[" + name + "]", "(" + name + ")"} {
			checkDate(t, "9 "+text+" 2001 00:00 Z", impl.Date{})
		}
	}
	for _, name := range strings.Fields("Mon Tue Wed Thu Fri Sat Sun") {
		for _, text := range []string{name, strings.ToLower(name), strings.ToUpper(name)} {
			checkDate(t, text+", 1 Jan 1970 00:00 Z", date(0, 0))
			checkDate(t, text+" 1 Jan 1970 00:00 Z", impl.Date{})
		}
		for _, text := range []string{name + "day,", name[:2] + ",", "\"" + name + "\",", name + ",,", name + ";", name + ".,", name + "," + name + ",", ","} {
			checkDate(t, text+" 1 Jan 1970 00:00 Z", impl.Date{})
		}
	}
	checkDate(t, "Xyz, 1 Jan 1970 00:00 Z", impl.Date{})
	checkDate(t, "Jan, 1 Jan 1970 00:00 Z", impl.Date{})
	checkDate(t, "1 Mon 1970 00:00 Z", impl.Date{})
	checkDate(t, "1 1 1970 00:00 Z", impl.Date{})
	checkDate(t, "Jan 1 1970 00:00 Z", impl.Date{})
}

func TestReadDateDays(t *testing.T) {
	for _, year := range []int{1970, 1972, 2000, 2100, 2023} {
		for month := time.January; month <= time.December; month++ {
			for day := range 100 {
				at := time.Date(year, month, day, 0, 0, 0, 0, time.UTC)
				want := impl.Date{}
				if at.Month() == month && day > 0 && day < 32 {
					want = date(at.Unix(), 0)
				}
				tail := fmt.Sprintf(" %s %d 00:00 Z", month.String()[:3], year)
				checkDate(t, fmt.Sprintf("%02d", day)+tail, want)
				if day < 10 {
					checkDate(t, fmt.Sprint(day)+tail, want)
				}
				checkDate(t, fmt.Sprintf("%03d", day)+tail, impl.Date{})
			}
		}
	}
}

func TestReadDateZones(t *testing.T) {
	for _, c := range []struct {
		zone string
		want int64
	}{
		{"EST", -300}, {"EDT", -240}, {"CST", -360}, {"CDT", -300}, {"MST", -420}, {"MDT", -360}, {"PST", -480}, {"PDT", -420},
		{"est", -300}, {"eDt", -240}, {"cst", -360}, {"Cdt", -300}, {"msT", -420}, {"mdt", -360}, {"pst", -480}, {"PdT", -420},
		{"GMT", 0}, {"UT", 0}, {"Z", 0}, {"A", 0}, {"a", 0}, {"CET", 0}, {"ES", 0}, {"ESTX", 0}, {"XEST", 0}, {"abcdefghijklmnopqrstuvwxyzABCDEFGHIJKLMNOPQRSTUVWXYZ", 0},
		{"+0000", 0}, {"-0000", 0}, {"+0001", 1}, {"-0001", -1}, {"+0059", 59}, {"+0100", 60}, {"-0130", -90}, {"+1234", 754}, {"+2359", maxZone}, {"-2359", -maxZone},
	} {
		checkDate(t, "9 Sep 2001 01:46:40 "+c.zone, date(1000000000-60*c.want, c.want))
	}
	for _, zone := range []string{
		"", "+", "-", "+0", "+00", "+000", "+00000", "0000", "00000", "+0060", "+0099", "-0060", "+2400", "-2400", "+9999", "+23:59", "+-000", "++000", "+000a", "a0000", "*0000", "+00 00", "+ 0000", "+00.00",
		"EST5", "E-T", "E.T", "EST.", "E_T", "É", "\xc9", "ESTé", "\"EST\"", "\"\"", "[EST]", "(EST)", "<EST>", ".", ",", ":", ":00", "'Z'",
		"EST EST", "EST +0000", "+0000 EST", "+0000,", "EST,", "Z;", "Z 1", "Z \"\"", "Z []", "Z@",
	} {
		checkDate(t, "9 Sep 2001 01:46:40 "+zone, impl.Date{})
	}
}

func TestReadDateRefuses(t *testing.T) {
	for _, value := range []string{
		"", " ", "(c)", ",", "9", "9 Sep", "9 Sep 2001", "9 Sep 2001 01", "9 Sep 2001 01:", "9 Sep 2001 01:46", "9 Sep 2001 01:46:", "9 Sep 2001 01:46:40", "Sun", "Sun,", "Sun, 9",
		"Sep 2001 01:46:40 Z", "9 2001 01:46:40 Z", "9 Sep 01:46:40 Z", "9 Sep 2001 Z", "9 Sep 2001 :46 Z", "9 Sep 2001 01 46 Z", "9 Sep 2001 01::46 Z", "9 Sep 2001 01:46::40 Z", "9 Sep 2001 01:46:40:00 Z", "9 Sep 2001 01:46: Z",
		"9 Sep 2001 1:46:40 Z", "9 Sep 2001 01:6:40 Z", "9 Sep 2001 01:46:4 Z", "9 Sep 2001 001:46:40 Z", "9 Sep 2001 01:046:40 Z", "9 Sep 2001 01:46:040 Z", "9 Sep 2001 01:46:40.5 Z", "9 Sep 2001 01.46.40 Z",
		"+9 Sep 2001 01:46:40 Z", "-9 Sep 2001 01:46:40 Z", "9. Sep 2001 01:46:40 Z", "9 Sep +2001 01:46:40 Z", "9 Sep +200 01:46:40 Z", "9 Sep -01 01:46:40 Z", "9 Sep 2001 +1:46:40 Z", "9 Sep 2001 01:+6:40 Z", "9 Sep 2001 01:46:+4 Z", "9 Sep 2001 -1:46:40 Z",
		"9-Sep-2001 01:46:40 Z", "9 Sep, 2001 01:46:40 Z", "9, Sep 2001 01:46:40 Z", "\"9\" Sep 2001 01:46:40 Z", "9 Sep \"2001\" 01:46:40 Z", "9 Sep 2001 \"01\":46:40 Z", "9 Sep 2001 01:\"46\":40 Z", "9 Sep 2001 01:46:[40] Z", "9 Sep 2001 01\":\"46 Z",
		"9x Sep 2001 01:46:40 Z", "0x9 Sep 2001 01:46:40 Z", "9 Sep 200a 01:46:40 Z", "9 Sep 2_01 01:46:40 Z", "9 Sep 2001 0a:46:40 Z", "９ Sep 2001 01:46:40 Z",
		"Sun, Sun, 9 Sep 2001 01:46:40 Z", "9 Sun, Sep 2001 01:46:40 Z", "9 Sep 2001 01:46:40 Z Sun", "9 Sep 2001 Z 01:46:40", "2001 Sep 9 01:46:40 Z",
		// Ill tokens.
		"9 Sep 2001 01:46:40 Z \x00", "9 Sep 2001 01:46:40 Z (", "9 Sep 2001 01:46:40 Z\r\n", "9 Sep 2001 01:46:40 Z \"", "9 Sep\n 2001 01:46:40 Z", "\x7f9 Sep 2001 01:46:40 Z",
		"9223372036854775808 Sep 2001 01:46:40 Z", "9 Sep 18446744073709551616 01:46:40 Z", "9 Sep 2001 01:46:40 +18446744073709551616", "9 Sep 2001 01:46:40 +9223372036854775807",
	} {
		checkDate(t, value, impl.Date{})
	}
}

func TestReadDateLengths(t *testing.T) {
	const text = "1 Jan 1970 00:00 Z"
	gap := strings.Repeat(" ", maxText-len(text))
	checkDate(t, text+gap, date(0, 0))
	checkDate(t, gap+text, date(0, 0))
	checkDate(t, text+gap+" ", impl.Date{})
	checkDate(t, gap+" "+text, impl.Date{})
	letters := strings.Repeat("z", maxText-len(text))
	checkDate(t, text+letters, date(0, 0))
	checkDate(t, text+letters+"z", impl.Date{})
	// 7 tokens and as many comments as there may be tokens.
	comments := strings.Repeat("()", maxTokens-7)
	checkDate(t, text+comments, date(0, 0))
	checkDate(t, comments+text, date(0, 0))
	checkDate(t, text+comments+"()", impl.Date{})
	checkDate(t, strings.Repeat("9", maxText), impl.Date{})
}

func TestReadDateTakesWhateverComes(t *testing.T) {
	d := &dice{state: 51}
	words := []string{"Sun", ",", "9", "09", "29", "Feb", "Sep", "2001", "01", "99", ":", "00", "59", "60", "+0000", "-2359", "EST", "Z", "(c)", "\"", "", ".", "é"}
	right := []string{"Sun", ",", "9", "Sep", "2001", "01", ":", "46", ":", "40", "+0000"}
	read := 0
	for range 100000 {
		tokens := append([]string{}, right...)
		for range d.below(3) {
			tokens[d.below(len(tokens))] = words[d.below(len(words))]
		}
		value := strings.Join(tokens, " ")
		got := impl.ReadDate(value)
		if !got.Good {
			if got != (impl.Date{}) {
				t.Errorf("ReadDate of %q: %+v", value, got)
			}
			continue
		}
		read++
		if got.Time < 0 || got.Time > maxTime || got.Zone < -maxZone || got.Zone > maxZone {
			t.Errorf("ReadDate of %q: %+v", value, got)
		}
		checkWritten(t, got.Time, got.Zone)
	}
	if read < 1000 {
		t.Errorf("only %d dates were read", read)
	}
}

func TestDays(t *testing.T) {
	for _, c := range [][2]int64{
		{0, 0}, {1, 0}, {86399, 0}, {86400, 1}, {172799, 1}, {172800, 2}, {1000000000, 11574}, {maxTime - 86399, 2932896}, {maxTime - 86400, 2932895}, {maxTime, 2932896},
		{-1, 0}, {-86400, 0}, {-1 << 63, 0}, {maxTime + 1, 0}, {maxTime + 86400, 0}, {1<<63 - 1, 0},
	} {
		if got := impl.DayOf(c[0]); got != c[1] {
			t.Errorf("DayOf of %d: %d, want %d", c[0], got, c[1])
		}
	}
}
