package date

import (
	"fmt"
	"math"
	"math/rand"
	"strings"
	"testing"
	"time"

	"tollhouse/api"
)

const (
	layout = "Mon, 02 Jan 2006 15:04:05 GMT"
	lastly = 253402300799 // as the chapter has it
)

// model is the moment of s by the library's calendar: s must be, byte by byte, what that calendar tells of it.
func model(s string) (uint64, api.Errno) {
	at, err := time.Parse(layout, s)
	if err != nil || at.Unix() < 0 || at.Unix() > lastly || at.Format(layout) != s {
		return 0, api.ErrForm
	}
	return uint64(at.Unix()), api.OK
}

func modelText(n uint64) string { return time.Unix(int64(n), 0).UTC().Format(layout) }

// tells checks a moment's text, there and back.
func tells(t *testing.T, n uint64, want string) {
	t.Helper()
	s, e := Text(n)
	if s != want || e != api.OK {
		t.Fatalf("Text(%d): %q, %d; want %q", n, s, e, want)
	}
	if len(s) != 29 {
		t.Fatalf("Text(%d): %q has %d bytes", n, s, len(s))
	}
	if back, e := Parse(s); back != n || e != api.OK {
		t.Fatalf("Parse(%q): %d, %d; want %d", s, back, e, n)
	}
}

// asModel checks what is read from s, and that it is told as s again.
func asModel(t *testing.T, s string) {
	t.Helper()
	want, err := model(s)
	n, e := Parse(s)
	if n != want || e != err {
		t.Fatalf("Parse(%q): %d, %d; want %d, %d", s, n, e, want, err)
	}
	if e != api.OK {
		return
	}
	if back, e := Text(n); back != s || e != api.OK {
		t.Fatalf("Text(%d): %q, %d; want %q", n, back, e, s)
	}
}

func refused(t *testing.T, s string) {
	t.Helper()
	if n, e := Parse(s); n != 0 || e != api.ErrForm {
		t.Errorf("Parse(%q): %d, %d; want 0, ErrForm", s, n, e)
	}
}

// weekday is the day of the week that Text tells.
func weekday(t *testing.T, n uint64) string {
	t.Helper()
	s, e := Text(n)
	if e != api.OK {
		t.Fatalf("Text(%d): %d", n, e)
	}
	return s[:3]
}

// some are texts of moments that differ in all their parts.
var some = []string{
	"Thu, 01 Jan 1970 00:00:00 GMT",
	"Sun, 06 Nov 1994 08:49:37 GMT",
	"Tue, 29 Feb 2000 23:59:59 GMT",
	"Mon, 31 Aug 2026 10:20:30 GMT",
	"Fri, 31 Dec 9999 23:59:59 GMT",
}

// P4.1: the chapter's examples.
func TestExamples(t *testing.T) {
	tells(t, 0, "Thu, 01 Jan 1970 00:00:00 GMT")
	tells(t, 784111777, "Sun, 06 Nov 1994 08:49:37 GMT")
	refused(t, "Mon, 06 Nov 1994 08:49:37 GMT")
	refused(t, "Thu, 31 Feb 1994 08:49:37 GMT")
	refused(t, "Sun, 06 Nov 1994 24:00:00 GMT")
	refused(t, "Sun, 06 Nov 1994 08:49:37 gmt")
	if Last != lastly {
		t.Error(uint64(Last))
	}
}

// P4.1, P4.2: the last and the first second of days, months and years, and both ends of all moments.
func TestEdges(t *testing.T) {
	for _, x := range []struct {
		n         uint64
		last, now string // the second ahead of n; n
	}{
		{60, "Thu, 01 Jan 1970 00:00:59 GMT", "Thu, 01 Jan 1970 00:01:00 GMT"},
		{3600, "Thu, 01 Jan 1970 00:59:59 GMT", "Thu, 01 Jan 1970 01:00:00 GMT"},
		{86400, "Thu, 01 Jan 1970 23:59:59 GMT", "Fri, 02 Jan 1970 00:00:00 GMT"},
		{2678400, "Sat, 31 Jan 1970 23:59:59 GMT", "Sun, 01 Feb 1970 00:00:00 GMT"},
		{5097600, "Sat, 28 Feb 1970 23:59:59 GMT", "Sun, 01 Mar 1970 00:00:00 GMT"},
		{31536000, "Thu, 31 Dec 1970 23:59:59 GMT", "Fri, 01 Jan 1971 00:00:00 GMT"},
		{68169600, "Mon, 28 Feb 1972 23:59:59 GMT", "Tue, 29 Feb 1972 00:00:00 GMT"},
		{68256000, "Tue, 29 Feb 1972 23:59:59 GMT", "Wed, 01 Mar 1972 00:00:00 GMT"},
		{94694400, "Sun, 31 Dec 1972 23:59:59 GMT", "Mon, 01 Jan 1973 00:00:00 GMT"},
		{946684800, "Fri, 31 Dec 1999 23:59:59 GMT", "Sat, 01 Jan 2000 00:00:00 GMT"},
		{951782400, "Mon, 28 Feb 2000 23:59:59 GMT", "Tue, 29 Feb 2000 00:00:00 GMT"},
		{951868800, "Tue, 29 Feb 2000 23:59:59 GMT", "Wed, 01 Mar 2000 00:00:00 GMT"},
		{1 << 31, "Tue, 19 Jan 2038 03:14:07 GMT", "Tue, 19 Jan 2038 03:14:08 GMT"},
		{4107542400, "Sun, 28 Feb 2100 23:59:59 GMT", "Mon, 01 Mar 2100 00:00:00 GMT"},
		{4133980800, "Fri, 31 Dec 2100 23:59:59 GMT", "Sat, 01 Jan 2101 00:00:00 GMT"},
		{1 << 32, "Sun, 07 Feb 2106 06:28:15 GMT", "Sun, 07 Feb 2106 06:28:16 GMT"},
		{12622780800, "Wed, 31 Dec 2369 23:59:59 GMT", "Thu, 01 Jan 2370 00:00:00 GMT"},
		{13574563200, "Mon, 28 Feb 2400 23:59:59 GMT", "Tue, 29 Feb 2400 00:00:00 GMT"},
		{253370764800, "Thu, 31 Dec 9998 23:59:59 GMT", "Fri, 01 Jan 9999 00:00:00 GMT"},
		{lastly, "Fri, 31 Dec 9999 23:59:58 GMT", "Fri, 31 Dec 9999 23:59:59 GMT"},
	} {
		if modelText(x.n) != x.now {
			t.Fatalf("the row of %d is wrong: %q", x.n, modelText(x.n))
		}
		tells(t, x.n-1, x.last)
		tells(t, x.n, x.now)
	}
}

// P4.1: numbers above Last, some of which are a moment's where only some of their bits are counted, or where days go round.
func TestLong(t *testing.T) {
	for _, n := range []uint64{
		lastly + 1, lastly + 2, lastly + 60, lastly + 86400, 2 * lastly, 1 << 38, 1 << 40, 1 << 53, 1 << 62, 1<<63 - 1, 1 << 63, 1<<63 + 1,
		math.MaxUint64, math.MaxUint64 - 86400, math.MaxUint64 - 784111777, lastly * 1000, 784111777000,
	} {
		if s, e := Text(n); s != "" || e != api.ErrLong {
			t.Errorf("Text(%d): %q, %d; want ErrLong", n, s, e)
		}
	}
}

// P4.1, P4.2, P4.3: all days there are; the calendar is counted on day by day, as the chapter's words have it.
func TestAllDays(t *testing.T) {
	names := strings.Fields("Jan Feb Mar Apr May Jun Jul Aug Sep Oct Nov Dec")
	week := strings.Fields("Thu Fri Sat Sun Mon Tue Wed")
	lengths := []int{31, 28, 31, 30, 31, 30, 31, 31, 30, 31, 30, 31}
	count := 0
	for year := 1970; year <= 9999; year++ {
		lengths[1] = 28
		if year%400 == 0 || year%100 != 0 && year%4 == 0 {
			lengths[1] = 29
		}
		for m, days := range lengths {
			for day := 1; day <= days; day++ {
				second := count * 7919 % 86400
				want := []byte("www, dd mmm yyyy hh:nn:ss GMT")
				copy(want, week[count%7])
				pair(want[5:], day)
				copy(want[8:], names[m])
				pair(want[12:], year/100)
				pair(want[14:], year%100)
				pair(want[17:], second/3600)
				pair(want[20:], second/60%60)
				pair(want[23:], second%60)
				tells(t, uint64(count*86400+second), string(want))
				count++
			}
		}
	}
	if uint64(count)*86400-1 != Last {
		t.Error(count)
	}
}

// pair lays n down in two digits.
func pair(b []byte, n int) { b[0], b[1] = byte('0'+n/10), byte('0'+n%10) }

// P4.1, P4.2: moments of any kind, against the library's calendar.
func TestMoments(t *testing.T) {
	dice := rand.New(rand.NewSource(4))
	for i := range 50000 {
		for _, n := range []uint64{uint64(dice.Int63n(lastly + 1)), uint64(dice.Int63n(1 << 32)), uint64(i), lastly - uint64(i)} {
			tells(t, n, modelText(n))
		}
	}
}

// P4.1, P4.2: all pairs of digits as hours, minutes and seconds: only those of a day are read.
func TestClock(t *testing.T) {
	for h := range 100 {
		for m := range 100 {
			for s := range 100 {
				what := fmt.Sprintf("Sun, 06 Nov 1994 %02d:%02d:%02d GMT", h, m, s)
				n, e := Parse(what)
				want, err := uint64(784080000+h*3600+m*60+s), api.OK
				if h > 23 || m > 59 || s > 59 {
					want, err = 0, api.ErrForm
				}
				if n != want || e != err {
					t.Fatalf("Parse(%q): %d, %d; want %d, %d", what, n, e, want, err)
				}
			}
		}
	}
}

// P4.1: days that months have and have not, in years of both lengths, and ahead of the first; only one day of the week is theirs.
func TestCalendar(t *testing.T) {
	for _, year := range []int{0, 1, 370, 400, 1600, 1601, 1900, 1968, 1969, 1970, 1971, 1972, 1999, 2000, 2001, 2004, 2026, 2100, 2369, 2370, 2400, 9996, 9998, 9999} {
		for _, month := range strings.Fields("Jan Feb Mar Apr May Jun Jul Aug Sep Oct Nov Dec") {
			for day := range 100 {
				right := 0
				for _, week := range strings.Fields("Mon Tue Wed Thu Fri Sat Sun") {
					s := fmt.Sprintf("%s, %02d %s %04d 12:34:56 GMT", week, day, month, year)
					asModel(t, s)
					if _, e := Parse(s); e == api.OK {
						right++
					}
				}
				if right > 1 || year >= 1970 && 1 <= day && day <= 28 && right != 1 || year < 1970 && right != 0 {
					t.Fatal(year, month, day, right)
				}
			}
		}
	}
}

// P4.1: the 29th of February, of years that have one and of years that have none, whatever day of the week is told.
func TestLeapDay(t *testing.T) {
	for year, has := range map[int]bool{1972: true, 1996: true, 2000: true, 2024: true, 2096: true, 2104: true, 2400: true, 8000: true, 9996: true, 1970: false, 1999: false, 2001: false, 2002: false, 2026: false, 2100: false, 2200: false, 2300: false, 2500: false, 9900: false, 9999: false} {
		got := false
		for _, week := range strings.Fields("Mon Tue Wed Thu Fri Sat Sun") {
			_, e := Parse(fmt.Sprintf("%s, 29 Feb %04d 00:00:00 GMT", week, year))
			got = got || e == api.OK
		}
		if got != has {
			t.Error(year, got)
		}
	}
}

// P4.1: each byte in each place of a text, and each place left out or filled twice.
func TestEachByte(t *testing.T) {
	for _, s := range some {
		for at := range len(s) {
			for c := range 256 {
				one := string([]byte{byte(c)})
				asModel(t, s[:at]+one+s[at+1:])
				refused(t, s[:at]+one+s[at:])
			}
			refused(t, s[:at]+s[at+1:])
			refused(t, s[:at])
			refused(t, s[at+1:])
		}
	}
}

// P4.1: each two places of a text filled with what may stand in some text.
func TestTwoBytes(t *testing.T) {
	for _, s := range some {
		for a := range len(s) {
			for b := range a {
				for _, c := range []byte("0129 :,+-nGT\x00") {
					for _, d := range []byte("0129 :,+-nGT\x00") {
						l := []byte(s)
						l[a], l[b] = c, d
						asModel(t, string(l))
					}
				}
			}
		}
	}
}

// P4.1: what is a date elsewhere, or nearly one.
func TestWrongTexts(t *testing.T) {
	for _, s := range []string{
		"", " ", "GMT", "0", "784111777", strings.Repeat(" ", 29), strings.Repeat("0", 29), strings.Repeat("\x00", 29), strings.Repeat("\xff", 29), strings.Repeat("é", 15)[:29],
		"Sunday, 06-Nov-94 08:49:37 GMT", "Sun Nov  6 08:49:37 1994", "1994-11-06T08:49:37Z", "Sun, 6 Nov 1994 08:49:37 GMT", "Sun,  6 Nov 1994 08:49:37 GMT", "Sun, 06 Nov 94 08:49:37 GMT",
		"Sun, 06 Nov 1994 08:49:37", "Sun, 06 Nov 1994 08:49:37 ", "Sun, 06 Nov 1994 08:49:37 GMT ", " Sun, 06 Nov 1994 08:49:37 GMT", "Sun, 06 Nov 1994 08:49:37 GMT\n", "Sun, 06 Nov 1994 08:49:37.0 GMT",
		"Sun, 06 Nov 1994 08:49:37 UTC", "Sun, 06 Nov 1994 08:49:37 UT", "Sun, 06 Nov 1994 08:49:37 +0000", "Sun, 06 Nov 1994 08:49:37 CET", "Sun, 06 Nov 1994 08:49:37 Gmt", "Sun, 06 Nov 1994 08:49:37\tGMT",
		"sun, 06 Nov 1994 08:49:37 GMT", "SUN, 06 Nov 1994 08:49:37 GMT", "Sun, 06 nov 1994 08:49:37 GMT", "Sun, 06 NOV 1994 08:49:37 GMT", "sUN, 06 nOV 1994 08:49:37 gMT",
		"Sun; 06 Nov 1994 08:49:37 GMT", "Sun,06  Nov 1994 08:49:37 GMT", "Sun,\t06 Nov 1994 08:49:37 GMT", "Sun, 06-Nov-1994 08:49:37 GMT", "Sun, 06 Nov 1994 08.49.37 GMT", "Sun, 06 Nov 1994 08:49 37 GMT",
		"Sun, +6 Nov 1994 08:49:37 GMT", "Sun, -6 Nov 1994 08:49:37 GMT", "Sun, 6  Nov 1994 08:49:37 GMT", "Sun, 0x Nov 1994 08:49:37 GMT", "Sun, 06 Nov +994 08:49:37 GMT", "Sun, 06 Nov 199_ 08:49:37 GMT",
		"Sun, 06 Nov 1994 +8:49:37 GMT", "Sun, 06 Nov 1994 -8:49:37 GMT", "Sun, 06 Nov 1994  8:49:37 GMT", "Sun, 06 Nov 1994 8 :49:37 GMT", "Sun, 06 Nov 1994 08:+9:37 GMT", "Sun, 06 Nov 1994 08: 9:37 GMT", "Sun, 06 Nov 1994 08:49:-7 GMT", "Sun, 06 Nov 1994 08:49: 7 GMT", "Sun, 06 Nov 1994 08:4_:37 GMT",
		"Sun, 06 Nov 1994 24:49:37 GMT", "Sun, 06 Nov 1994 24:00:00 GMT", "Mon, 07 Nov 1994 24:00:00 GMT", "Sun, 06 Nov 1994 08:60:37 GMT", "Sun, 06 Nov 1994 08:49:60 GMT", "Sat, 31 Dec 2016 23:59:60 GMT", "Sun, 06 Nov 1994 99:99:99 GMT",
		"Sun, 00 Nov 1994 08:49:37 GMT", "Mon, 00 Nov 1994 08:49:37 GMT", "Thu, 31 Nov 1994 08:49:37 GMT", "Thu, 32 Dec 1970 00:00:00 GMT", "Fri, 32 Jan 1970 00:00:00 GMT", "Wed, 00 Jan 1970 00:00:00 GMT", "Thu, 00 Jan 1970 00:00:00 GMT",
		"Sun, 06 Nox 1994 08:49:37 GMT", "Sun, 06 Jän 1994 08:49:7 GMT", "Sun, 06 000 1994 08:49:37 GMT", "Xyz, 06 Nov 1994 08:49:37 GMT", "000, 06 Nov 1994 08:49:37 GMT",
		"Wed, 31 Dec 1969 23:59:59 GMT", "Thu, 31 Dec 1969 23:59:59 GMT", "Thu, 01 Jan 1969 00:00:00 GMT", "Sat, 01 Jan 0000 00:00:00 GMT", "Thu, 01 Jan 0000 00:00:00 GMT", "Mon, 01 Jan 1900 00:00:00 GMT",
		"Fri, 32 Dec 9999 00:00:00 GMT", "Fri, 31 Dec 9999 23:59:60 GMT", "Fri, 31 Dec 9999 24:00:00 GMT", "Sat, 01 Jan 10000 00:00:00 GMT", "Sat, 01 Jan 10000 00:00:0 GMT",
		"Sun, ٠٦ Nov 1994 8:49:7 GMT", "Sun, 06 Nov 1994 08:49:37 GMT" + strings.Repeat(" ", 1<<17), strings.Repeat("Sun, 06 Nov 1994 08:49:37 GMT", 1<<12),
	} {
		refused(t, s)
	}
}

// P4.2: all texts of the parts that texts have, right ones and wrong ones together; those that are read are told again.
func TestParts(t *testing.T) {
	for _, week := range []string{"Mon", "Tue", "Wed", "Thu", "Fri", "Sat", "Sun", "mon", "   "} {
		for _, day := range []string{"00", "01", "28", "29", "30", "31", "32", " 1", "+1"} {
			for _, month := range []string{"Jan", "Feb", "Apr", "Dec", "DEC", "13 "} {
				for _, year := range []string{"1969", "1970", "2000", "2100", "9999", "0000", "+200"} {
					for _, clock := range []string{"00:00:00", "23:59:59", "24:00:00", "23:60:00", "23:59:60", "-1:00:00", "00 00 00"} {
						for _, zone := range []string{" GMT", " gmt", "+GMT"} {
							asModel(t, week+", "+day+" "+month+" "+year+" "+clock+zone)
						}
					}
				}
			}
		}
	}
}

// P4.3: seven days later it is the same day of the week, and a day later the next one.
func TestWeek(t *testing.T) {
	next := map[string]string{"Mon": "Tue", "Tue": "Wed", "Wed": "Thu", "Thu": "Fri", "Fri": "Sat", "Sat": "Sun", "Sun": "Mon"}
	dice := rand.New(rand.NewSource(5))
	for i := range uint64(20000) {
		for _, n := range []uint64{i * 43200, uint64(dice.Int63n(lastly - 7*86400 + 1)), lastly - 7*86400 - i} {
			now := weekday(t, n)
			if then := weekday(t, n+7*86400); then != now {
				t.Fatal(n, now, then)
			}
			if then := weekday(t, n+86400); then != next[now] {
				t.Fatal(n, now, then)
			}
			if then := weekday(t, n-n%86400); then != now {
				t.Fatal(n, now, then)
			}
		}
	}
}
