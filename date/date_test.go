package date_test

import (
	"fmt"
	"math"
	"strings"
	"testing"
	"time"

	"larder/api"
	"larder/date"
)

const (
	lastDay  = 2932896
	lastTime = 253402300799
	layout   = "Mon, 02 Jan 2006 15:04:05 GMT"
)

// farInts are numbers at which a sum or a product would wrap round.
func farInts() []int {
	return []int{math.MinInt, math.MinInt + 1, math.MinInt / 400, math.MinInt32, 1 << 40, math.MaxInt / 86400, math.MaxInt - 1970, math.MaxInt - 1, math.MaxInt}
}

func fails[T comparable](got T, e, want api.Errno) bool {
	var zero T
	return got != zero || e != want
}

// P9: Days and Civil.

type dayCase struct{ year, month, day, want int }

func TestDaysAndCivil(t *testing.T) {
	for _, c := range []dayCase{
		{1970, 1, 1, 0},
		{1970, 1, 2, 1},
		{1970, 1, 31, 30},
		{1970, 2, 1, 31},
		{1970, 2, 28, 58},
		{1970, 3, 1, 59},
		{1970, 12, 31, 364},
		{1971, 1, 1, 365},
		{1972, 2, 29, 789},
		{1972, 12, 31, 1095},
		{1973, 1, 1, 1096},
		{1994, 11, 6, 9075},
		{2000, 2, 29, 11016},
		{2000, 12, 31, 11322},
		{2001, 1, 1, 11323},
		{2100, 2, 28, 47540},
		{2100, 3, 1, 47541},
		{2400, 2, 29, 157113},
		{9999, 12, 30, lastDay - 1},
		{9999, 12, 31, lastDay},
	} {
		if n, e := date.Days(c.year, c.month, c.day); n != c.want || e != api.OK {
			t.Errorf("Days(%d, %d, %d): %d %d, not %d", c.year, c.month, c.day, n, e, c.want)
		}
		if y, m, d, e := date.Civil(c.want); y != c.year || m != c.month || d != c.day || e != api.OK {
			t.Errorf("Civil(%d): %d %d %d %d, not %d %d %d", c.want, y, m, d, e, c.year, c.month, c.day)
		}
	}
}

// lengths are the days of each month of that year, by the promise's words.
func lengths(year int) [13]int {
	l := [13]int{0, 31, 28, 31, 30, 31, 30, 31, 31, 30, 31, 30, 31}
	if year%400 == 0 || year%4 == 0 && year%100 != 0 {
		l[2] = 29
	}
	return l
}

func TestEachDay(t *testing.T) {
	want := 0
	for year := 1970; year <= 9999; year++ {
		l := lengths(year)
		for month := 1; month <= 12; month++ {
			for day := 1; day <= l[month]; day++ {
				n, e := date.Days(year, month, day)
				y, m, d, f := date.Civil(want)
				if n != want || e != api.OK || y != year || m != month || d != day || f != api.OK {
					t.Fatalf("%d-%d-%d, day %d: Days %d %d, Civil %d %d %d %d", year, month, day, want, n, e, y, m, d, f)
				}
				want++
			}
			for _, day := range []int{math.MinInt, -1, 0, l[month] + 1, 32, 100, math.MaxInt} {
				if n, e := date.Days(year, month, day); fails(n, e, api.ErrArg) {
					t.Fatalf("Days(%d, %d, %d): %d %d", year, month, day, n, e)
				}
			}
		}
	}
	if want != lastDay+1 {
		t.Errorf("%d days", want)
	}
}

func TestDaysWrong(t *testing.T) {
	years := append([]int{-1970, -4, -1, 0, 1, 4, 70, 1600, 1968, 1969, 10000, 10001, 12000}, farInts()...)
	for _, year := range years {
		for _, month := range []int{1, 2, 12, 0, 13} {
			if n, e := date.Days(year, month, 1); fails(n, e, api.ErrArg) {
				t.Errorf("Days(%d, %d, 1): %d %d", year, month, n, e)
			}
		}
	}
	for _, month := range append([]int{-12, -1, 0, 13, 14, 24}, farInts()...) {
		for _, year := range []int{1970, 2000, 9999} {
			for _, day := range []int{0, 1, 31} {
				if n, e := date.Days(year, month, day); fails(n, e, api.ErrArg) {
					t.Errorf("Days(%d, %d, %d): %d %d", year, month, day, n, e)
				}
			}
		}
	}
	for _, day := range append([]int{-1, 0, 29, 30, 31, 32}, farInts()...) {
		if n, e := date.Days(2100, 2, day); fails(n, e, api.ErrArg) {
			t.Errorf("Days(2100, 2, %d): %d %d", day, n, e)
		}
	}
}

func TestCivilWrong(t *testing.T) {
	for _, n := range append([]int{-366, -365, -2, -1, lastDay + 1, lastDay + 2, lastDay + 366, lastDay * 2}, farInts()...) {
		if y, m, d, e := date.Civil(n); fails([3]int{y, m, d}, e, api.ErrArg) {
			t.Errorf("Civil(%d): %d %d %d %d", n, y, m, d, e)
		}
	}
}

// P10: Print and Parse.

type timeCase struct {
	n    int
	text string
}

func checkTimes(t *testing.T, cases []timeCase) {
	t.Helper()
	for _, c := range cases {
		if s, e := date.Print(c.n); s != c.text || e != api.OK {
			t.Fatalf("Print(%d): %q %d, not %q", c.n, s, e, c.text)
		}
		if n, e := date.Parse(c.text); n != c.n || e != api.OK {
			t.Fatalf("Parse(%q): %d %d, not %d", c.text, n, e, c.n)
		}
	}
}

func TestPrintAndParse(t *testing.T) {
	checkTimes(t, []timeCase{
		{0, "Thu, 01 Jan 1970 00:00:00 GMT"},
		{1, "Thu, 01 Jan 1970 00:00:01 GMT"},
		{59, "Thu, 01 Jan 1970 00:00:59 GMT"},
		{60, "Thu, 01 Jan 1970 00:01:00 GMT"},
		{3599, "Thu, 01 Jan 1970 00:59:59 GMT"},
		{3600, "Thu, 01 Jan 1970 01:00:00 GMT"},
		{86399, "Thu, 01 Jan 1970 23:59:59 GMT"},
		{86400, "Fri, 02 Jan 1970 00:00:00 GMT"},
		{784111777, "Sun, 06 Nov 1994 08:49:37 GMT"},
		{951782400, "Tue, 29 Feb 2000 00:00:00 GMT"},
		{2147483647, "Tue, 19 Jan 2038 03:14:07 GMT"},
		{2147483648, "Tue, 19 Jan 2038 03:14:08 GMT"},
		{4107542399, "Sun, 28 Feb 2100 23:59:59 GMT"},
		{4107542400, "Mon, 01 Mar 2100 00:00:00 GMT"},
		{4294967296, "Sun, 07 Feb 2106 06:28:16 GMT"},
		{lastTime - 1, "Fri, 31 Dec 9999 23:59:58 GMT"},
		{lastTime, "Fri, 31 Dec 9999 23:59:59 GMT"},
	})
}

func TestEachWeekdayAndMonth(t *testing.T) {
	checkTimes(t, []timeCase{
		{1704067200, "Mon, 01 Jan 2024 00:00:00 GMT"},
		{1707782400, "Tue, 13 Feb 2024 00:00:00 GMT"},
		{1710892800, "Wed, 20 Mar 2024 00:00:00 GMT"},
		{1712188800, "Thu, 04 Apr 2024 00:00:00 GMT"},
		{1717113600, "Fri, 31 May 2024 00:00:00 GMT"},
		{1719619200, "Sat, 29 Jun 2024 00:00:00 GMT"},
		{1720310400, "Sun, 07 Jul 2024 00:00:00 GMT"},
		{1724025600, "Mon, 19 Aug 2024 00:00:00 GMT"},
		{1727136000, "Tue, 24 Sep 2024 00:00:00 GMT"},
		{1727827200, "Wed, 02 Oct 2024 00:00:00 GMT"},
		{1730937600, "Thu, 07 Nov 2024 00:00:00 GMT"},
		{1733443200, "Fri, 06 Dec 2024 00:00:00 GMT"},
	})
}

// library tells second n by other means than the program.
func library(n int) timeCase { return timeCase{n, time.Unix(int64(n), 0).UTC().Format(layout)} }

func TestTimesOfAllYears(t *testing.T) {
	// A prime number of seconds, so that all days of the week and all times of day are met.
	const step = 430007
	for n := 0; n <= lastTime; n += step {
		checkTimes(t, []timeCase{library(n)})
	}
}

func TestEachSecondOfADay(t *testing.T) {
	for n := 951782400 - 1; n <= 951782400+86400; n++ {
		checkTimes(t, []timeCase{library(n)})
	}
}

func TestPrintWrong(t *testing.T) {
	for _, n := range append([]int{-1, -86400, -lastTime, lastTime + 1, lastTime + 86400}, farInts()...) {
		if s, e := date.Print(n); fails(s, e, api.ErrArg) {
			t.Errorf("Print(%d): %q %d", n, s, e)
		}
	}
}

func checkWrong(t *testing.T, texts ...string) {
	t.Helper()
	for _, s := range texts {
		if n, e := date.Parse(s); fails(n, e, api.ErrSyntax) {
			t.Errorf("Parse(%.60q): %d %d", s, n, e)
		}
	}
}

func TestParseOtherForms(t *testing.T) {
	checkWrong(t,
		"", " ", "GMT", "784111777",
		"Sunday, 06-Nov-94 08:49:37 GMT",
		"Sun Nov  6 08:49:37 1994",
		"Sun, 6 Nov 1994 08:49:37 GMT",
		"Sun,  6 Nov 1994 08:49:37 GMT",
		"Sun, 06 Nov 94 08:49:37 GMT",
		"Sun, 06 Nov 1994 8:49:37 GMT",
		"Sun, 06 Nov 1994 08:49 GMT",
		"Sun, 06 Nov 1994 08:49:37",
		"Sun, 06 Nov 1994 08:49:37 UTC",
		"Sun, 06 Nov 1994 08:49:37 gmt",
		"Sun, 06 Nov 1994 08:49:37 +0000",
		"sun, 06 Nov 1994 08:49:37 GMT",
		"SUN, 06 Nov 1994 08:49:37 GMT",
		"Sun, 06 nov 1994 08:49:37 GMT",
		"Sun, 06 NOV 1994 08:49:37 GMT",
		"Sun, 06 anF 1994 08:49:37 GMT",
		"Sun; 06 Nov 1994 08:49:37 GMT",
		"Sun, 06-Nov-1994 08:49:37 GMT",
		"Sun, 06 Nov 1994T08:49:37 GMT",
		"Sun, 06 Nov 1994 08.49.37 GMT",
		"Sun, 06 Nov 1994\t08:49:37 GMT",
		"Sun, +6 Nov 1994 08:49:37 GMT",
		"Sun, 06 Nov 1994 08:49:-0 GMT",
		" Sun, 06 Nov 1994 08:49:37 GMT",
		"Sun, 06 Nov 1994 08:49:37 GMT ",
		"Sun, 06 Nov 1994 08:49:37 GMT\r\n",
		"Sun, 06 Nov 1994 08:49:37 GMT\x00",
		"Fri, 31 Dec 09999 23:59:59 GMT",
		strings.Repeat("\x00", 29), strings.Repeat("\xff", 29), strings.Repeat("0", 29),
		strings.Repeat("Sun, 06 Nov 1994 08:49:37 GMT", 1000),
	)
}

func TestParseNoSuchTime(t *testing.T) {
	checkWrong(t,
		"Sun, 00 Nov 1994 08:49:37 GMT",
		"Thu, 31 Nov 1994 08:49:37 GMT",
		"Thu, 32 Dec 1994 08:49:37 GMT",
		"Sun, 06 Nov 1994 24:00:00 GMT",
		"Mon, 07 Nov 1994 24:00:00 GMT",
		"Sun, 06 Nov 1994 08:60:37 GMT",
		"Sun, 06 Nov 1994 08:49:60 GMT",
		"Sat, 31 Dec 2016 23:59:60 GMT",
		"Wed, 29 Feb 2023 00:00:00 GMT",
		"Mon, 29 Feb 2100 00:00:00 GMT",
		"Sun, 29 Feb 2100 00:00:00 GMT",
		"Wed, 31 Dec 1969 23:59:59 GMT",
		"Sat, 01 Jan 0000 00:00:00 GMT",
		"Fri, 31 Dec 9999 24:00:00 GMT",
		"Fri, 31 Dec 9999 23:59:60 GMT",
		"Sat, 01 Jan 10000 00:00:00 GMT",
	)
}

func TestParseOtherWeekday(t *testing.T) {
	for _, name := range []string{"Mon", "Tue", "Wed", "Thu", "Fri", "Sat", "Xyz", "   "} {
		checkWrong(t, name+", 06 Nov 1994 08:49:37 GMT")
	}
}

// byLibrary answers what Parse must answer, by other means than the program.
func byLibrary(s string) (int, api.Errno) {
	at, err := time.Parse(layout, s)
	n := int(at.Unix())
	if err != nil || at.Format(layout) != s || n < 0 || n > lastTime {
		return 0, api.ErrSyntax
	}
	return n, api.OK
}

func checkByLibrary(t *testing.T, s string) {
	t.Helper()
	want, wantErr := byLibrary(s)
	if n, e := date.Parse(s); n != want || e != wantErr {
		t.Errorf("Parse(%q): %d %d, not %d %d", s, n, e, want, wantErr)
	}
}

// bases are dates at the edges, so that what differs a little from them is wrong in some ways and right in others.
func bases() []string {
	return []string{
		"Thu, 01 Jan 1970 00:00:00 GMT",
		"Sun, 06 Nov 1994 08:49:37 GMT",
		"Tue, 29 Feb 2000 19:09:59 GMT",
		"Fri, 31 Dec 9999 23:59:59 GMT",
	}
}

func TestParseOneByteOtherwise(t *testing.T) {
	for _, s := range bases() {
		for i := range len(s) {
			for c := range 256 {
				one := string([]byte{byte(c)})
				checkByLibrary(t, s[:i]+one+s[i+1:])
				checkWrong(t, s[:i]+one+s[i:])
			}
			checkWrong(t, s[:i], s[:i]+s[i+1:])
		}
	}
}

func TestParseEachDayOfTheMonth(t *testing.T) {
	for _, year := range []int{0, 1969, 1970, 1972, 2000, 2023, 2100, 2400, 9999} {
		for month := range 12 {
			for day := range 100 {
				weekday := time.Date(year, time.Month(month+1), day, 0, 0, 0, 0, time.UTC).Format("Mon")
				name := time.Month(month + 1).String()[:3]
				checkByLibrary(t, fmt.Sprintf("%s, %02d %s %04d 12:00:00 GMT", weekday, day, name, year))
			}
		}
	}
}

func TestParseEachTimeOfDay(t *testing.T) {
	for i := range 100 {
		checkByLibrary(t, fmt.Sprintf("Sun, 06 Nov 1994 %02d:49:37 GMT", i))
		checkByLibrary(t, fmt.Sprintf("Sun, 06 Nov 1994 08:%02d:37 GMT", i))
		checkByLibrary(t, fmt.Sprintf("Sun, 06 Nov 1994 08:49:%02d GMT", i))
	}
}

// Bytes beside the digits make numbers that digits make, too: each of these would be second 784111777.
func TestParseNumbersOfOtherBytes(t *testing.T) {
	checkWrong(t,
		"Sun, 1, Nov 1994 08:49:37 GMT", // 10 and -4
		"Sun, 06 Nov 198> 08:49:37 GMT", // 1980 and 14
		"Sun, 06 Nov 0C94 08:49:37 GMT", // 1900 and 94
		"Sun, 06 Nov 1994 1.:49:37 GMT", // 10 and -2
		"Sun, 06 Nov 1994 08:3C:37 GMT", // 30 and 19
		"Sun, 06 Nov 1994 08:49:2A GMT", // 20 and 17
		"Sun, 06 Nov 1994 08:49:4- GMT", // 40 and -3
		"Sun, 06 Nov 1994 08:48:97 GMT", // a minute less, 60 seconds more
		"Sat, 05 Nov 1994 32:49:37 GMT", // a day less, 24 hours more
	)
}

// Of.

func TestOf(t *testing.T) {
	const text = "Sun, 06 Nov 1994 08:49:37 GMT"
	l := []api.Field{{Name: "Date", Value: text}, {Name: "A", Value: "x"}, {Name: "B", Value: text}, {Name: "b", Value: text}, {Name: "C"}}
	for _, name := range []string{"Date", "date", "DATE"} {
		if n, ok := date.Of(l, name); n != 784111777 || !ok {
			t.Errorf("%s: %d %v", name, n, ok)
		}
	}
	for _, name := range []string{"A", "B", "C", "D", "", text, strings.Repeat("x", 1<<16)} {
		if n, ok := date.Of(l, name); n != 0 || ok {
			t.Errorf("%.40s: %d %v", name, n, ok)
		}
	}
	if n, ok := date.Of(nil, "Date"); n != 0 || ok {
		t.Errorf("no fields: %d %v", n, ok)
	}
}
