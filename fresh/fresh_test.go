package fresh_test

import (
	"fmt"
	"math"
	"slices"
	"strconv"
	"strings"
	"testing"
	"time"

	"larder/api"
	"larder/fresh"
)

const (
	control  = "Cache-Control"
	expires  = "Expires"
	dated    = "Date"
	modified = "Last-Modified"
	aged     = "Age"
	lastTime = 253402300799
	most     = 1 << 31
)

// of makes a list of names and values in turn.
func of(texts ...string) []api.Field {
	var l []api.Field
	for i := 0; i+1 < len(texts); i += 2 {
		l = append(l, api.Field{Name: texts[i], Value: texts[i+1]})
	}
	return l
}

// at tells second n by other means than the program.
func at(n int) string { return time.Unix(int64(n), 0).UTC().Format("Mon, 02 Jan 2006 15:04:05 GMT") }

func long(n int) string { return strings.Repeat("x", n) }

// stored is a response with these fields that was asked for at 90 and came at 100.
func stored(texts ...string) api.Held {
	return api.Held{Response: api.Response{Code: 200, Fields: of(texts...)}, Asked: 90, Came: 100}
}

// times sets when the response was asked for and when it came.
func times(h api.Held, asked, came int) api.Held {
	h.Asked, h.Came = asked, came
	return h
}

func show(h api.Held) string {
	return fmt.Sprintf("%d %.300q %d %d", h.Response.Code, h.Response.Fields, h.Asked, h.Came)
}

func checkLife(t *testing.T, h api.Held, want int) {
	t.Helper()
	if n := fresh.Life(h); n != want {
		t.Errorf("Life(%s): %d, not %d", show(h), n, want)
	}
}

func checkAge(t *testing.T, h api.Held, now, want int) {
	t.Helper()
	if n := fresh.Age(h, now); n != want {
		t.Errorf("Age(%s, %d): %d, not %d", show(h), now, n, want)
	}
}

func checkUse(t *testing.T, l []api.Field, h api.Held, now, want int) {
	t.Helper()
	if n := fresh.Use(l, h, now); n != want {
		t.Errorf("Use(%.200q, %s, %d): %d, not %d", l, show(h), now, n, want)
	}
}

// texts that date.Parse can't read.
func wrongDates() []string {
	return []string{"", " ", "0", "-1", "x", "200", "Thu, 1 Jan 1970 00:02:00 GMT", "Fri, 01 Jan 1970 00:02:00 GMT", "Thursday, 01-Jan-70 00:02:00 GMT", "Thu Jan  1 00:02:00 1970",
		at(200) + " ", " " + at(200), at(200) + ", " + at(200), strings.ToLower(at(200)), "Wed, 31 Dec 1969 23:59:59 GMT", "Sat, 01 Jan 10000 00:00:00 GMT", "\x00", "\xff"}
}

// texts that control.Parse can't read, though they name directives.
func wrongControls() []string {
	return []string{"max-age=5, a b", "a b, s-maxage=5", `max-age=5, a="`, "max-age=5, =", "max-age =5", "max-age= 5", "max-age=5;a", "max-age=5 no-cache", "max-age=5, a=",
		strings.Repeat("a,", 20) + "max-age=5", "max-age=5" + strings.Repeat(",a", 20), "max-age=5," + long(991), "max-age=5" + strings.Repeat(" ", 992), "\x00", "max-age=5, \xff"}
}

// P30.

func TestLifeThatIsTold(t *testing.T) {
	for s, want := range map[string]int{
		"max-age=5":                           5,
		"s-maxage=7":                          7,
		"max-age=5, s-maxage=7":               7,
		"s-maxage=7, max-age=5":               7,
		"max-age=7, s-maxage=5":               5,
		"s-maxage=0, max-age=5":               0,
		"max-age=0":                           0,
		"Max-Age=5":                           5,
		"MAX-AGE=5, S-MAXAGE=7":               7,
		`max-age="5"`:                         5,
		`s-maxage="\7"`:                       7,
		"max-age=005":                         5,
		"max-age=5, max-age=7":                5,
		"max-age=7, max-age=5":                7,
		"s-maxage=7, s-maxage=9":              7,
		"public, max-age=5,, must-revalidate": 5,
		"no-cache, max-age=5":                 5,
		"no-store, private, max-age=5":        5,
		// What is there, but has no number, goes ahead of what is behind it, too.
		"max-age":                               0,
		"max-age=":                              -1,
		`max-age=""`:                            0,
		"max-age=x":                             0,
		"max-age=-5":                            0,
		`max-age=" 5"`:                          0,
		"max-age=5.0":                           0,
		"max-age, max-age=5":                    0,
		"s-maxage, max-age=5":                   0,
		"s-maxage=x, max-age=5":                 0,
		"max-age=2147483647":                    most - 1,
		"max-age=2147483648":                    most,
		"max-age=2147483649":                    most,
		"s-maxage=9223372036854775808":          most,
		"s-maxage=18446744073709551621":         most,
		"max-age=" + strings.Repeat("9", 992):   most,
		"max-age=" + strings.Repeat("9", 993):   -1,
		strings.Repeat("a,", 19) + "max-age=5":  5,
		strings.Repeat("a,", 19) + "s-maxage=5": 5,
		// Names that are others.
		"max-age2=5":      -1,
		"maxage=5":        -1,
		"max_age=5":       -1,
		"smaxage=5":       -1,
		"s-max-age=5":     -1,
		"public":          -1,
		"a=\"max-age=5\"": -1,
		"max-stale=5":     -1,
		"":                -1,
	} {
		checkLife(t, stored(control, s), max(want, 0))
		// Below 0: nothing is told, and what is behind it counts.
		if want < 0 {
			want = 30
		}
		checkLife(t, stored(control, s, expires, at(130)), want)
		checkLife(t, stored(expires, at(130), "cache-CONTROL", s), want)
		if want == 30 {
			want = 9
		}
		checkLife(t, stored(control, s, modified, at(1)), want)
	}
}

// TestLifeIsTheOneOfAllFields: several fields of the name are one list.
func TestLifeIsTheOneOfAllFields(t *testing.T) {
	checkLife(t, stored(control, "public", "Date", at(5), "cache-control", "max-age=5", "CACHE-CONTROL", "s-maxage=7"), 7)
	checkLife(t, stored(control, "max-age=5", control, "max-age=7"), 5)
	checkLife(t, stored(control, "max-age=5", control, "a b"), 0)
	checkLife(t, stored(control, `a="max-age=5`, control, `max-age=7"`), 0)
	checkLife(t, stored(control, "max-age=5", control, strings.Repeat("a,", 19)), 5)
	checkLife(t, stored(control, "max-age=5", control, strings.Repeat("a,", 20)), 0)
	checkLife(t, stored(control, "max-age=5", control, long(989)), 5)
	checkLife(t, stored(control, "max-age=5", control, long(990)), 0)
	checkLife(t, stored(expires, at(130), expires, at(130)), 0)
	checkLife(t, stored(expires, at(130), expires, ""), 0)
	checkLife(t, stored(dated, at(50), dated, at(50), expires, at(130)), 30)
	checkLife(t, stored(dated, at(50), modified, at(20), modified, at(20)), 0)
}

func TestControlThatCannotBeRead(t *testing.T) {
	for _, s := range wrongControls() {
		checkLife(t, stored(control, s), 0)
		checkLife(t, stored(control, s, expires, at(130)), 30)
		checkLife(t, stored(control, s, modified, at(0)), 10)
	}
}

func TestLifeUpToExpires(t *testing.T) {
	for _, c := range []struct {
		h    api.Held
		want int
	}{
		{stored(expires, at(130)), 30},
		{stored("EXPIRES", at(130), "public", "x"), 30},
		{stored(expires, at(101)), 1},
		{stored(expires, at(100)), 0},
		{stored(expires, at(99)), 0},
		{stored(expires, at(0)), 0},
		{stored(expires, at(130), dated, at(120)), 10},
		{stored("DATE", at(50), expires, at(130)), 80},
		{stored(expires, at(130), dated, at(130)), 0},
		{stored(expires, at(130), dated, at(131)), 0},
		{stored(expires, at(130), dated, at(lastTime)), 0},
		{stored(expires, at(lastTime)), most},
		{stored(expires, at(lastTime), dated, at(lastTime-5)), 5},
		{stored(expires, at(lastTime), dated, at(0)), most},
		{stored(expires, at(100+most-1)), most - 1},
		{stored(expires, at(100+most)), most},
		{stored(expires, at(100+most+1)), most},
		{stored(expires, at(130), modified, at(50)), 30},
		// When it was asked for says nothing of it.
		{times(stored(expires, at(130)), 125, 120), 10},
		{times(stored(expires, at(130), dated, at(7)), 125, 120), 123},
	} {
		checkLife(t, c.h, c.want)
		for _, code := range []int{0, 201, 302, 500, -1} {
			c.h.Response.Code = code
			checkLife(t, c.h, c.want)
		}
	}
}

func TestDatesThatCannotBeRead(t *testing.T) {
	for _, s := range wrongDates() {
		checkLife(t, stored(expires, s), 0)
		checkLife(t, times(stored(expires, s), 0, 0), 0)
		checkLife(t, stored(expires, s, modified, at(50), dated, at(90)), 0)
		checkLife(t, stored(expires, s, expires, at(130)), 0)
		checkLife(t, stored(expires, at(130), dated, s), 30)
		checkLife(t, stored(modified, at(50), dated, s), 5)
		checkLife(t, stored(modified, s), 0)
		checkLife(t, stored(modified, s, dated, at(lastTime)), 0)
		checkAge(t, stored(dated, s), 100, 10)
		checkAge(t, stored(dated, s, dated, at(0)), 100, 10)
	}
}

func TestLifeByLastModified(t *testing.T) {
	for _, c := range []struct {
		h    api.Held
		want int
	}{
		{stored(modified, at(0)), 10},
		{stored(modified, at(1)), 9},
		{stored(modified, at(9)), 9},
		{stored(modified, at(10)), 9},
		{stored(modified, at(11)), 8},
		{stored(modified, at(90)), 1},
		{stored(modified, at(91)), 0},
		{stored(modified, at(100)), 0},
		{stored(modified, at(101)), 0},
		{stored(modified, at(111)), 0},
		{stored(modified, at(lastTime)), 0},
		{stored("last-modified", at(0), dated, at(200)), 20},
		{stored(modified, at(150), dated, at(200)), 5},
		{stored(modified, at(99), dated, at(98)), 0},
		{stored(modified, at(0), dated, at(10*most-1)), most - 1},
		{stored(modified, at(0), dated, at(10*most)), most},
		{stored(modified, at(0), dated, at(10*most+10)), most},
		{stored(modified, at(0), dated, at(most*2)), 429496729},
		{stored(modified, at(0), dated, at(lastTime)), most},
		{stored(control, "public", modified, at(0)), 10},
		{stored(control, "max-age=5", modified, at(0)), 5},
		{times(stored(modified, at(0)), 500, 300), 30},
	} {
		checkLife(t, c.h, c.want)
	}
}

func TestLifeByCode(t *testing.T) {
	lasting := []int{200, 203, 204, 300, 301, 308, 404, 405, 410, 414, 501}
	for _, code := range append(far(), slices.Collect(func(yield func(int) bool) {
		for n := range 1200 {
			if !yield(n - 100) {
				return
			}
		}
	})...) {
		h := stored(modified, at(0))
		h.Response.Code = code
		want := 0
		if slices.Contains(lasting, code) {
			want = 10
		}
		checkLife(t, h, want)
		h.Response.Fields = of(modified, at(0), control, "max-age=5")
		checkLife(t, h, 5)
	}
}

func TestNoLife(t *testing.T) {
	checkLife(t, api.Held{}, 0)
	checkLife(t, stored(), 0)
	checkLife(t, stored(dated, at(50)), 0)
	checkLife(t, stored(dated, at(50), aged, "5", "ETag", `"a"`), 0)
	checkLife(t, stored("Pragma", "max-age=5", "X-Expires", at(130), "Expires2", at(130)), 0)
}

// far are numbers that are no times, and at which a sum would wrap round.
func far() []int {
	return []int{math.MinInt, math.MinInt + 1, math.MinInt + 100, math.MinInt32, math.MaxInt - 100, math.MaxInt - 1, math.MaxInt}
}

// near is the time for which n stands.
func near(n int) int { return min(max(0, n), lastTime) }

func TestLifeOfTimesThatAreNone(t *testing.T) {
	for _, n := range append(far(), -1, -100, -most, 0, lastTime, lastTime+1, lastTime+most) {
		h := times(stored(expires, at(130)), n, n)
		checkLife(t, h, max(0, 130-near(n)))
		h = times(stored(expires, at(lastTime)), n, n)
		checkLife(t, h, min(lastTime-near(n), most))
		h = times(stored(modified, at(0)), n, n)
		checkLife(t, h, min(near(n)/10, most))
		h = times(stored(modified, at(lastTime)), n, n)
		checkLife(t, h, 0)
		// With a Date it does not matter when the response came.
		h = times(stored(expires, at(130), dated, at(120)), n, n)
		checkLife(t, h, 10)
	}
}

// P31.

func TestAge(t *testing.T) {
	for _, c := range []struct {
		h         api.Held
		now, want int
	}{
		{stored(), 100, 10},
		{stored(), 101, 11},
		{stored(), 150, 60},
		{stored(), 99, 10},
		{stored(), 0, 10},
		{stored(aged, "0"), 100, 10},
		{stored(aged, "3"), 100, 13},
		{stored("AGE", "3"), 130, 43},
		{stored(aged, "3"), 20, 13},
		{stored(dated, at(100)), 100, 10},
		{stored(dated, at(91)), 100, 10},
		{stored(dated, at(90)), 100, 10},
		{stored(dated, at(89)), 100, 11},
		{stored(dated, at(50)), 100, 50},
		{stored(dated, at(50)), 130, 80},
		{stored(dated, at(50)), 30, 50},
		{stored(dated, at(0)), 100, 100},
		{stored(dated, at(101)), 100, 10},
		{stored(dated, at(lastTime)), 100, 10},
		{stored(dated, at(50), aged, "39"), 100, 50},
		{stored(dated, at(50), aged, "40"), 100, 50},
		{stored(dated, at(50), aged, "41"), 100, 51},
		{stored(dated, at(50), aged, "41"), 107, 58},
		{times(stored(), 100, 100), 100, 0},
		{times(stored(), 100, 100), 105, 5},
		{times(stored(), 110, 100), 100, 0},
		{times(stored(aged, "3"), 110, 100), 100, 3},
		{times(stored(aged, "3"), 110, 100), 112, 15},
		{times(stored(dated, at(95)), 110, 100), 112, 17},
		{times(stored(), 0, 100), 100, 100},
	} {
		checkAge(t, c.h, c.now, c.want)
	}
}

func TestAgeThatTheFieldTells(t *testing.T) {
	for s, want := range map[string]int{
		"0": 0, "5": 5, "007": 7, "": 0, " ": 0, "x": 0, "-5": 0, "+5": 0, " 5": 0, "5 ": 0, "5.0": 0, "5s": 0, "5, 6": 0, "5,": 0, "1e3": 0, "0x5": 0, `"5"`: 0, "age=5": 0, "\xff": 0, "\u0665": 0, "99999999999x": 0,
		"2147483637":                   most - 11,
		strings.Repeat("0", 999) + "5": 5,
		"2147483646":                   most - 2,
	} {
		checkAge(t, times(stored(aged, s), 100, 100), 100, want)
		checkAge(t, times(stored(aged, s), 100, 100), 101, want+1)
	}
	checkAge(t, stored(aged, "5", aged, "5"), 100, 10)
	checkAge(t, stored(aged, "5", aged, ""), 100, 10)
	checkAge(t, stored("Ages", "5", "X-Age", "5", control, "age=5"), 100, 10)
	checkAge(t, stored(aged, "5"), 100, 15)
}

func TestAgeIsNotAboveMaxDelta(t *testing.T) {
	for _, s := range []string{"2147483647", "2147483648", "2147483649", "4294967296", "18446744073709551615", "18446744073709551621", strings.Repeat("9", 1<<16)} {
		checkAge(t, stored(aged, s), 100, most)
		checkAge(t, stored(aged, s), lastTime, most)
		want := most
		if s == "2147483647" {
			want--
		}
		checkAge(t, times(stored(aged, s), 100, 100), 100, want)
	}
	checkAge(t, stored(), 90+most-1, most-1)
	checkAge(t, stored(), 90+most, most)
	checkAge(t, stored(), 90+most+1, most)
	checkAge(t, stored(), lastTime, most)
	checkAge(t, times(stored(), 0, most-1), 0, most-1)
	checkAge(t, times(stored(), 0, most), 0, most)
	checkAge(t, times(stored(), 0, most+1), 0, most)
	checkAge(t, times(stored(dated, at(0)), most-5, most-1), 0, most-1)
	checkAge(t, times(stored(dated, at(0)), most+5, most+1), 0, most)
	checkAge(t, times(stored(dated, at(0)), lastTime, lastTime), lastTime, most)
}

// TestAgeOfManyTimes holds Age against what the words of the promise add up to.
func TestAgeOfManyTimes(t *testing.T) {
	moments := append(far(), -most, -1, 0, 1, 50, 51, 99, 100, 101, most, most+1, lastTime-1, lastTime, lastTime+1)
	for _, date := range []int{-1, 0, 50, 100, most, lastTime} {
		for _, age := range []int{0, 7, 49, most} {
			fields := of(aged, strconv.Itoa(age))
			if date >= 0 {
				fields = append(fields, of(dated, at(date))...)
			}
			for _, asked := range moments {
				for _, came := range moments {
					for _, now := range moments {
						made := date
						if date < 0 {
							made = near(came)
						}
						apparent := max(0, near(came)-made)
						corrected := age + max(0, near(came)-near(asked))
						want := max(apparent, corrected) + max(0, near(now)-near(came))
						h := api.Held{Response: api.Response{Fields: fields}, Asked: asked, Came: came}
						checkAge(t, h, now, min(want, most))
					}
				}
			}
		}
	}
}

// P32.

// asking is what a request says.
func asking(s string) []api.Field { return of("Accept", "x", "cache-control", s) }

// kept is a response that came at 100 when it was just made.
func kept(s string) api.Held { return times(stored(control, s), 100, 100) }

type useCase struct {
	asked, said string
	now, want   int
}

func checkUses(t *testing.T, cases []useCase) {
	t.Helper()
	for _, c := range cases {
		checkUse(t, asking(c.asked), kept(c.said), c.now, c.want)
	}
}

func TestUseOfTheFreshAndTheStale(t *testing.T) {
	checkUses(t, []useCase{
		{"", "max-age=20", 100, api.Serve},
		{"", "max-age=20", 119, api.Serve},
		{"", "max-age=20", 120, api.Validate},
		{"", "max-age=20", 121, api.Validate},
		{"", "max-age=0", 100, api.Validate},
		{"", "", 100, api.Validate},
		{"", "s-maxage=20", 119, api.Serve},
		{"", "s-maxage=20, max-age=10", 119, api.Serve},
		{"", "s-maxage=10, max-age=20", 119, api.Validate},
		{"", "max-age=20, must-revalidate", 119, api.Serve},
		{"", "max-age=20, proxy-revalidate", 119, api.Serve},
		{"", "max-age=99999999999", 100 + most - 1, api.Serve},
		{"", "max-age=99999999999", 100 + most, api.Validate},
		{"", "max-age=20", 0, api.Serve},
		{"", "max-age=20", math.MinInt, api.Serve},
		{"", "max-age=20", math.MaxInt, api.Validate},
	})
	checkUse(t, nil, kept("max-age=20"), 119, api.Serve)
	checkUse(t, nil, kept("max-age=20"), 120, api.Validate)
	checkUse(t, nil, api.Held{}, 0, api.Validate)
	checkUse(t, nil, stored(expires, at(130)), 119, api.Serve)
	checkUse(t, nil, stored(expires, at(130)), 120, api.Validate)
	checkUse(t, nil, stored(modified, at(0), dated, at(200)), 109, api.Serve)
	checkUse(t, nil, stored(modified, at(0), dated, at(200)), 110, api.Validate)
	checkUse(t, nil, stored(control, "max-age=20", aged, "5"), 104, api.Serve)
	checkUse(t, nil, stored(control, "max-age=20", aged, "5"), 105, api.Validate)
}

func TestNoCache(t *testing.T) {
	for _, s := range []string{"no-cache", "No-Cache", "a, NO-CACHE", `no-cache="a"`, "no-cache=a", "max-stale, no-cache", "max-age=999, min-fresh=0, max-stale=999, no-cache"} {
		checkUses(t, []useCase{
			{s, "max-age=20", 100, api.Validate},
			{"", "max-age=20, " + s, 100, api.Validate},
			{s, "max-age=20, " + s, 100, api.Validate},
			{"max-stale", "max-age=20, " + s, 130, api.Validate},
			{"only-if-cached, " + s, "max-age=20", 100, api.Refuse},
			{"only-if-cached", "max-age=20, " + s, 100, api.Refuse},
		})
	}
	for _, s := range []string{"nocache", "no-cache2", "no_cache", `a="no-cache"`, "no-store", "private", "no-transform"} {
		checkUses(t, []useCase{
			{s, "max-age=20", 100, api.Serve},
			{"", "max-age=20, " + s, 100, api.Serve},
		})
	}
}

func TestMaxAge(t *testing.T) {
	checkUses(t, []useCase{
		{"max-age=10", "max-age=20", 110, api.Serve},
		{"max-age=10", "max-age=20", 111, api.Validate},
		{"max-age=0", "max-age=20", 100, api.Serve},
		{"max-age=0", "max-age=20", 101, api.Validate},
		{"max-age=30", "max-age=20", 119, api.Serve},
		{"max-age=30", "max-age=20", 120, api.Validate},
		{"max-age=10, max-age=30", "max-age=20", 111, api.Validate},
		{"max-age=30, max-age=10", "max-age=20", 111, api.Serve},
		{"max-age", "max-age=20", 100, api.Serve},
		{"max-age", "max-age=20", 101, api.Validate},
		{"max-age=x", "max-age=20", 101, api.Validate},
		{"MAX-AGE=10", "max-age=20", 111, api.Validate},
		{"s-maxage=10", "max-age=20", 111, api.Serve},
		{"max-age=10, max-stale", "max-age=20", 111, api.Validate},
		{"max-age=30, max-stale", "max-age=20", 130, api.Serve},
		{"max-age=30, max-stale", "max-age=20", 131, api.Validate},
		{"max-age=10, only-if-cached", "max-age=20", 110, api.Serve},
		{"max-age=10, only-if-cached", "max-age=20", 111, api.Refuse},
	})
	checkUse(t, asking("max-age=10"), stored(control, "max-age=90", dated, at(50)), 100, api.Validate)
	checkUse(t, asking("max-age=50"), stored(control, "max-age=90", dated, at(50)), 100, api.Serve)
}

func TestMinFresh(t *testing.T) {
	checkUses(t, []useCase{
		{"min-fresh=5", "max-age=20", 115, api.Serve},
		{"min-fresh=5", "max-age=20", 116, api.Validate},
		{"min-fresh=20", "max-age=20", 100, api.Serve},
		{"min-fresh=20", "max-age=20", 101, api.Validate},
		{"min-fresh=21", "max-age=20", 100, api.Validate},
		{"min-fresh=0", "max-age=20", 119, api.Serve},
		{"min-fresh=0", "max-age=20", 120, api.Validate},
		{"min-fresh", "max-age=20", 119, api.Serve},
		{"min-fresh=x", "max-age=20", 119, api.Serve},
		{"min-fresh=5, min-fresh=9", "max-age=20", 115, api.Serve},
		{"min-fresh=9, min-fresh=5", "max-age=20", 115, api.Validate},
		{"Min-Fresh=5", "max-age=20", 116, api.Validate},
		{"min-fresh=5, only-if-cached", "max-age=20", 116, api.Refuse},
		{"min-fresh=5, max-stale", "max-age=20", 116, api.Validate},
		{"min-fresh=5, max-stale", "max-age=20", 130, api.Validate},
		// What is as old as it may be has 0 seconds left, what is older has fewer.
		{"min-fresh=0, max-stale", "max-age=20", 120, api.Serve},
		{"min-fresh=0, max-stale", "max-age=20", 121, api.Validate},
		{"min-fresh, max-stale", "max-age=20", 121, api.Validate},
		{"min-fresh=2147483648", "max-age=2147483648", 100, api.Serve},
		{"min-fresh=2147483648", "max-age=2147483648", 101, api.Validate},
		{"min-fresh=99999999999", "max-age=2147483648", 100, api.Serve},
	})
	checkUse(t, nil, kept("max-age=20, min-fresh=30"), 110, api.Serve)
}

func TestMaxStale(t *testing.T) {
	checkUses(t, []useCase{
		{"max-stale", "max-age=20", 119, api.Serve},
		{"max-stale", "max-age=20", 120, api.Serve},
		{"max-stale", "max-age=20", lastTime, api.Serve},
		{"Max-Stale", "", 100, api.Serve},
		{"max-stale=5", "max-age=20", 119, api.Serve},
		{"max-stale=5", "max-age=20", 120, api.Serve},
		{"max-stale=5", "max-age=20", 125, api.Serve},
		{"max-stale=5", "max-age=20", 126, api.Validate},
		{"max-stale=0", "max-age=20", 120, api.Serve},
		{"max-stale=0", "max-age=20", 121, api.Validate},
		{`max-stale=""`, "max-age=20", 120, api.Serve},
		{`max-stale=""`, "max-age=20", 121, api.Validate},
		{"max-stale=x", "max-age=20", 120, api.Serve},
		{"max-stale=x", "max-age=20", 121, api.Validate},
		{`max-stale="5"`, "max-age=20", 125, api.Serve},
		{`max-stale="5"`, "max-age=20", 126, api.Validate},
		{"max-stale=2147483648", "max-age=0", lastTime, api.Serve},
		{"max-stale=2147483647", "max-age=0", lastTime, api.Validate},
		// The first one of that name.
		{"max-stale, max-stale=5", "max-age=20", 126, api.Serve},
		{"max-stale=5, max-stale", "max-age=20", 126, api.Validate},
		{"max-stale=5, max-stale=9", "max-age=20", 126, api.Validate},
		{"max-stale=9, max-stale=5", "max-age=20", 126, api.Serve},
		{"a, b=2, max-stale=5", "max-age=20", 125, api.Serve},
		{"max-stale=5, only-if-cached", "max-age=20", 125, api.Serve},
		{"max-stale=5, only-if-cached", "max-age=20", 126, api.Refuse},
		{"stale", "max-age=20", 120, api.Validate},
		{"", "max-age=20, max-stale", 120, api.Validate},
		{"max-stale", "", 200, api.Serve},
	})
}

func TestBound(t *testing.T) {
	for _, s := range []string{"must-revalidate", "proxy-revalidate", "Must-Revalidate", "PROXY-REVALIDATE, a", "must-revalidate=5", "s-maxage=20", "s-maxage=20, public"} {
		checkUses(t, []useCase{
			{"", s + ", max-age=20", 119, api.Serve},
			{"max-stale", s + ", max-age=20", 119, api.Serve},
			{"max-stale", s + ", max-age=20", 120, api.Validate},
			{"max-stale=5", s + ", max-age=20", 121, api.Validate},
			{"max-stale, only-if-cached", s + ", max-age=20", 121, api.Refuse},
		})
	}
	// What the request has of these binds nobody.
	for _, s := range []string{"must-revalidate", "proxy-revalidate", "s-maxage=5"} {
		checkUses(t, []useCase{{"max-stale, " + s, "max-age=20", 120, api.Serve}})
	}
	for _, s := range []string{"public", "private", "no-store", "immutable", "must-revalidate2", "revalidate", "smaxage=20"} {
		checkUses(t, []useCase{{"max-stale", s + ", max-age=20", 120, api.Serve}})
	}
}

func TestOnlyIfCached(t *testing.T) {
	checkUses(t, []useCase{
		{"only-if-cached", "max-age=20", 119, api.Serve},
		{"only-if-cached", "max-age=20", 120, api.Refuse},
		{"Only-If-Cached=5", "max-age=20", 120, api.Refuse},
		{"only-if-cached", "", 100, api.Refuse},
		{"", "max-age=20, only-if-cached", 120, api.Validate},
		{"if-cached", "max-age=20", 120, api.Validate},
	})
	checkUse(t, asking("only-if-cached"), api.Held{}, 0, api.Refuse)
}

// TestRequestsThatCannotBeRead: they are as those that say nothing.
func TestRequestsThatCannotBeRead(t *testing.T) {
	for _, s := range append(wrongControls(), "no-cache, a b", "max-age=0, =", `only-if-cached, "`, "max-stale, a=") {
		checkUse(t, asking(s), kept("max-age=20"), 119, api.Serve)
		checkUse(t, asking(s), kept("max-age=20"), 120, api.Validate)
		checkUse(t, asking("no-cache"), kept(s), 100, api.Validate)
		checkUse(t, nil, stored(control, s+", no-cache", expires, at(130), dated, at(100)), 101, api.Serve)
	}
	// Several fields are one list.
	checkUse(t, of(control, "max-stale", "CACHE-CONTROL", "only-if-cached"), kept("max-age=20"), 120, api.Serve)
	checkUse(t, of(control, "max-stale", "CACHE-CONTROL", "no-cache"), kept("max-age=20"), 120, api.Validate)
	checkUse(t, of(control, "no-cache", "CACHE-CONTROL", "a b"), kept("max-age=20"), 119, api.Serve)
	checkUse(t, of("Pragma", "no-cache", "Control", "no-cache"), kept("max-age=20"), 119, api.Serve)
}

// TestOnlyTheResponseIsAsked: what else is held with it says nothing of its freshness.
func TestOnlyTheResponseIsAsked(t *testing.T) {
	h := kept("max-age=20")
	h.Request = api.Request{Method: "PUT", Target: "/a", Fields: of(control, "no-cache, s-maxage=5", dated, at(0), aged, "50"), Body: "max-age=0"}
	h.Response.Reason, h.Response.Body, h.Mark = "no-cache", control+": no-cache", -1
	checkLife(t, h, 20)
	checkAge(t, h, 119, 19)
	checkUse(t, nil, h, 119, api.Serve)
	checkUse(t, of(dated, at(0), aged, "50", expires, at(0)), h, 119, api.Serve)
}

// limit is a directive with a number, or without one, or none.
type limit struct {
	text  string
	there bool
	n     int
}

// add answers the text with the directive behind it.
func add(s, directive string) string {
	if directive == "" {
		return s
	}
	return s + "," + directive
}

// told is what requests and responses of TestManyUses say.
type told struct {
	asked                   []string
	maxAge, minFresh, stale limit
	said                    []string
	now                     int
}

// want is what the words of the promise say of a response that is fresh for 20 seconds from 100 on.
func (c told) want() int {
	age := c.now - 100
	rest := 20 - age
	serve := !slices.Contains(c.asked, "no-cache") && !slices.Contains(c.said, "no-cache")
	serve = serve && (!c.maxAge.there || age <= c.maxAge.n)
	serve = serve && (!c.minFresh.there || rest >= c.minFresh.n)
	bound := slices.Contains(c.said, "must-revalidate") || slices.Contains(c.said, "proxy-revalidate") || slices.Contains(c.said, "s-maxage=20")
	serve = serve && (rest > 0 || !bound && c.stale.there && (c.stale.text == "max-stale" || -rest <= c.stale.n))
	switch {
	case serve:
		return api.Serve
	case slices.Contains(c.asked, "only-if-cached"):
		return api.Refuse
	}
	return api.Validate
}

func TestManyUses(t *testing.T) {
	maxAges := []limit{{}, {"max-age=0", true, 0}, {"max-age=15", true, 15}, {"max-age=22", true, 22}}
	minFreshes := []limit{{}, {"min-fresh=0", true, 0}, {"min-fresh=5", true, 5}}
	stales := []limit{{}, {"max-stale", true, 0}, {"max-stale=0", true, 0}, {"max-stale=3", true, 3}}
	askeds := [][]string{{}, {"no-cache"}, {"only-if-cached"}, {"only-if-cached", "no-cache"}}
	saids := [][]string{{"max-age=20"}, {"s-maxage=20"}, {"max-age=20", "no-cache"}, {"max-age=20", "must-revalidate"}, {"proxy-revalidate", "max-age=20"}, {"max-age=5", "s-maxage=20"}}
	for _, asked := range askeds {
		for _, maxAge := range maxAges {
			for _, minFresh := range minFreshes {
				for _, stale := range stales {
					s := add(add(add(strings.Join(asked, ","), maxAge.text), minFresh.text), stale.text)
					for _, said := range saids {
						for _, age := range []int{0, 1, 14, 15, 16, 19, 20, 21, 22, 23, 24, 99} {
							c := told{asked, maxAge, minFresh, stale, said, 100 + age}
							checkUse(t, asking(s), kept(strings.Join(said, ",")), c.now, c.want())
						}
					}
				}
			}
		}
	}
}
