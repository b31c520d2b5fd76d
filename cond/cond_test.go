package cond_test

import (
	"fmt"
	"slices"
	"strings"
	"testing"
	"time"

	"larder/api"
	"larder/cond"
)

const (
	match      = "If-Match"
	noneMatch  = "If-None-Match"
	modified   = "If-Modified-Since"
	unmodified = "If-Unmodified-Since"
	lastTime   = 253402300799
)

// of makes a list of names and values in turn.
func of(texts ...string) []api.Field {
	var l []api.Field
	for i := 0; i+1 < len(texts); i += 2 {
		l = append(l, api.Field{Name: texts[i], Value: texts[i+1]})
	}
	return l
}

// at tells second n by other means than the program.
func at(n int) string { return time.Unix(int64(n), 0).UTC().Format("Mon, 02 Jan 2006 15:04:05 GMT") }

func long(n int) string { return strings.Repeat("x", n) }

// sample is what Eval is handed.
type sample struct {
	method   string
	l        []api.Field
	there    bool
	tag      string
	modified int
}

func ask(s sample) int { return cond.Eval(s.method, s.l, s.there, s.tag, s.modified) }

// show answers the call of Eval for what a test says.
func (s sample) show() string {
	return fmt.Sprintf("Eval(%.20q, %.60q, %v, %.40q, %d)", s.method, s.l, s.there, s.tag, s.modified)
}

func check(t *testing.T, s sample, want int) {
	t.Helper()
	if n := ask(s); n != want {
		t.Errorf("%.600s: %d, not %d", s.show(), n, want)
	}
}

func methods() []string {
	return []string{"GET", "HEAD", "PUT", "POST", "DELETE", "OPTIONS", "get", "Head", "GETS", " GET", ""}
}

func isRead(method string) bool { return method == "GET" || method == "HEAD" }

// known is what one who has it already is answered.
func known(method string) int {
	if isRead(method) {
		return 304
	}
	return 412
}

// texts that etag.List can't read.
func wrongLists() []string {
	return []string{"", " ", ",", "a", "x", "* ", " *", "*,", `*, "a"`, `"a", *`, "**", `w/"a"`, `"a" "a"`, `"a", b`, `"a`, `"a b"`, `"a", "` + long(101) + `"`,
		strings.Repeat(`"a",`, 21), `"a"` + strings.Repeat(" ", 998), "\x00", "\xff"}
}

// texts that date.Parse can't read.
func wrongDates() []string {
	return []string{"", " ", "5", "x", "Thu, 1 Jan 1970 00:00:05 GMT", "Fri, 01 Jan 1970 00:00:05 GMT", "Thursday, 01-Jan-70 00:00:05 GMT", "Thu Jan  1 00:00:05 1970",
		at(5) + " ", " " + at(5), at(5) + ", " + at(5), "Wed, 31 Dec 1969 23:59:59 GMT", "Sat, 01 Jan 10000 00:00:00 GMT", "\x00", "\xff"}
}

// P23: nothing is asked.

func TestWithoutConditions(t *testing.T) {
	for _, method := range methods() {
		for _, there := range []bool{false, true} {
			for _, tag := range []string{"", `"a"`, `W/"a"`, "a", "*"} {
				for _, n := range []int{-1, 0, 5} {
					check(t, sample{method, nil, there, tag, n}, 0)
					check(t, sample{method, []api.Field{}, there, tag, n}, 0)
					check(t, sample{method, of("If-Range", `"b"`, "Range", "bytes=0-", "ETag", `"b"`, "Last-Modified", at(9), "Date", at(1), "Match", "*", "If-Matches", `"b"`, "", "*"), there, tag, n}, 0)
				}
			}
		}
	}
}

// P23, 1: If-Match.

type tagCase struct {
	list, tag string
	is        bool
}

func TestMatch(t *testing.T) {
	for _, c := range []tagCase{
		{"*", `"a"`, true},
		{"*", `W/"a"`, true},
		{"*", "", true},
		{"*", "x", true},
		{`"a"`, `"a"`, true},
		{`"b","a"`, `"a"`, true},
		{`"a","b"`, `"a"`, true},
		{`"b", "c" ,, "a",`, `"a"`, true},
		{`W/"a", "a"`, `"a"`, true},
		{`""`, `""`, true},
		{`"*"`, `"*"`, true},
		{`"b,c"`, `"b,c"`, true},
		{`"` + long(100) + `"`, `"` + long(100) + `"`, true},
		{strings.Repeat(`"b",`, 19) + `"a"`, `"a"`, true},
		{`"b"`, `"a"`, false},
		{`"A"`, `"a"`, false},
		{`"b", "c"`, `"a"`, false},
		{`"*"`, `"a"`, false},
		{`"b,c"`, `"b"`, false},
		{`"b,c"`, `"c"`, false},
		// A weak one is the same as none.
		{`W/"a"`, `"a"`, false},
		{`"a"`, `W/"a"`, false},
		{`W/"a"`, `W/"a"`, false},
		{`W/"a", "b"`, `"a"`, false},
		// There is no tag.
		{`"a"`, "", false},
		{`""`, "", false},
		{`"a"`, "a", false},
		{`""`, "x", false},
		{`"a"`, ` "a"`, false},
		{`"a"`, `"a" `, false},
		{`"a"`, `"a","b"`, false},
		{`"*"`, "*", false},
		{`""`, `"` + long(101) + `"`, false},
		{`W/""`, "", false},
	} {
		want := 412
		if c.is {
			want = 0
		}
		for _, method := range methods() {
			for _, n := range []int{-1, 0, 5} {
				check(t, sample{method, of(match, c.list), true, c.tag, n}, want)
				check(t, sample{method, of(match, c.list), false, c.tag, n}, 412)
			}
		}
	}
}

// P23, 3: If-None-Match.

func TestNoneMatch(t *testing.T) {
	for _, c := range []tagCase{
		{"*", `"a"`, true},
		{"*", `W/"a"`, true},
		{"*", "", true},
		{"*", "x", true},
		{`"a"`, `"a"`, true},
		{`W/"a"`, `"a"`, true},
		{`"a"`, `W/"a"`, true},
		{`W/"a"`, `W/"a"`, true},
		{`"b","a"`, `"a"`, true},
		{`W/"a","b"`, `"a"`, true},
		{`"b", "c" ,, W/"a",`, `"a"`, true},
		{`""`, `""`, true},
		{`W/""`, `""`, true},
		{`"*"`, `"*"`, true},
		{`"b,c"`, `W/"b,c"`, true},
		{strings.Repeat(`"b",`, 19) + `"a"`, `"a"`, true},
		{`"b"`, `"a"`, false},
		{`"A"`, `"a"`, false},
		{`W/"b", "c"`, `"a"`, false},
		{`"W/"`, `W/"a"`, false},
		{`"*"`, `"a"`, false},
		{`"b,c"`, `"b"`, false},
		// There is no tag.
		{`"a"`, "", false},
		{`""`, "", false},
		{`W/""`, "", false},
		{`"a"`, "a", false},
		{`""`, "x", false},
		{`"a"`, ` "a"`, false},
		{`"a"`, `w/"a"`, false},
		{`"*"`, "*", false},
		{`""`, `"` + long(101) + `"`, false},
	} {
		for _, method := range methods() {
			want := 0
			if c.is {
				want = known(method)
			}
			for _, n := range []int{-1, 0, 5} {
				check(t, sample{method, of(noneMatch, c.list), true, c.tag, n}, want)
				check(t, sample{method, of(noneMatch, c.list), false, c.tag, n}, 0)
			}
		}
	}
}

// P23, 2 and 4: If-Unmodified-Since and If-Modified-Since.

func TestSince(t *testing.T) {
	times := []int{0, 1, 4, 5, 6, 59, 60, 784111777, 1<<31 - 1, 1 << 31, lastTime - 1, lastTime}
	for _, since := range times {
		for _, n := range append(times, lastTime+1, 1<<62, -1, -2, -since, -1<<63) {
			nobodyKnows := n < 0
			for _, method := range methods() {
				late, early := 0, 0
				if n > since && !nobodyKnows {
					late = 412
				}
				if n <= since && !nobodyKnows && isRead(method) {
					early = 304
				}
				check(t, sample{method, of(unmodified, at(since)), true, `"a"`, n}, late)
				check(t, sample{method, of(modified, at(since)), true, "", n}, early)
				check(t, sample{method, of(unmodified, at(since)), false, `"a"`, n}, 0)
				check(t, sample{method, of(modified, at(since)), false, "", n}, 0)
			}
		}
	}
}

// P23: what can't be read is as if it weren't there.

func TestWrongLists(t *testing.T) {
	for _, wrong := range wrongLists() {
		for _, method := range methods() {
			for _, there := range []bool{false, true} {
				for _, tag := range []string{"", `"a"`, "x"} {
					check(t, sample{method, of(match, wrong), there, tag, 5}, 0)
					check(t, sample{method, of(noneMatch, wrong), there, tag, 5}, 0)
				}
			}
			// The times are asked then.
			check(t, sample{method, of(match, wrong, unmodified, at(4)), true, `"a"`, 5}, 412)
			check(t, sample{method, of(match, wrong, unmodified, at(5)), true, `"a"`, 5}, 0)
			want := 0
			if isRead(method) {
				want = 304
			}
			check(t, sample{method, of(noneMatch, wrong, modified, at(5)), true, `"a"`, 5}, want)
			check(t, sample{method, of(noneMatch, wrong, modified, at(4)), true, `"a"`, 5}, 0)
		}
	}
}

func TestWrongDates(t *testing.T) {
	for _, wrong := range wrongDates() {
		for _, method := range methods() {
			for _, n := range []int{-1, 0, 5, lastTime, lastTime + 1} {
				check(t, sample{method, of(unmodified, wrong), true, `"a"`, n}, 0)
				check(t, sample{method, of(modified, wrong), true, `"a"`, n}, 0)
				check(t, sample{method, of(modified, wrong, unmodified, wrong), true, `"a"`, n}, 0)
				check(t, sample{method, of(noneMatch, `"a"`, unmodified, wrong), true, `"a"`, n}, known(method))
			}
		}
	}
}

// P23: fields as field.Get finds them.

func TestFieldsAsGetFindsThem(t *testing.T) {
	for _, name := range []string{"if-match", "IF-MATCH", "iF-mAtCh"} {
		check(t, sample{"PUT", of("a", "b", name, `"b"`), true, `"a"`, 5}, 412)
	}
	check(t, sample{"GET", of("IF-none-MATCH", `"a"`), true, `"a"`, 5}, 304)
	check(t, sample{"GET", of("if-modified-since", at(5)), true, `"a"`, 5}, 304)
	check(t, sample{"GET", of("IF-UNMODIFIED-SINCE", at(4)), true, `"a"`, 5}, 412)
	// Several of a name are one list.
	check(t, sample{"PUT", of(match, `"b"`, "a", "b", "if-match", `"a"`), true, `"a"`, 5}, 0)
	check(t, sample{"PUT", of(match, `"a"`, "if-match", `"b"`), true, `"a"`, 5}, 0)
	check(t, sample{"PUT", of(match, `"b"`, match, `"c"`), true, `"a"`, 5}, 412)
	check(t, sample{"GET", of(noneMatch, `"b"`, "if-none-match", `W/"a"`), true, `"a"`, 5}, 304)
	check(t, sample{"PUT", of(match, "", match, `"b"`), true, `"a"`, 5}, 412)
	// Together they can't be read, though each can.
	check(t, sample{"PUT", of(match, "*", match, "*"), false, `"a"`, 5}, 0)
	check(t, sample{"GET", of(noneMatch, "*", noneMatch, `"a"`), true, `"a"`, 5}, 0)
	check(t, sample{"PUT", of(match, `"b"`, match, "x"), true, `"a"`, 5}, 0)
	check(t, sample{"PUT", slices.Repeat(of(match, `"b"`), 20), true, `"a"`, 5}, 412)
	check(t, sample{"PUT", slices.Repeat(of(match, `"b"`), 21), true, `"a"`, 5}, 0)
	check(t, sample{"GET", of(modified, at(5), modified, at(5)), true, `"a"`, 5}, 0)
	check(t, sample{"GET", of(unmodified, at(4), unmodified, at(4)), true, `"a"`, 5}, 0)
	// A list may have 1000 bytes.
	full := strings.Repeat(" ", 997) + `"b"`
	check(t, sample{"PUT", of(match, full), true, `"a"`, 5}, 412)
	check(t, sample{"PUT", of(match, full+" "), true, `"a"`, 5}, 0)
}

// P23: which goes ahead of which.

func TestWhichGoesAhead(t *testing.T) {
	for _, method := range methods() {
		s := func(want int, texts ...string) {
			t.Helper()
			check(t, sample{method, of(texts...), true, `"a"`, 5}, want)
			// The order of the fields is of no matter.
			l := of(texts...)
			slices.Reverse(l)
			check(t, sample{method, l, true, `"a"`, 5}, want)
		}
		fresh := 0
		if isRead(method) {
			fresh = 304
		}
		// With If-Match nobody asks for If-Unmodified-Since, with If-None-Match nobody for If-Modified-Since.
		s(0, match, `"a"`, unmodified, at(4))
		s(412, match, `"b"`, unmodified, at(5))
		s(0, noneMatch, `"b"`, modified, at(5))
		s(known(method), noneMatch, `"a"`, modified, at(4))
		// If the first two hold, the others are asked.
		s(known(method), match, `"a"`, noneMatch, `"a"`)
		s(known(method), unmodified, at(5), noneMatch, "*")
		s(fresh, match, "*", modified, at(5))
		s(fresh, unmodified, at(5), modified, at(5))
		s(fresh, match, "*", unmodified, at(4), modified, at(5))
		s(0, match, `"a"`, noneMatch, `"b"`)
		s(0, unmodified, at(5), modified, at(4))
		// If they don't, the others aren't.
		s(412, match, `"b"`, noneMatch, `"a"`)
		s(412, match, `"b"`, modified, at(5))
		s(412, unmodified, at(4), noneMatch, `"a"`)
		s(412, unmodified, at(4), modified, at(5))
		s(412, unmodified, at(4), noneMatch, `"b"`)
	}
	check(t, sample{"GET", of(match, "*", noneMatch, "*"), false, `"a"`, 5}, 412)
	check(t, sample{"GET", of(unmodified, at(4), noneMatch, "*", modified, at(5)), false, `"a"`, 5}, 0)
}

// list is a text of a field, whether it can be read, and what is in it: anything, a as a strong tag, a as any tag.
type list struct {
	text                   string
	read, star, aStrong, a bool
}

func lists() []list {
	return []list{
		{text: ""},
		{text: "x"},
		{text: "*", read: true, star: true},
		{text: `"a"`, read: true, aStrong: true, a: true},
		{text: `W/"a"`, read: true, a: true},
		{text: `"b"`, read: true},
		{text: `"b", W/"a"`, read: true, a: true},
		{text: `W/"b", "a"`, read: true, aStrong: true, a: true},
	}
}

// tag is the text of what is there, whether it tells the tag a, and whether that is weak.
type tag struct {
	text    string
	a, weak bool
}

func tags() []tag {
	return []tag{{`"a"`, true, false}, {`W/"a"`, true, true}, {"", false, false}, {"a", false, false}}
}

// model is the promise in other words: the times are below 0, if they aren't there or can't be read.
func model(method string, ifMatch, ifNone list, ifUnmodified, ifModified int, there bool, have tag, at int) int {
	if ifMatch.read {
		strong := have.a && !have.weak && ifMatch.aStrong
		if !there || !ifMatch.star && !strong {
			return 412
		}
	}
	if !ifMatch.read && ifUnmodified >= 0 && there && at >= 0 && at > ifUnmodified {
		return 412
	}
	if ifNone.read {
		if there && (ifNone.star || have.a && ifNone.a) {
			return known(method)
		}
		return 0
	}
	if ifModified >= 0 && isRead(method) && there && at >= 0 && at <= ifModified {
		return 304
	}
	return 0
}

// with answers the fields of the texts that there are.
func with(ifMatch, ifNone list, ifUnmodified, ifModified int) []api.Field {
	return slices.Concat(listField(match, ifMatch), dateField(modified, ifModified), listField(noneMatch, ifNone), dateField(unmodified, ifUnmodified))
}

// listField answers no field for the empty text.
func listField(name string, c list) []api.Field {
	if c.text == "" {
		return nil
	}
	return of(name, c.text)
}

// dateField answers no field for -2, one that can't be read for -1.
func dateField(name string, n int) []api.Field {
	switch n {
	case -2:
		return nil
	case -1:
		return of(name, "yesterday")
	}
	return of(name, at(n))
}

func TestAllTogether(t *testing.T) {
	dates := []int{-2, -1, 0, 4, 5}
	for _, ifMatch := range lists() {
		for _, ifNone := range lists() {
			for _, ifUnmodified := range dates {
				for _, ifModified := range dates {
					checkAll(t, ifMatch, ifNone, ifUnmodified, ifModified)
				}
			}
		}
	}
}

// checkAll asks with these fields of each thing that may be there.
func checkAll(t *testing.T, ifMatch, ifNone list, ifUnmodified, ifModified int) {
	t.Helper()
	l := with(ifMatch, ifNone, ifUnmodified, ifModified)
	for _, have := range tags() {
		for _, n := range []int{-1, 0, 4, 5, 6} {
			for _, method := range []string{"GET", "HEAD", "PUT"} {
				for _, there := range []bool{false, true} {
					check(t, sample{method, l, there, have.text, n}, model(method, ifMatch, ifNone, ifUnmodified, ifModified, there, have, n))
				}
			}
		}
	}
}
