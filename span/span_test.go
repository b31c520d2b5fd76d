package span_test

import (
	"math"
	"regexp"
	"slices"
	"strconv"
	"strings"
	"testing"

	"larder/api"
	"larder/span"
)

func one(c int) string { return string([]byte{byte(c)}) }

func fromTo(first, last int) api.Want { return api.Want{First: first, Last: last} }

func from(first int) api.Want { return api.Want{First: first, Last: -1} }

func lastOf(n int) api.Want { return api.Want{First: -1, Last: n} }

func part(from, to int) api.Slice { return api.Slice{From: from, To: to} }

// P24: Print.

func checkPrint(t *testing.T, l []api.Want, want string, err api.Errno) {
	t.Helper()
	if s, e := span.Print(l); s != want || e != err {
		t.Errorf("Print(%.200v): %.200q %d, not %.200q %d", l, s, e, want, err)
	}
}

func rightWants() map[string]api.Want {
	return map[string]api.Want{
		"0-0":         fromTo(0, 0),
		"0-4":         fromTo(0, 4),
		"4-4":         fromTo(4, 4),
		"9-10":        fromTo(9, 10),
		"0-99999":     fromTo(0, 99999),
		"99999-99999": fromTo(99999, 99999),
		"10000-20000": fromTo(10000, 20000),
		"0-":          from(0),
		"1-":          from(1),
		"70-":         from(70),
		"99999-":      from(99999),
		"-0":          lastOf(0),
		"-1":          lastOf(1),
		"-3":          lastOf(3),
		"-500":        lastOf(500),
		"-99999":      lastOf(99999),
	}
}

func wrongWants() []api.Want {
	return []api.Want{
		fromTo(-1, -1), fromTo(5, 4), fromTo(1, 0), fromTo(99999, 0), fromTo(0, -2), fromTo(5, -2), fromTo(-1, -2), fromTo(-2, -1), fromTo(-2, -2), fromTo(-2, 0), fromTo(-2, 5), fromTo(-5, -3),
		fromTo(0, 100000), fromTo(100000, 100000), fromTo(100000, 100001), fromTo(100000, 0), from(100000), lastOf(100000),
		from(math.MaxInt), lastOf(math.MaxInt), from(math.MinInt), lastOf(math.MinInt), fromTo(0, math.MaxInt), fromTo(0, math.MinInt), fromTo(math.MinInt, 0), fromTo(math.MaxInt, 0),
		fromTo(math.MinInt, math.MaxInt), fromTo(math.MaxInt, math.MaxInt), fromTo(math.MinInt, math.MinInt), fromTo(1<<32, 1<<32), fromTo(1<<32, 1<<32+1),
	}
}

func TestPrint(t *testing.T) {
	for s, w := range rightWants() {
		checkPrint(t, []api.Want{w}, "bytes="+s, api.OK)
		checkPrint(t, []api.Want{w, w}, "bytes="+s+","+s, api.OK)
		checkPrint(t, []api.Want{from(7), w, lastOf(3)}, "bytes=7-,"+s+",-3", api.OK)
	}
	// Their order stays, whatever they ask for.
	checkPrint(t, []api.Want{fromTo(5, 9), fromTo(0, 4), fromTo(2, 7), fromTo(0, 4)}, "bytes=5-9,0-4,2-7,0-4", api.OK)
}

func TestPrintWrong(t *testing.T) {
	checkPrint(t, nil, "", api.ErrArg)
	checkPrint(t, []api.Want{}, "", api.ErrArg)
	for _, w := range wrongWants() {
		checkPrint(t, []api.Want{w}, "", api.ErrArg)
		checkPrint(t, []api.Want{w, from(0)}, "", api.ErrArg)
		checkPrint(t, []api.Want{from(0), w}, "", api.ErrArg)
	}
}

func TestPrintLimits(t *testing.T) {
	wants := func(n int) []api.Want { return slices.Repeat([]api.Want{from(0)}, n) }
	list := func(n int) string { return "bytes=" + strings.Repeat("0-,", n-1) + "0-" }
	for _, n := range []int{1, 2, 19, 20} {
		checkPrint(t, wants(n), list(n), api.OK)
	}
	for _, n := range []int{21, 22, 1000} {
		checkPrint(t, wants(n), "", api.ErrLarge)
		// One that isn't so goes ahead of too many.
		checkPrint(t, append(wants(n), fromTo(1, 0)), "", api.ErrArg)
		checkPrint(t, append([]api.Want{from(100000)}, wants(n)...), "", api.ErrArg)
	}
	checkPrint(t, append(wants(20), fromTo(1, 0)), "", api.ErrArg)
}

// P24: Parse.

func checkParse(t *testing.T, s string, want []api.Want, err api.Errno) {
	t.Helper()
	if l, e := span.Parse(s); !slices.Equal(l, want) || e != err {
		t.Errorf("Parse(%.200q): %.200v %d, not %.200v %d", s, l, e, want, err)
	}
}

func TestParse(t *testing.T) {
	for s, w := range rightWants() {
		checkParse(t, "bytes="+s, []api.Want{w}, api.OK)
		checkParse(t, "bytes=7-,"+s+",-3", []api.Want{from(7), w, lastOf(3)}, api.OK)
		for _, b := range []string{" ", "\t", "  ", " \t ", strings.Repeat("\t ", 2000)} {
			checkParse(t, "bytes="+b+s, []api.Want{w}, api.OK)
			checkParse(t, "bytes="+s+b, []api.Want{w}, api.OK)
			checkParse(t, "bytes="+b+s+b+","+b+"-3"+b, []api.Want{w, lastOf(3)}, api.OK)
		}
	}
	checkParse(t, "bytes=0-4 , -3,7-", []api.Want{fromTo(0, 4), lastOf(3), from(7)}, api.OK)
}

func TestParseWrong(t *testing.T) {
	for _, s := range []string{"", "-", "--", "0", "5", "--5", "5--", "5--1", "5--7", "-5-", "-5-7", "5-7-", "5-7-9", "-1-1", "-1--1", "--1", "5-4", "10-9", "99999-0",
		"00-1", "0-01", "00-", "01-", "-00", "-01", "05-7", "5-07", "+5-7", "5-+7", "+5-", "-+5", "0x5-", "0x5-7", "5_0-", "1_0-2_0", "5e1-", "5.0-", "5,-", "a-b", "a-", "-a", "a", "*", "*-*",
		"100000-", "-100000", "0-100000", "100000-100000", "99999-100000", "18446744073709551617-", "-18446744073709551617", "0-18446744073709551621", "9223372036854775807-", "-9223372036854775807", "-9223372036854775808", "0-9223372036854775808",
		"5 -7", "5- 7", "5 - 7", "5\t-7", "- 5", "5 7-", "5 -", "5-7 9-", "5-7;9-", "5\u20137", "\uff15-", "0-4\n", "\n0-4", "0-4\r\n", "\v0-4", "0-4\f", "0-4\x00", "\x000-4", "\u00a00-4", "0-4\u2003",
		strings.Repeat("1", 1<<16) + "-", "-" + strings.Repeat("1", 1<<16), strings.Repeat("0", 1<<16) + "-", strings.Repeat("-", 1<<16), strings.Repeat(" ", 1<<16)} {
		checkParse(t, "bytes="+s, nil, api.ErrSyntax)
		checkParse(t, "bytes="+s+",7-", nil, api.ErrSyntax)
		checkParse(t, "bytes=7-,"+s, nil, api.ErrSyntax)
		checkParse(t, "bytes=7- , "+s+" ,-3", nil, api.ErrSyntax)
		checkParse(t, s, nil, api.ErrSyntax)
	}
}

func TestParseWhatIsMeantByBytes(t *testing.T) {
	for _, s := range []string{"", "b", "bytes", "bytes=", "bytes= ", "bytes=,", "bytes=,0-4", "bytes=0-4,", "bytes=0-4,,7-", "bytes=0-4, ,7-", "0-4", "=0-4", "bytes0-4", "bytes 0-4", "bytes:0-4", "bytes==0-4", "bytes =0-4", " bytes=0-4", "\tbytes=0-4",
		"Bytes=0-4", "BYTES=0-4", "byte=0-4", "bytess=0-4", "xbytes=0-4", "items=0-4", "bytes=bytes=0-4", "bytes=0-4,bytes=7-", "bytes=0-4;bytes=7-", "bytes 0-4/9", "bytes=0-4/9"} {
		checkParse(t, s, nil, api.ErrSyntax)
	}
}

func TestParseLimits(t *testing.T) {
	wants := func(n int) []api.Want { return slices.Repeat([]api.Want{fromTo(10, 20)}, n) }
	list := func(n int) string { return "bytes=" + strings.Repeat("10-20 ,", n-1) + "10-20" }
	for _, n := range []int{1, 2, 19, 20} {
		checkParse(t, list(n), wants(n), api.OK)
		checkParse(t, list(n)+",", nil, api.ErrSyntax)
	}
	for _, n := range []int{21, 22, 1000, 1 << 14} {
		checkParse(t, list(n), nil, api.ErrLarge)
		// What can't be read goes ahead of too many.
		checkParse(t, list(n)+",", nil, api.ErrSyntax)
		checkParse(t, list(n)+",5-4", nil, api.ErrSyntax)
		checkParse(t, list(n)+",100000-", nil, api.ErrSyntax)
		checkParse(t, "bytes=x,"+list(n)[6:], nil, api.ErrSyntax)
		checkParse(t, list(n)[1:], nil, api.ErrSyntax)
	}
}

const (
	numberForm = `(?:0|[1-9][0-9]{0,4})`
	wantForm   = `(` + numberForm + `?)-(` + numberForm + `?)`
)

var (
	wantIn    = regexp.MustCompile(wantForm)
	wholeList = regexp.MustCompile(`\Abytes=[ \t]*` + wantForm + `(?:[ \t]*,[ \t]*` + wantForm + `)*[ \t]*\z`)
)

// byForm answers what the form of a list says of s: the wants of it, if it is one.
func byForm(s string) ([]api.Want, bool) {
	if !wholeList.MatchString(s) {
		return nil, false
	}
	var l []api.Want
	for _, m := range wantIn.FindAllStringSubmatch(s, -1) {
		w := fromTo(-1, -1)
		if m[1] != "" {
			w.First, _ = strconv.Atoi(m[1])
		}
		if m[2] != "" {
			w.Last, _ = strconv.Atoi(m[2])
		}
		if m[1] == "" && m[2] == "" || m[1] != "" && m[2] != "" && w.Last < w.First {
			return nil, false
		}
		l = append(l, w)
	}
	return l, true
}

func checkByForm(t *testing.T, s string) {
	t.Helper()
	want, ok := byForm(s)
	switch {
	case !ok:
		checkParse(t, s, nil, api.ErrSyntax)
	case len(want) > 20:
		checkParse(t, s, nil, api.ErrLarge)
	default:
		checkParse(t, s, want, api.OK)
		// Without BLANKS it is what Print tells.
		checkPrint(t, want, strings.NewReplacer(" ", "", "\t", "").Replace(s), api.OK)
	}
}

func TestShortTexts(t *testing.T) {
	for s := range texts("01-, ", 7) {
		checkByForm(t, "bytes="+s)
	}
	for s := range texts("9-,\t+", 6) {
		checkByForm(t, "bytes="+s)
	}
	for s := range texts("0-=,x", 4) {
		checkByForm(t, "bytes"+s)
	}
}

func TestOneByteOtherwise(t *testing.T) {
	for _, base := range []string{"bytes=0-4", "bytes=10-99999 ,\t-3,7-", "bytes=" + strings.Repeat("5-,", 19) + "-5"} {
		for i := range len(base) {
			checkByForm(t, base[:i])
			checkByForm(t, base[:i]+base[i+1:])
			for c := range 256 {
				checkByForm(t, base[:i]+one(c)+base[i+1:])
				checkByForm(t, base[:i]+one(c)+base[i:])
			}
		}
	}
}

// TestParseReadsWhatPrintTells: wants that Print has told are read as they were.
func TestParseReadsWhatPrintTells(t *testing.T) {
	var all []api.Want
	numbers := []int{0, 1, 9, 10, 99, 100, 999, 1000, 9999, 10000, 99998, 99999}
	for i, n := range numbers {
		all = append(all, from(n), lastOf(n))
		for _, m := range numbers[i:] {
			all = append(all, fromTo(n, m))
		}
	}
	for some := range slices.Chunk(all, 20) {
		s, err := span.Print(some)
		if err != api.OK {
			t.Fatalf("%v: %d", some, err)
		}
		checkParse(t, s, some, api.OK)
		checkParse(t, strings.ReplaceAll(s, ",", " ,\t"), some, api.OK)
	}
}

// P25: Resolve.

func checkResolve(t *testing.T, l []api.Want, size int, want []api.Slice, err api.Errno) {
	t.Helper()
	if m, e := span.Resolve(l, size); !slices.Equal(m, want) || e != err {
		t.Errorf("Resolve(%.200v, %d): %.200v %d, not %.200v %d", l, size, m, e, want, err)
	}
}

func TestResolve(t *testing.T) {
	for _, c := range []struct {
		w    api.Want
		size int
		want api.Slice
	}{
		{fromTo(0, 0), 1, part(0, 1)},
		{fromTo(0, 4), 9, part(0, 5)},
		{fromTo(8, 8), 9, part(8, 9)},
		{fromTo(8, 9), 9, part(8, 9)},
		{fromTo(3, 99999), 9, part(3, 9)},
		{fromTo(0, 99999), 99999, part(0, 99999)},
		{fromTo(0, 99999), 100000, part(0, 100000)},
		{fromTo(0, 99999), 100001, part(0, 100000)},
		{fromTo(99999, 99999), 100000, part(99999, 100000)},
		{from(0), 1, part(0, 1)},
		{from(8), 9, part(8, 9)},
		{from(7), 9, part(7, 9)},
		{from(5), math.MaxInt, part(5, math.MaxInt)},
		{fromTo(5, 7), math.MaxInt, part(5, 8)},
		{lastOf(1), 9, part(8, 9)},
		{lastOf(3), 9, part(6, 9)},
		{lastOf(9), 9, part(0, 9)},
		{lastOf(10), 9, part(0, 9)},
		{lastOf(99999), 9, part(0, 9)},
		{lastOf(99999), 100000, part(1, 100000)},
		{lastOf(3), math.MaxInt, part(math.MaxInt-3, math.MaxInt)},
	} {
		checkResolve(t, []api.Want{c.w}, c.size, []api.Slice{c.want}, api.OK)
		checkResolve(t, []api.Want{lastOf(0), c.w, lastOf(0), c.w}, c.size, []api.Slice{c.want, c.want}, api.OK)
	}
	// Their order stays, and none is put together with another.
	checkResolve(t, []api.Want{lastOf(3), fromTo(0, 4), from(9), from(7), fromTo(5, 6), fromTo(0, 4)}, 9,
		[]api.Slice{part(6, 9), part(0, 5), part(7, 9), part(5, 7), part(0, 5)}, api.OK)
}

func TestResolveNothingThere(t *testing.T) {
	for _, c := range []struct {
		w    api.Want
		size int
	}{
		{fromTo(9, 9), 9}, {fromTo(9, 20), 9}, {fromTo(10, 20), 9}, {from(9), 9}, {from(10), 9}, {from(99999), 9}, {lastOf(0), 9}, {lastOf(0), math.MaxInt}, {from(99999), 99999},
		{fromTo(0, 0), 0}, {fromTo(0, 4), 0}, {from(0), 0}, {from(1), 0}, {lastOf(0), 0}, {lastOf(1), 0}, {lastOf(99999), 0}, {fromTo(1, 1), 0},
	} {
		checkResolve(t, []api.Want{c.w}, c.size, nil, api.ErrRange)
		checkResolve(t, slices.Repeat([]api.Want{c.w, lastOf(0)}, 10), c.size, nil, api.ErrRange)
		if c.size > 0 {
			checkResolve(t, []api.Want{c.w, fromTo(0, 0), c.w}, c.size, []api.Slice{part(0, 1)}, api.OK)
		}
	}
}

func TestResolveWrong(t *testing.T) {
	checkResolve(t, nil, 9, nil, api.ErrArg)
	checkResolve(t, []api.Want{}, 0, nil, api.ErrArg)
	for _, w := range wrongWants() {
		for _, size := range []int{0, 9, 1 << 20, -1} {
			checkResolve(t, []api.Want{w}, size, nil, api.ErrArg)
			checkResolve(t, []api.Want{from(0), w}, size, nil, api.ErrArg)
			checkResolve(t, []api.Want{w, from(0)}, size, nil, api.ErrArg)
		}
	}
	for _, size := range []int{-1, -2, -99999, math.MinInt} {
		for _, w := range rightWants() {
			checkResolve(t, []api.Want{w}, size, nil, api.ErrArg)
		}
	}
	wants := func(n int) []api.Want { return slices.Repeat([]api.Want{from(0)}, n) }
	checkResolve(t, wants(20), 9, slices.Repeat([]api.Slice{part(0, 9)}, 20), api.OK)
	for _, n := range []int{21, 22, 1000} {
		checkResolve(t, wants(n), 9, nil, api.ErrLarge)
		// Too many goes ahead of none there, and behind all that is wrong otherwise.
		checkResolve(t, wants(n), 0, nil, api.ErrLarge)
		checkResolve(t, wants(n), -1, nil, api.ErrArg)
		checkResolve(t, append(wants(n), fromTo(1, 0)), 9, nil, api.ErrArg)
	}
}

// askedFor answers the bytes of a body for which w asks, one by one.
func askedFor(w api.Want, size int) []int {
	var l []int
	for i := range size {
		switch {
		case w.First == -1 && i >= size-w.Last, w.Last == -1 && i >= w.First, w.First <= i && i <= w.Last && w.First >= 0:
			l = append(l, i)
		}
	}
	return l
}

func TestResolveOneByOne(t *testing.T) {
	for size := range 9 {
		var all []api.Want
		var found []api.Slice
		for first := range 12 {
			all = append(all, from(first), lastOf(first))
			for last := first; last < 12; last++ {
				all = append(all, fromTo(first, last))
			}
		}
		for some := range slices.Chunk(all, 20) {
			found = nil
			for _, w := range some {
				l := askedFor(w, size)
				if len(l) == 0 {
					checkResolve(t, []api.Want{w}, size, nil, api.ErrRange)
					continue
				}
				s := part(l[0], l[len(l)-1]+1)
				checkResolve(t, []api.Want{w}, size, []api.Slice{s}, api.OK)
				found = append(found, s)
			}
			err := api.OK
			if len(found) == 0 {
				err = api.ErrRange
			}
			checkResolve(t, some, size, found, err)
		}
	}
}

// P25: Merge.

func checkMerge(t *testing.T, l, want []api.Slice) {
	t.Helper()
	if m := span.Merge(l); !slices.Equal(m, want) {
		t.Errorf("Merge(%.200v): %.200v, not %.200v", l, m, want)
	}
}

func TestMerge(t *testing.T) {
	parts := func(ends ...int) []api.Slice {
		var l []api.Slice
		for i := 0; i+1 < len(ends); i += 2 {
			l = append(l, part(ends[i], ends[i+1]))
		}
		return l
	}
	for _, c := range [][2][]api.Slice{
		{nil, nil},
		{{}, nil},
		{parts(0, 5), parts(0, 5)},
		{parts(0, 5, 0, 5), parts(0, 5)},
		{parts(0, 5, 6, 9, 7, 9), parts(0, 5, 6, 9)},
		// Those that touch are one.
		{parts(0, 5, 5, 9), parts(0, 9)},
		{parts(5, 9, 0, 5), parts(0, 9)},
		{parts(0, 5, 6, 9), parts(0, 5, 6, 9)},
		{parts(6, 9, 0, 5), parts(0, 5, 6, 9)},
		{parts(0, 5, 3, 9), parts(0, 9)},
		{parts(0, 9, 3, 5), parts(0, 9)},
		{parts(0, 9, 3, 5, 8, 12), parts(0, 12)},
		{parts(3, 5, 0, 9, 20, 21, 9, 10), parts(0, 10, 20, 21)},
		{parts(0, 3, 0, 7, 0, 5), parts(0, 7)},
		// One that puts two others together.
		{parts(0, 2, 4, 6, 2, 4), parts(0, 6)},
		{parts(0, 2, 4, 6, 1, 5), parts(0, 6)},
		// Those without bytes count for nothing.
		{parts(5, 5), nil},
		{parts(5, 4, 0, 0, 9, -9, math.MaxInt, math.MinInt), nil},
		{parts(0, 5, 5, 5, 6, 9), parts(0, 5, 6, 9)},
		{parts(0, 5, 6, 5, 6, 9), parts(0, 5, 6, 9)},
		{parts(0, 5, 9, 0), parts(0, 5)},
		{parts(0, 0, 0, 1), parts(0, 1)},
		// Any ints are taken.
		{parts(-5, 3), parts(-5, 3)},
		{parts(2, 4, -5, -3, -3, 0), parts(-5, 0, 2, 4)},
		{parts(math.MaxInt-1, math.MaxInt, math.MinInt, math.MinInt+1), parts(math.MinInt, math.MinInt+1, math.MaxInt-1, math.MaxInt)},
		{parts(0, math.MaxInt, math.MinInt, 0), parts(math.MinInt, math.MaxInt)},
		{parts(math.MinInt, math.MaxInt, 5, 9), parts(math.MinInt, math.MaxInt)},
	} {
		checkMerge(t, c[0], c[1])
	}
}

// runs answers the slices of the runs of bytes that l has, one byte after the other; all of them are from low on, ahead of high.
func runs(l []api.Slice, low, high int) []api.Slice {
	var out []api.Slice
	within := false
	for i := low; i < high; i++ {
		has := slices.ContainsFunc(l, func(s api.Slice) bool { return s.From <= i && i < s.To })
		switch {
		case has && within:
			out[len(out)-1].To = i + 1
		case has:
			out = append(out, part(i, i+1))
		}
		within = has
	}
	return out
}

func TestMergeOneByOne(t *testing.T) {
	var all []api.Slice
	for a := -2; a < 5; a++ {
		for b := -2; b < 5; b++ {
			all = append(all, part(a, b))
		}
	}
	for _, a := range all {
		for _, b := range all {
			for _, c := range all {
				l := []api.Slice{a, b, c}
				checkMerge(t, l, runs(l, -3, 6))
			}
		}
	}
}

func TestMergeMany(t *testing.T) {
	// Multiples of 7 modulo 1009 go over all slices in an order that isn't theirs.
	var l, want []api.Slice
	for i := range 1009 {
		at := i * 7 % 1009
		l = append(l, part(3*at, 3*at+2))
		want = append(want, part(3*i, 3*i+2))
	}
	checkMerge(t, l, want)
	for i := range 1009 {
		l = append(l, part(3*i+2, 3*i+3))
	}
	checkMerge(t, l, []api.Slice{part(0, 3*1009)})
}
