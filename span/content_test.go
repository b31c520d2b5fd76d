package span_test

import (
	"fmt"
	"math"
	"regexp"
	"slices"
	"strconv"
	"strings"
	"testing"

	"larder/api"
	"larder/span"
)

// P26: PrintContent.

func checkPrintContent(t *testing.T, p api.Slice, size int, want string, err api.Errno) {
	t.Helper()
	if s, e := span.PrintContent(p, size); s != want || e != err {
		t.Errorf("PrintContent(%v, %d): %.200q %d, not %.200q %d", p, size, s, e, want, err)
	}
}

func checkParseContent(t *testing.T, s string, want api.Slice, size int, err api.Errno) {
	t.Helper()
	if p, n, e := span.ParseContent(s); p != want || n != size || e != err {
		t.Errorf("ParseContent(%.200q): %v %d %d, not %v %d %d", s, p, n, e, want, size, err)
	}
}

func TestContent(t *testing.T) {
	for _, c := range []struct {
		p    api.Slice
		size int
		want string
	}{
		{part(0, 1), 1, "bytes 0-0/1"},
		{part(2, 5), 9, "bytes 2-4/9"},
		{part(0, 9), 9, "bytes 0-8/9"},
		{part(8, 9), 9, "bytes 8-8/9"},
		{part(9, 11), 100, "bytes 9-10/100"},
		{part(10, 20), 99999, "bytes 10-19/99999"},
		{part(0, 99999), 99999, "bytes 0-99998/99999"},
		{part(99998, 99999), 99999, "bytes 99998-99998/99999"},
	} {
		checkPrintContent(t, c.p, c.size, c.want, api.OK)
		checkParseContent(t, c.want, c.p, c.size, api.OK)
	}
}

func TestPrintContentWrong(t *testing.T) {
	for _, c := range []struct {
		p    api.Slice
		size int
	}{
		{part(-1, 5), 9}, {part(-1, 0), 9}, {part(-5, -3), 9}, {part(math.MinInt, 5), 9},
		{part(0, 0), 9}, {part(5, 5), 9}, {part(9, 9), 9}, {part(5, 4), 9}, {part(5, 0), 9}, {part(5, -1), 9}, {part(5, math.MinInt), 9}, {part(math.MaxInt, math.MinInt), 9},
		{part(0, 10), 9}, {part(9, 10), 9}, {part(8, 10), 9}, {part(0, math.MaxInt), 9}, {part(10, 12), 9},
		{part(0, 1), 0}, {part(0, 0), 0}, {part(0, 1), -1}, {part(0, 1), math.MinInt}, {part(-2, -1), -1},
		{part(0, 1), 100000}, {part(0, 100000), 100000}, {part(99999, 100000), 100000}, {part(0, 1), math.MaxInt}, {part(0, math.MaxInt), math.MaxInt}, {part(0, 1), 1<<32 + 9},
	} {
		checkPrintContent(t, c.p, c.size, "", api.ErrArg)
	}
}

// P26: ParseContent.

func TestParseContentWrong(t *testing.T) {
	for _, s := range []string{"", "bytes", "bytes ", "bytes -", "bytes /", "bytes -/", "2-4/9", " 2-4/9", "bytes2-4/9", "bytes=2-4/9", "bytes=2-4", "Bytes 2-4/9", "BYTES 2-4/9", "byte 2-4/9", "bytess 2-4/9", "xbytes 2-4/9", "bytes bytes 2-4/9",
		"bytes 2-4", "bytes 2-4/", "bytes 2-/9", "bytes -4/9", "bytes 2/9", "bytes 24/9", "bytes /9", "bytes -/9", "bytes 2-4/9/9", "bytes 2-4/9-", "bytes 2/4-9", "bytes 2-4-9", "bytes 2-4-6/9", "bytes 2--4/9", "bytes 2-4//9",
		"bytes -2-4/9", "bytes --2/9", "bytes -1-4/9", "bytes 2--1/9", "bytes 0--1/9", "bytes 0-4/-9", "bytes 0-0/-1",
		"bytes 4-2/9", "bytes 4-3/9", "bytes 0-9/9", "bytes 9-9/9", "bytes 0-10/9", "bytes 0-0/0", "bytes 10-12/9", "bytes 0-4/4",
		"bytes 02-4/9", "bytes 2-04/9", "bytes 2-4/09", "bytes 00-4/9", "bytes 0-00/9", "bytes +2-4/9", "bytes 2-+4/9", "bytes 2-4/+9", "bytes 0x2-4/9", "bytes 2-4/0x9", "bytes 2-4/1_0", "bytes 2-4/9.0", "bytes 2-4/1e1",
		"bytes a-4/9", "bytes 2-a/9", "bytes 2-4/a", "bytes */9", "bytes 2-4/*", "bytes *", "bytes a-b/c",
		"bytes  2-4/9", "bytes\t2-4/9", " bytes 2-4/9", "bytes 2-4/9 ", "bytes 2 -4/9", "bytes 2- 4/9", "bytes 2-4 /9", "bytes 2-4/ 9", "bytes 2-4/9\t", "bytes 2-4/9\n", "bytes 2-4/9\r\n", "bytes 2-4/9\x00", "bytes 2-4/9x", "bytes 2-4/9,", "bytes 2-4/9, bytes 2-4/9", "bytes 2-4,5-6/9",
		"bytes 0-4/100000", "bytes 0-99999/100000", "bytes 100000-100000/100001", "bytes 0-4/18446744073709551625", "bytes 18446744073709551618-4/9", "bytes 2-18446744073709551620/9", "bytes 2-9223372036854775807/9", "bytes 2-4/9223372036854775807",
		"bytes 2-9223372036854775808/9", "bytes 9223372036854775807-9223372036854775807/9", "bytes 0-9223372036854775806/9223372036854775807",
		"bytes " + strings.Repeat("1", 1<<16) + "-4/9", "bytes 2-" + strings.Repeat("1", 1<<16) + "/9", "bytes 2-4/" + strings.Repeat("1", 1<<16), "bytes " + strings.Repeat("0", 1<<16) + "-4/9"} {
		checkParseContent(t, s, api.Slice{}, 0, api.ErrSyntax)
	}
}

var wholeContent = regexp.MustCompile(`\Abytes (` + numberForm + `)-(` + numberForm + `)/(` + numberForm + `)\z`)

// checkContentByForm asks of a text and holds the answers against what the form says.
func checkContentByForm(t *testing.T, s string) {
	t.Helper()
	if m := wholeContent.FindStringSubmatch(s); m != nil {
		first, _ := strconv.Atoi(m[1])
		last, _ := strconv.Atoi(m[2])
		size, _ := strconv.Atoi(m[3])
		if first <= last && last < size {
			checkParseContent(t, s, part(first, last+1), size, api.OK)
			checkPrintContent(t, part(first, last+1), size, s, api.OK)
			return
		}
	}
	checkParseContent(t, s, api.Slice{}, 0, api.ErrSyntax)
}

func TestShortContents(t *testing.T) {
	for s := range texts("012-/", 7) {
		checkContentByForm(t, "bytes "+s)
	}
	for s := range texts("19-/ +", 5) {
		checkContentByForm(t, "bytes"+s)
		checkContentByForm(t, "bytes 1"+s+"9")
	}
}

func TestContentWithOneByteOtherwise(t *testing.T) {
	for _, base := range []string{"bytes 2-4/9", "bytes 10-99997/99998"} {
		for i := range len(base) {
			checkContentByForm(t, base[:i])
			checkContentByForm(t, base[:i]+base[i+1:])
			for c := range 256 {
				checkContentByForm(t, base[:i]+one(c)+base[i+1:])
				checkContentByForm(t, base[:i]+one(c)+base[i:])
			}
		}
	}
}

func TestContentOfEachSlice(t *testing.T) {
	for size := -2; size < 13; size++ {
		for from := -2; from < 14; from++ {
			for to := -2; to < 14; to++ {
				p := part(from, to)
				if from < 0 || to <= from || to > size {
					checkPrintContent(t, p, size, "", api.ErrArg)
					continue
				}
				s := fmt.Sprintf("bytes %d-%d/%d", from, to-1, size)
				checkPrintContent(t, p, size, s, api.OK)
				checkParseContent(t, s, p, size, api.OK)
			}
		}
	}
}

// P27: Bundle.

func checkBundle(t *testing.T, boundary, body string, l []api.Slice, want string, err api.Errno) {
	t.Helper()
	if s, e := span.Bundle(boundary, body, l); s != want || e != err {
		t.Errorf("Bundle(%.60q, %.60q, %.200v): %.400q %d, not %.400q %d", boundary, body, l, s, e, want, err)
	}
}

func checkUnbundle(t *testing.T, boundary, s string, size int, want []api.Slice, bytes []string, err api.Errno) {
	t.Helper()
	if l, texts, e := span.Unbundle(boundary, s, size); !slices.Equal(l, want) || !slices.Equal(texts, bytes) || e != err {
		t.Errorf("Unbundle(%.60q, %.400q, %d): %.200v %.200q %d, not %.200v %.200q %d", boundary, s, size, l, texts, e, want, bytes, err)
	}
}

func checkNoBundle(t *testing.T, boundary, s string, size int) {
	t.Helper()
	checkUnbundle(t, boundary, s, size, nil, nil, api.ErrSyntax)
}

// written is a part that a test writes by hand: what stands as its slice, and its bytes.
type written struct{ content, bytes string }

// write tells parts as the chapter does, whatever they say.
func write(boundary string, parts ...written) string {
	var b strings.Builder
	for _, p := range parts {
		fmt.Fprintf(&b, "--%s\r\nContent-Range: %s\r\n\r\n%s\r\n", boundary, p.content, p.bytes)
	}
	return b.String() + "--" + boundary + "--\r\n"
}

// of answers the part that is told of a slice of body.
func of(body string, p api.Slice) written {
	return written{fmt.Sprintf("bytes %d-%d/%d", p.From, p.To-1, len(body)), body[p.From:p.To]}
}

// checkBoth holds both calls against what is told of these slices.
func checkBoth(t *testing.T, boundary, body string, l []api.Slice) {
	t.Helper()
	var parts []written
	var bytes []string
	for _, p := range l {
		parts = append(parts, of(body, p))
		bytes = append(bytes, body[p.From:p.To])
	}
	s := write(boundary, parts...)
	checkBundle(t, boundary, body, l, s, api.OK)
	checkUnbundle(t, boundary, s, len(body), l, bytes, api.OK)
	for _, size := range []int{len(body) - 1, len(body) + 1, 0, -1, -len(body), 10 * len(body), 100000, math.MaxInt, math.MinInt} {
		checkNoBundle(t, boundary, s, size)
	}
}

func allSlices(size int) []api.Slice {
	var l []api.Slice
	for from := range size {
		for to := from + 1; to <= size; to++ {
			l = append(l, part(from, to))
		}
	}
	return l
}

func TestBundle(t *testing.T) {
	checkBundle(t, "xy", "abcdefghi", []api.Slice{part(0, 5), part(6, 9)},
		"--xy\r\nContent-Range: bytes 0-4/9\r\n\r\nabcde\r\n--xy\r\nContent-Range: bytes 6-8/9\r\n\r\nghi\r\n--xy--\r\n", api.OK)
	for _, a := range allSlices(4) {
		checkBoth(t, "xy", "abcd", []api.Slice{a})
		for _, b := range allSlices(4) {
			checkBoth(t, "xy", "abcd", []api.Slice{a, b})
			checkBoth(t, "-", "\r\n\r\n", []api.Slice{a, b})
			checkBoth(t, "larder", "\x00-\xff-", []api.Slice{a, b, a})
		}
	}
	// As they are handed in: in no order, twice, one within another.
	checkBoth(t, "xy", "abcdefghi", []api.Slice{part(6, 9), part(0, 5), part(2, 7), part(0, 5), part(3, 4), part(0, 9)})
}

// TestNothingHides: bytes that look like what stands around them are bytes.
func TestNothingHides(t *testing.T) {
	inner := write("xy", written{"bytes 0-0/9", "a"})
	for _, body := range []string{"--xy--\r\n", "\r\n--xy--\r\n", "\r\n--xy\r\n", "--xy", "\r\n", "\r\n\r\n", "\n\r\n\r", "--", "Content-Range: bytes 0-0/1\r\n\r\n", inner, "\r\n" + inner, inner + inner, "a\r\n" + inner[:len(inner)-8]} {
		all := []api.Slice{part(0, len(body))}
		checkBoth(t, "xy", body, all)
		checkBoth(t, "xy", body, slices.Repeat(all, 20))
		checkBoth(t, "xy", body, []api.Slice{part(0, 1), all[0], part(len(body)-1, len(body))})
		for i := 1; i < len(body); i++ {
			checkBoth(t, "xy", body, []api.Slice{part(0, i), part(i, len(body))})
			checkBoth(t, "xy", body, []api.Slice{part(i, len(body)), part(0, i)})
		}
	}
}

func TestBoundaries(t *testing.T) {
	p := []api.Slice{part(0, 1), part(1, 3)}
	for _, b := range []string{"x", "-", "--", "x-", "x--", "--x", "larder", "A.b", "!#$%&'*+-.^_`|~", strings.Repeat("x", 29), strings.Repeat("x", 30), strings.Repeat("-", 30)} {
		checkBoth(t, b, "abc", p)
		// Each has a text of its own.
		for _, other := range []string{"", "y", "X", "-x", b + "x", b + "-", "-" + b, b + "--", b[1:], b[:len(b)-1]} {
			if s, e := span.Bundle(b, "abc", p); other != b && e == api.OK {
				checkNoBundle(t, other, s, 3)
			}
		}
	}
	for _, b := range []string{"", " ", "x y", " x", "x ", "x\t", "x\r\n", "\r\n", "x\r\n--x", "x\"", "\"x\"", "x,y", "x/y", "x:", "x=y", "(x)", "x\x00", "\u00e4", "\xff", strings.Repeat("x", 31), strings.Repeat("x", 1<<16), strings.Repeat("x", 30) + " "} {
		checkBundle(t, b, "abc", p, "", api.ErrSyntax)
		// What can't be a boundary goes ahead of what else is wrong.
		checkBundle(t, b, "abc", nil, "", api.ErrSyntax)
		checkBundle(t, b, "abc", []api.Slice{part(0, 4)}, "", api.ErrSyntax)
		checkNoBundle(t, b, write(b, of("abc", p[0]), of("abc", p[1])), 3)
	}
	for c := range 256 {
		b := "x" + one(c)
		isToken := c >= '0' && c <= '9' || c >= 'a' && c <= 'z' || c >= 'A' && c <= 'Z' || strings.Contains("!#$%&'*+-.^_`|~", one(c))
		if isToken {
			checkBoth(t, b, "abc", p)
		} else {
			checkBundle(t, b, "abc", p, "", api.ErrSyntax)
			checkNoBundle(t, b, write(b, of("abc", p[0])), 3)
		}
	}
}

func TestBundleWrong(t *testing.T) {
	checkBundle(t, "xy", "abc", nil, "", api.ErrArg)
	checkBundle(t, "xy", "abc", []api.Slice{}, "", api.ErrArg)
	checkBundle(t, "xy", "", nil, "", api.ErrArg)
	checkBundle(t, "xy", "", []api.Slice{part(0, 0)}, "", api.ErrArg)
	checkBundle(t, "xy", "", []api.Slice{part(0, 1)}, "", api.ErrArg)
	for _, p := range []api.Slice{part(0, 0), part(3, 3), part(2, 1), part(-1, 1), part(-1, 0), part(0, 4), part(3, 4), part(4, 5), part(math.MinInt, math.MaxInt), part(0, math.MaxInt), part(0, math.MinInt), part(math.MinInt, 1), part(math.MaxInt, math.MinInt)} {
		checkBundle(t, "xy", "abc", []api.Slice{p}, "", api.ErrArg)
		checkBundle(t, "xy", "abc", []api.Slice{part(0, 1), p}, "", api.ErrArg)
		checkBundle(t, "xy", "abc", []api.Slice{p, part(0, 1)}, "", api.ErrArg)
	}
}

func TestBundleLimits(t *testing.T) {
	several := func(n int) []api.Slice { return slices.Repeat([]api.Slice{part(1, 3)}, n) }
	parts := func(n int) []written { return slices.Repeat([]written{of("abc", part(1, 3))}, n) }
	for _, n := range []int{1, 19, 20} {
		checkBoth(t, "xy", "abc", several(n))
	}
	for _, n := range []int{21, 22, 40, 1000} {
		checkBundle(t, "xy", "abc", several(n), "", api.ErrArg)
		checkNoBundle(t, "xy", write("xy", parts(n)...), 3)
	}
	checkNoBundle(t, "xy", write("xy"), 3)
	checkNoBundle(t, "xy", write("xy"), 0)
	checkNoBundle(t, "xy", write("xy"), math.MaxInt)
	body := strings.Repeat("0123456789", 10000)
	checkBoth(t, "xy", body[:99999], []api.Slice{part(99998, 99999), part(0, 99999), part(5, 7)})
	checkBundle(t, "xy", body, []api.Slice{part(0, 1)}, "", api.ErrArg)
	checkNoBundle(t, "xy", write("xy", of(body, part(0, 1))), 100000)
	checkNoBundle(t, "xy", write("xy", of(body, part(0, 100000))), 100000)
}

// P27: Unbundle.

// TestPartsOfOneBody: parts that say different things of one byte are of no body.
func TestPartsOfOneBody(t *testing.T) {
	for _, c := range [][]written{
		{{"bytes 0-2/9", "abc"}, {"bytes 2-4/9", "Cde"}},
		{{"bytes 2-4/9", "cde"}, {"bytes 0-2/9", "abC"}},
		{{"bytes 0-2/9", "abc"}, {"bytes 0-2/9", "abC"}},
		{{"bytes 0-2/9", "abc"}, {"bytes 0-2/9", "Abc"}},
		{{"bytes 0-2/9", "abc"}, {"bytes 1-1/9", "B"}},
		{{"bytes 1-1/9", "B"}, {"bytes 0-2/9", "abc"}},
		{{"bytes 0-2/9", "abc"}, {"bytes 5-6/9", "fg"}, {"bytes 2-5/9", "cdeF"}},
		{{"bytes 0-8/9", "abcdefghi"}, {"bytes 0-0/9", "a"}, {"bytes 8-8/9", "\x00"}},
		{{"bytes 0-0/9", "\x00"}, {"bytes 0-0/9", "a"}},
		{{"bytes 0-0/9", "a"}, {"bytes 0-0/9", "b"}, {"bytes 0-0/9", "a"}},
	} {
		checkNoBundle(t, "xy", write("xy", c...), 9)
	}
	// Beside each other they are.
	checkUnbundle(t, "xy", write("xy", written{"bytes 0-2/9", "abc"}, written{"bytes 3-4/9", "Cd"}), 9, []api.Slice{part(0, 3), part(3, 5)}, []string{"abc", "Cd"}, api.OK)
}

func TestUnbundleWrong(t *testing.T) {
	for _, s := range []string{"", "\r\n", "abc", "--xy--\r\n", "--xy--", "--xy\r\n", "--xy", "--\r\n", "\r\n--xy--\r\n", "Content-Range: bytes 0-0/9\r\n\r\na\r\n", "--xy\r\nContent-Range: bytes 0-0/9\r\n\r\na\r\n",
		"--xy\r\n\r\na\r\n--xy--\r\n", "--xy\r\nContent-Range: \r\n\r\na\r\n--xy--\r\n", "--xy\r\ncontent-range: bytes 0-0/9\r\n\r\na\r\n--xy--\r\n", "--xy\r\nContent-Range:bytes 0-0/9\r\n\r\na\r\n--xy--\r\n", "--xy\nContent-Range: bytes 0-0/9\n\na\n--xy--\n",
		"--xy\r\nContent-Type: a/b\r\nContent-Range: bytes 0-0/9\r\n\r\na\r\n--xy--\r\n", "--xy\r\nContent-Range: bytes 0-0/9\r\nContent-Type: a/b\r\n\r\na\r\n--xy--\r\n", "--xy\r\nContent-Range: bytes 0-0/9\r\n\r\n\r\n--xy--\r\n",
		"--xy\r\nContent-Range: bytes 0-8/9\r\n\r\na\r\n--xy--\r\n", "--xy\r\nContent-Range: bytes 0-8/9\r\n\r\nabcdefgh", "--xy\r\nContent-Range: bytes 0-8/9\r\n\r\nabcdefghi", "--xy\r\nContent-Range: bytes 0-8/9\r\n\r\nabcdefghi\r", "--xy\r\nContent-Range: bytes 0-8/9\r\n\r\nabcdefghi--xy--\r\n", "--xy\r\nContent-Range: bytes 0-8/9\r\n\r\n",
		strings.Repeat("--xy\r\n", 1<<14), strings.Repeat("--xy\r\nContent-Range: bytes 0-0/9\r\n\r\na\r\n", 1<<14)} {
		checkNoBundle(t, "xy", s, 9)
	}
	for _, content := range []string{"bytes 0-0/8", "bytes 0-0/10", "bytes 0-0/*", "bytes 0-0", "bytes=0-0/9", "bytes 00-0/9", "bytes  0-0/9", "bytes 0-0/9 ", " bytes 0-0/9", "bytes 0-1/9", "bytes 1-0/9", "bytes 9-9/9", "bytes 0-0/09", "0-0/9", "bytes 0-0/9\r\n", "bytes 0-0/9\r\nA: b"} {
		checkNoBundle(t, "xy", write("xy", written{content, "a"}), 9)
		checkNoBundle(t, "xy", write("xy", written{"bytes 1-2/9", "bc"}, written{content, "a"}), 9)
		checkNoBundle(t, "xy", write("xy", written{content, "a"}, written{"bytes 1-2/9", "bc"}), 9)
	}
	// Nothing stands ahead of it, or behind it.
	s := write("xy", written{"bytes 0-0/9", "a"})
	for _, more := range []string{" ", "\r\n", "\n", "\x00", "x", "--xy--\r\n", "--xy", s} {
		checkNoBundle(t, "xy", s+more, 9)
		checkNoBundle(t, "xy", more+s, 9)
	}
}

// TestBundleWithOneByteOtherwise: a byte that no other part has may be any; all else is as Bundle tells it.
func TestBundleWithOneByteOtherwise(t *testing.T) {
	body, l := "abcdefghi", []api.Slice{part(0, 5), part(3, 9), part(1, 2)}
	s, err := span.Bundle("xy", body, l)
	if err != api.OK {
		t.Fatal(err)
	}
	// Where in s the bytes stand that are in one part alone: of the first one 0 and 2, of the second one 5 to 8.
	free := map[int]bool{}
	first, second := strings.Index(s, "abcde"), strings.Index(s, "defghi")
	for _, i := range []int{first, first + 2, second + 2, second + 3, second + 4, second + 5} {
		free[i] = true
	}
	for i := range len(s) {
		checkNoBundle(t, "xy", s[:i], 9)
		checkNoBundle(t, "xy", s[:i]+s[i+1:], 9)
		for c := range 256 {
			checkNoBundle(t, "xy", s[:i]+one(c)+s[i:], 9)
			changed := s[:i] + one(c) + s[i+1:]
			if !free[i] && changed != s {
				checkNoBundle(t, "xy", changed, 9)
				continue
			}
			texts := []string{changed[first : first+5], changed[second : second+6], "b"}
			checkUnbundle(t, "xy", changed, 9, l, texts, api.OK)
		}
	}
}
