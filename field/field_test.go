package field_test

import (
	"slices"
	"strconv"
	"strings"
	"testing"

	"larder/api"
	"larder/field"
)

// of makes a list of names and values in turn.
func of(texts ...string) []api.Field {
	var l []api.Field
	for i := 0; i+1 < len(texts); i += 2 {
		l = append(l, api.Field{Name: texts[i], Value: texts[i+1]})
	}
	return l
}

func many(n int) []api.Field { return slices.Repeat(of("a", "b"), n) }

func long(n int) string { return strings.Repeat("x", n) }

// P7: Check.

const tokenBytes = "abcdefghijklmnopqrstuvwxyzABCDEFGHIJKLMNOPQRSTUVWXYZ0123456789" + "!#$%&'*+-.^_`|~"

func inToken(c byte) bool { return strings.IndexByte(tokenBytes, c) >= 0 }

func inPlain(c byte) bool { return c == 9 || c >= 32 && c <= 126 }

type checkCase struct {
	l    []api.Field
	want api.Errno
}

// checkAll asks Check and Print of each list: Print has Check's errors.
func checkAll(t *testing.T, cases []checkCase) {
	t.Helper()
	for _, c := range cases {
		if e := field.Check(c.l); e != c.want {
			t.Errorf("Check(%.80q): %d, not %d", c.l, e, c.want)
		}
		if s, e := field.Print(c.l); e != c.want || e != api.OK && s != "" {
			t.Errorf("Print(%.80q): %.80q %d, not %d", c.l, s, e, c.want)
		}
	}
}

func TestCheck(t *testing.T) {
	checkAll(t, []checkCase{
		{nil, api.OK},
		{[]api.Field{}, api.OK},
		{of("a", "1"), api.OK},
		{of("a", ""), api.OK},
		{of("Content-Type", "text/html; charset=utf-8", "content-type", "x"), api.OK},
		{of("a", "x \t y"), api.OK},
		{of("a", `"x, y" : \`), api.OK},
		{of(tokenBytes[:30], "a", tokenBytes[30:60], "a", tokenBytes[60:], "a"), api.OK},
	})
}

func TestCheckName(t *testing.T) {
	for i := range 256 {
		want := api.OK
		if !inToken(byte(i)) {
			want = api.ErrSyntax
		}
		c := string([]byte{byte(i)})
		checkAll(t, []checkCase{{of(c, "x"), want}, {of("a"+c, "x"), want}, {of(c+"a", "x"), want}, {of("b", "", "a"+c+"b", "x"), want}})
	}
	checkAll(t, []checkCase{
		{of("", "x"), api.ErrSyntax},
		{of("", ""), api.ErrSyntax},
		{of("a b", "x"), api.ErrSyntax},
		{of("a:", "x"), api.ErrSyntax},
		{of("\u00e4", "x"), api.ErrSyntax},
	})
}

func TestCheckValue(t *testing.T) {
	for i := range 256 {
		inside := api.OK
		if !inPlain(byte(i)) {
			inside = api.ErrSyntax
		}
		atEnd := inside
		if i == 32 || i == 9 {
			atEnd = api.ErrSyntax
		}
		c := string([]byte{byte(i)})
		checkAll(t, []checkCase{{of("a", "x"+c+"y"), inside}, {of("a", c), atEnd}, {of("a", c+"x"), atEnd}, {of("a", "x"+c), atEnd}})
	}
	checkAll(t, []checkCase{
		{of("a", "x\r\ny"), api.ErrSyntax},
		{of("a", "x\r\nb: y"), api.ErrSyntax},
		{of("a", "\u00e4"), api.ErrSyntax},
	})
}

func TestCheckLimits(t *testing.T) {
	checkAll(t, []checkCase{
		{many(30), api.OK},
		{many(31), api.ErrLarge},
		{many(1000), api.ErrLarge},
		{of(long(30), "x"), api.OK},
		{of(long(31), "x"), api.ErrLarge},
		{of("a", long(1000)), api.OK},
		{of("a", long(1001)), api.ErrLarge},
		{of(long(31), long(1001)), api.ErrLarge},
		{slices.Repeat(of(long(30), long(1000)), 30), api.OK},
	})
}

func TestCheckWhichError(t *testing.T) {
	checkAll(t, []checkCase{
		// Too many go ahead of all.
		{append(of("", ""), many(30)...), api.ErrLarge},
		{append(many(30), of("", "")...), api.ErrLarge},
		{append(of("", ""), many(29)...), api.ErrSyntax},
		// Within a field: the name's bytes, then both lengths, then the value's bytes.
		{of(long(30)+" ", "x"), api.ErrSyntax},
		{of("a b", long(1001)), api.ErrSyntax},
		{of(long(31), "\x00"), api.ErrLarge},
		{of(long(31), " x"), api.ErrLarge},
		{of("a", " "+long(1000)), api.ErrLarge},
		{of("a", long(1000)+"\n"), api.ErrLarge},
		{of("a", long(999)+"\n"), api.ErrSyntax},
		{of("a", long(999)+" "), api.ErrSyntax},
		// Of several fields the first one that has an error.
		{of("a", "\x00", long(31), "x"), api.ErrSyntax},
		{of(long(31), "x", "", ""), api.ErrLarge},
		{of("a", long(1001), "b", "\x00"), api.ErrLarge},
		{of("a", "x", "b", " ", "c", long(1001)), api.ErrSyntax},
		{of("a", "x", "b", "y", "c", long(1001)), api.ErrLarge},
	})
}

// P7: Get, Set, Drop.

func TestGet(t *testing.T) {
	l := of("A", "1", "b", "2", "a", "3", "C-d", "", "c-D", "", "", "4")
	for _, c := range []struct {
		name, want string
		is         bool
	}{
		{"a", "1, 3", true},
		{"A", "1, 3", true},
		{"b", "2", true},
		{"B", "2", true},
		{"c-d", ", ", true},
		{"", "4", true},
		{"ab", "", false},
		{"c", "", false},
		{" a", "", false},
		{"c_d", "", false},
	} {
		if s, is := field.Get(l, c.name); s != c.want || is != c.is {
			t.Errorf("Get %q: %q %v", c.name, s, is)
		}
	}
}

func TestGetOfOneWithoutValue(t *testing.T) {
	if s, is := field.Get(of("a", ""), "A"); s != "" || !is {
		t.Errorf("%q %v", s, is)
	}
	if s, is := field.Get(nil, "a"); s != "" || is {
		t.Errorf("%q %v", s, is)
	}
}

func TestGetOfTheDocument(t *testing.T) {
	l, _, e := field.Parse("a:1\r\nA: 2\r\n\r\n")
	if s, is := field.Get(l, "a"); s != "1, 2" || !is || e != api.OK {
		t.Errorf("%q %v %d", s, is, e)
	}
}

func TestSet(t *testing.T) {
	for _, c := range []struct {
		l           []api.Field
		name, value string
		want        []api.Field
	}{
		{nil, "a", "x", of("a", "x")},
		{of("b", "1"), "a", "x", of("b", "1", "a", "x")},
		{of("a", "1"), "a", "x", of("a", "x")},
		{of("a", "1"), "A", "x", of("A", "x")},
		{of("b", "1", "A", "2", "c", "3"), "a", "x", of("b", "1", "a", "x", "c", "3")},
		{of("b", "1", "A", "2", "c", "3", "a", "4", "b", "5", "A", "6"), "a", "x", of("b", "1", "a", "x", "c", "3", "b", "5")},
		{of("a", "1", "a", "1", "a", "1"), "a", "1", of("a", "1")},
		{of("b", "1", "b", "1"), "a", "x", of("b", "1", "b", "1", "a", "x")},
		{of("b", "1", "a", "2"), "a", "", of("b", "1", "a", "")},
		{of("ab", "1", "a-", "2"), "a", "x", of("ab", "1", "a-", "2", "a", "x")},
	} {
		if m := field.Set(c.l, c.name, c.value); !slices.Equal(m, c.want) {
			t.Errorf("Set(%q, %q, %q): %q", c.l, c.name, c.value, m)
		}
	}
}

func TestDrop(t *testing.T) {
	for _, c := range []struct {
		l    []api.Field
		name string
		want []api.Field
	}{
		{nil, "a", nil},
		{of("a", "1"), "a", nil},
		{of("A", "1", "b", "2", "a", "3"), "a", of("b", "2")},
		{of("A", "1", "b", "2", "a", "3"), "A", of("b", "2")},
		{of("A", "1", "b", "2", "a", "3"), "B", of("A", "1", "a", "3")},
		{of("b", "2", "b", "2"), "a", of("b", "2", "b", "2")},
		{of("ab", "1", "", "2"), "", of("ab", "1")},
		{of("ab", "1", "", "2"), "a", of("ab", "1", "", "2")},
	} {
		if m := field.Drop(c.l, c.name); !slices.Equal(m, c.want) {
			t.Errorf("Drop(%q, %q): %q", c.l, c.name, m)
		}
	}
}

func TestOfWhateverIsInTheFields(t *testing.T) {
	big := long(100000)
	l := append(many(50), of("\x00 \xffQ", "\r\n", big, big, "\u00c4", " x ")...)
	if s, is := field.Get(l, "\x00 \xffq"); s != "\r\n" || !is {
		t.Errorf("%q %v", s, is)
	}
	if s, is := field.Get(l, strings.ToUpper(big)); s != big || !is {
		t.Errorf("%d bytes, %v", len(s), is)
	}
	if s, is := field.Get(l, "a"); s != strings.Repeat("b, ", 49)+"b" || !is {
		t.Errorf("%q %v", s, is)
	}
	// Lower knows the letters A to Z alone.
	if s, is := field.Get(l, "\u00e4"); s != "" || is {
		t.Errorf("%q %v", s, is)
	}
	want := append(many(50), of("\x00 \xffq", big, big, big, "\u00c4", " x ")...)
	if m := field.Set(l, "\x00 \xffq", big); !slices.Equal(m, want) {
		t.Errorf("%.200q", m)
	}
	if m := field.Set(l, "\u00e4", "\n"); !slices.Equal(m, append(slices.Clone(l), of("\u00e4", "\n")...)) {
		t.Errorf("%.200q", m)
	}
	if m := field.Drop(l, "A"); !slices.Equal(m, l[50:]) {
		t.Errorf("%.200q", m)
	}
	if m := field.Drop(l, big); !slices.Equal(m, append(slices.Clone(l[:51]), l[52])) {
		t.Errorf("%.200q", m)
	}
}

// P8: Print.

func TestPrint(t *testing.T) {
	for want, l := range map[string][]api.Field{
		"\r\n":                                    nil,
		"A: 1\r\nb: 2\r\nA: 1\r\n\r\n":            of("A", "1", "b", "2", "A", "1"),
		"a: \r\n\r\n":                             of("a", ""),
		"a: x\ty : z\r\n\r\n":                     of("a", "x\ty : z"),
		strings.Repeat("a: b\r\n", 30) + "\r\n":   many(30),
		long(30) + ": " + long(1000) + "\r\n\r\n": of(long(30), long(1000)),
	} {
		if s, e := field.Print(l); s != want || e != api.OK {
			t.Errorf("Print(%.80q): %.80q %d", l, s, e)
		}
	}
}

// P8: Parse.

type parseCase struct {
	in   string
	l    []api.Field
	n    int
	want api.Errno
}

func checkParses(t *testing.T, cases []parseCase) {
	t.Helper()
	for _, c := range cases {
		l, n, e := field.Parse(c.in)
		if !slices.Equal(l, c.l) || n != c.n || e != c.want || e != api.OK && l != nil {
			t.Errorf("Parse(%.80q, %d bytes): %.80q %d %d, not %.80q %d %d", c.in, len(c.in), l, n, e, c.l, c.n, c.want)
		}
	}
}

func wrong(s string, e api.Errno) parseCase { return parseCase{s, nil, 0, e} }

func TestParse(t *testing.T) {
	checkParses(t, []parseCase{
		{"\r\n", nil, 2, api.OK},
		{"\r\nrest", nil, 2, api.OK},
		{"\r\n\r\n", nil, 2, api.OK},
		{"a:1\r\n\r\n", of("a", "1"), 7, api.OK},
		{"a:1 \t\r\nb-c:  x y\r\n\r\nrest", of("a", "1", "b-c", "x y"), 20, api.OK},
		{"A: 1\r\na: 2\r\nA: 1\r\n\r\n", of("A", "1", "a", "2", "A", "1"), 20, api.OK},
		{"a:\r\n\r\n", of("a", ""), 6, api.OK},
		{"a: \t \r\n\r\n", of("a", ""), 9, api.OK},
		{"a::b: c:\r\n\r\n", of("a", ":b: c:"), 12, api.OK},
		{"a:b\r\n\r\nc:d\r\n\r\n", of("a", "b"), 7, api.OK},
		{"a:b\r\n\r\n\x00\xff", of("a", "b"), 7, api.OK},
		{"a:b\r\n\r\n" + strings.Repeat("\r\n", 5000), of("a", "b"), 7, api.OK},
	})
}

func TestParseShort(t *testing.T) {
	whole := "a:1\r\nb:2\r\n\r\n"
	for i := range len(whole) {
		checkParses(t, []parseCase{wrong(whole[:i], api.ErrShort)})
	}
	checkParses(t, []parseCase{
		{whole, of("a", "1", "b", "2"), len(whole), api.OK},
		// What the last line says is of no matter while it has no end.
		wrong("\x00", api.ErrShort),
		wrong("\r", api.ErrShort),
		wrong("\n", api.ErrShort),
		wrong("\n\r", api.ErrShort),
		wrong("a:1\r\n\r", api.ErrShort),
		wrong("a:1\n\n", api.ErrShort),
		wrong("a:1\r\n :\x00", api.ErrShort),
	})
}

func TestParseWrong(t *testing.T) {
	for _, line := range []string{
		"a", " ", "\t", " a:1", "\ta:1", "a :1", "a\t:1", ":", ":1", " :1", "a b:1", "\"a\":1", "a,b:1", "\u00e4:1",
		"a:\x00", "a:\x01", "a:b\x7f", "a:\u00e4", "a:b\rc", "a:b\nc", "a:b\n", "a:b\r", "a:\nb", "a\n:b", "\na:b", "\ra:b", "a:1\nb:2",
		"\r", "\n", "\x00",
	} {
		checkParses(t, []parseCase{
			wrong(line+"\r\n\r\n", api.ErrSyntax),
			wrong(line+"\r\n", api.ErrSyntax),
			wrong("x:y\r\n"+line+"\r\n\r\n", api.ErrSyntax),
			{"x:y\r\n\r\n" + line + "\r\n\r\n", of("x", "y"), 7, api.OK},
		})
	}
}

func TestParseLineLimit(t *testing.T) {
	pad := strings.Repeat(" ", 1099)
	checkParses(t, []parseCase{
		{"a:" + pad[:1097] + "b\r\n\r\n", of("a", "b"), 1104, api.OK},
		wrong("a:"+pad[:1098]+"b\r\n\r\n", api.ErrLarge),
		wrong(pad+"  \r\n\r\n", api.ErrLarge),
		wrong(pad+" \r\n\r\n", api.ErrSyntax),
		wrong(long(1100)+"\r\n", api.ErrSyntax),
		wrong(long(1101)+"\r\n", api.ErrLarge),
		wrong("x:y\r\n"+long(1101)+"\r\n", api.ErrLarge),
		{"x:y\r\n\r\n" + long(1101) + "\r\n", of("x", "y"), 7, api.OK},
	})
}

func TestParseLimitWithoutEnd(t *testing.T) {
	checkParses(t, []parseCase{
		wrong(long(1101), api.ErrShort),
		wrong(long(1100)+"\r", api.ErrShort),
		wrong(long(1102), api.ErrLarge),
		wrong(long(1101)+"\r", api.ErrLarge),
		// Only what is left of the text counts.
		wrong("a:"+long(1000)+"\r\n"+long(1101), api.ErrShort),
		wrong("a:"+long(1000)+"\r\n"+long(1102), api.ErrLarge),
		wrong("a:b\r\n"+long(1101), api.ErrShort),
		wrong("a:b\r\n"+long(1102), api.ErrLarge),
		wrong("a\r\n"+long(1102), api.ErrSyntax),
		wrong(long(100000), api.ErrLarge),
	})
}

func TestParseFieldLimits(t *testing.T) {
	thirty := strings.Repeat("a: b\r\n", 30)
	checkParses(t, []parseCase{
		{thirty + "\r\n", many(30), 182, api.OK},
		wrong(thirty+"a: b\r\n\r\n", api.ErrLarge),
		wrong(thirty+"a: b\r\n", api.ErrLarge),
		wrong(thirty+" \r\n\r\n", api.ErrLarge),
		wrong(thirty[6:]+" \r\n\r\n", api.ErrSyntax),
		wrong(thirty+"a: b\r", api.ErrShort),
		wrong(thirty, api.ErrShort),
		wrong(thirty+long(1102), api.ErrLarge),
		wrong("a\r\n"+thirty+"\r\n", api.ErrSyntax),
		{long(30) + ":b\r\n\r\n", of(long(30), "b"), 36, api.OK},
		wrong(long(31)+":b\r\n\r\n", api.ErrLarge),
		{"a:" + long(1000) + "\r\n\r\n", of("a", long(1000)), 1006, api.OK},
		{"a: \t" + long(1000) + "\t \r\n\r\n", of("a", long(1000)), 1010, api.OK},
		wrong("a:"+long(1001)+"\r\n\r\n", api.ErrLarge),
	})
}

func TestParseWhichError(t *testing.T) {
	checkParses(t, []parseCase{
		wrong(long(30)+" :b\r\n\r\n", api.ErrSyntax),
		wrong("a b:"+long(1001)+"\r\n\r\n", api.ErrSyntax),
		wrong("a:"+long(1000)+"\n\r\n\r\n", api.ErrLarge),
		wrong(long(31)+":\x00\r\n\r\n", api.ErrLarge),
		wrong("a:\x00\r\n"+long(31)+":b\r\n\r\n", api.ErrSyntax),
		wrong(long(31)+":b\r\na:\x00\r\n\r\n", api.ErrLarge),
		wrong("a\r\nb", api.ErrSyntax),
	})
}

// model is Parse in other words, for short texts, of which nothing is too large.
func model(s string) ([]api.Field, int, api.Errno) {
	var l []api.Field
	at := 0
	for {
		end := at
		for end+1 < len(s) && (s[end] != 13 || s[end+1] != 10) {
			end++
		}
		if end+1 >= len(s) {
			return nil, 0, api.ErrShort
		}
		if end == at {
			return l, end + 2, api.OK
		}
		colon := at
		for colon < end && inToken(s[colon]) {
			colon++
		}
		if colon == at || colon == end || s[colon] != ':' {
			return nil, 0, api.ErrSyntax
		}
		from, to := colon+1, end
		for from < to && (s[from] == 32 || s[from] == 9) {
			from++
		}
		for from < to && (s[to-1] == 32 || s[to-1] == 9) {
			to--
		}
		for i := from; i < to; i++ {
			if !inPlain(s[i]) {
				return nil, 0, api.ErrSyntax
			}
		}
		l = append(l, api.Field{Name: s[at:colon], Value: s[from:to]})
		at = end + 2
	}
}

func TestParseOfShortTexts(t *testing.T) {
	for _, tail := range []string{"", "\r\n", "\r\n\r\n", "\r\nb:c\r\n\r\n"} {
		for s := range texts("a: \t\r\n", 6) {
			l, n, e := model(s + tail)
			checkParses(t, []parseCase{{s + tail, l, n, e}})
		}
	}
}

func TestParseReadsWhatPrintWrites(t *testing.T) {
	var values []string
	for v := range texts("a:, \t\r\n", 4) {
		values = append(values, v)
	}
	for i, v := range values {
		l := of("A", v, "b", values[len(values)-1-i], "c"+strconv.Itoa(i), "")
		s, e := field.Print(l)
		if e != field.Check(l) {
			t.Fatalf("%q: %d", l, e)
		}
		if e == api.OK {
			checkParses(t, []parseCase{{s, l, len(s), api.OK}, {s + "\r\nx", l, len(s), api.OK}, wrong(s[:len(s)-1], api.ErrShort)})
		}
	}
}
