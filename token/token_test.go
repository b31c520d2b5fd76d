package token_test

import (
	"slices"
	"strings"
	"testing"

	"larder/api"
	"larder/token"
)

// P3.

const tokenBytes = "abcdefghijklmnopqrstuvwxyzABCDEFGHIJKLMNOPQRSTUVWXYZ0123456789" + "!#$%&'*+-.^_`|~"

func TestIsTokenOfEachByte(t *testing.T) {
	for i := range 256 {
		one := string([]byte{byte(i)})
		want := strings.Contains(tokenBytes, one)
		for _, s := range []string{one, one + "a", "a" + one, "a" + one + "b"} {
			if token.IsToken(s) != want {
				t.Errorf("IsToken(%q) is not %v", s, want)
			}
		}
	}
}

func TestIsTokenOfTexts(t *testing.T) {
	for _, s := range []string{tokenBytes, "x-Y~1", "*", strings.Repeat("a", 5000)} {
		if !token.IsToken(s) {
			t.Errorf("%q is a TOKEN", s)
		}
	}
	for _, s := range []string{"", " ", "a b", " a", "a\t", "a,b", "a=b", "\"a\"", "a\x00", "\xc3\xa4", "\u212a", strings.Repeat("a", 5000) + ";"} {
		if token.IsToken(s) {
			t.Errorf("%q is no TOKEN", s)
		}
	}
}

func TestLowerOfEachByte(t *testing.T) {
	for i := range 256 {
		c := byte(i)
		want := c
		if at := strings.IndexByte("ABCDEFGHIJKLMNOPQRSTUVWXYZ", c); at >= 0 {
			want = "abcdefghijklmnopqrstuvwxyz"[at]
		}
		if s := token.Lower(string([]byte{c, 'X', c})); s != string([]byte{want, 'x', want}) {
			t.Errorf("Lower of byte %d: %q", i, s)
		}
	}
}

func TestLowerOfTexts(t *testing.T) {
	for s, want := range map[string]string{
		"":                          "",
		"Content-TYPE":              "content-type",
		"Ab\xc4":                    "ab\xc4",
		"\u00c4\u0130\u212a\u03a3A": "\u00c4\u0130\u212a\u03a3a",
		"@[`{":                      "@[`{",
		"\xff\xfeZ\x00":             "\xff\xfez\x00",
	} {
		if l := token.Lower(s); l != want {
			t.Errorf("Lower(%q): %q", s, l)
		}
	}
	if s := token.Lower(strings.Repeat("Q", 100000)); s != strings.Repeat("q", 100000) {
		t.Error("Lower of a long text")
	}
}

func plain(c byte) bool { return c == 9 || c >= 32 && c <= 126 }

func TestIsPlainOfEachByte(t *testing.T) {
	for i := range 256 {
		one := string([]byte{byte(i)})
		for _, s := range []string{one, one + "a", "a" + one, "a" + one + "b"} {
			if token.IsPlain(s) != plain(byte(i)) {
				t.Errorf("IsPlain(%q) is not %v", s, plain(byte(i)))
			}
		}
	}
	if !token.IsPlain("") {
		t.Error("the empty text has no other bytes than PLAIN ones")
	}
}

type lineCase struct {
	in           string
	line, behind string
	err          api.Errno
}

func TestCutLine(t *testing.T) {
	for _, c := range []lineCase{
		{"\r\n", "", "", api.OK},
		{"abc\r\n", "abc", "", api.OK},
		{"abc\r\nd\r\n\r\nefghi", "abc", "d\r\n\r\nefghi", api.OK},
		{"\r\r\n", "\r", "", api.OK},
		{"\n\r\n", "\n", "", api.OK},
		{"abcd\r\n", "", "", api.ErrLarge},
		{"abc\r\r\n", "", "", api.ErrLarge},
		{"", "", "", api.ErrShort},
		{"a\n", "", "", api.ErrShort},
		{"abc\r", "", "", api.ErrShort},
		{"abcd", "", "", api.ErrShort},
		{"abcd\r", "", "", api.ErrLarge},
		{"abcde", "", "", api.ErrLarge},
	} {
		if line, behind, e := token.CutLine(c.in, 3); line != c.line || behind != c.behind || e != c.err {
			t.Errorf("CutLine(%q): %q %q %d, not %q %q %d", c.in, line, behind, e, c.line, c.behind, c.err)
		}
	}
}

// P4.

type textCase struct {
	in, out string
	err     api.Errno
}

func checkTexts(t *testing.T, name string, call func(string) (string, api.Errno), cases []textCase) {
	t.Helper()
	for _, c := range cases {
		if s, e := call(c.in); s != c.out || e != c.err {
			t.Errorf("%s(%.40q, %d bytes): %.40q %d, not %.40q %d", name, c.in, len(c.in), s, e, c.out, c.err)
		}
	}
}

func TestQuote(t *testing.T) {
	checkTexts(t, "Quote", token.Quote, []textCase{
		{``, `""`, api.OK},
		{`a`, `"a"`, api.OK},
		{"a b\tc", "\"a b\tc\"", api.OK},
		{`"`, `"\""`, api.OK},
		{`\`, `"\\"`, api.OK},
		{`"a"`, `"\"a\""`, api.OK},
		{`\a\`, `"\\a\\"`, api.OK},
		{`a"b\c`, `"a\"b\\c"`, api.OK},
		{`\"`, `"\\\""`, api.OK},
		{"a\n", "", api.ErrSyntax},
		{"\x00", "", api.ErrSyntax},
		{"\u00e4", "", api.ErrSyntax},
	})
}

func TestQuoteLimit(t *testing.T) {
	a, b := strings.Repeat("a", 1000), strings.Repeat(`\`, 1000)
	checkTexts(t, "Quote", token.Quote, []textCase{
		{a, `"` + a + `"`, api.OK},
		{b, `"` + b + b + `"`, api.OK},
		{a + "a", "", api.ErrLarge},
		{a[1:] + "\n", "", api.ErrSyntax},
		{a + "\n", "", api.ErrLarge},
		{"\n" + a, "", api.ErrLarge},
	})
}

func TestQuotedBytes(t *testing.T) {
	for i := range 256 {
		c := byte(i)
		text := string([]byte{'x', c, 'y'})
		want := api.OK
		if !plain(c) {
			want = api.ErrSyntax
		}
		quoted, e := token.Quote(text)
		if e != want || want != api.OK && quoted != "" {
			t.Errorf("Quote of byte %d: %q %d", i, quoted, e)
		}
		// Behind a `\` each PLAIN byte may stand, and no other one.
		back, e := token.Unquote(string([]byte{'"', 'x', '\\', c, 'y', '"'}))
		if e != want || want == api.OK && back != text || want != api.OK && back != "" {
			t.Errorf("Unquote of byte %d behind a sign: %q %d", i, back, e)
		}
		if c == '"' || c == '\\' {
			continue
		}
		back, e = token.Unquote(`"` + text + `"`)
		if e != want || want == api.OK && back != text || want != api.OK && back != "" {
			t.Errorf("Unquote of byte %d: %q %d", i, back, e)
		}
	}
}

func TestUnquote(t *testing.T) {
	checkTexts(t, "Unquote", token.Unquote, []textCase{
		{`""`, ``, api.OK},
		{`"a"`, `a`, api.OK},
		{`" a, b;	"`, ` a, b;	`, api.OK},
		{`"\""`, `"`, api.OK},
		{`"\\"`, `\`, api.OK},
		{`"a\b"`, `ab`, api.OK},
		{`"\a"`, `a`, api.OK},
		{`"a\"b\\c"`, `a"b\c`, api.OK},
		{`"\\\""`, `\"`, api.OK},
		{`"\\\\"`, `\\`, api.OK},
		{`"\\a\\"`, `\a\`, api.OK},
	})
}

func TestUnquoteWrong(t *testing.T) {
	for _, s := range []string{
		``, `"`, `a`, `ab`, `a"`, `"a`, `'a'`, ` "a"`, `"a" `,
		`"""`, `"a"b"`, `"""a"`, `"a"""`, `"\\""`,
		`"\"`, `"a\"`, `"\\\"`, `"a\\\"`,
		"\"\n\"", "\"a\\\n\"", "\"\x7f\"", "\"\xc3\xa4\"", "\n\"a\"", "\"a\"\n",
	} {
		if text, e := token.Unquote(s); text != "" || e != api.ErrSyntax {
			t.Errorf("Unquote(%q): %q %d", s, text, e)
		}
	}
}

func TestUnquoteLimit(t *testing.T) {
	a, b := strings.Repeat("a", 1000), strings.Repeat(`\\`, 1000)
	checkTexts(t, "Unquote", token.Unquote, []textCase{
		{`"` + a + `"`, a, api.OK},
		{`"` + b + `"`, b[1000:], api.OK},
		{`"\` + a + `"`, a, api.OK},
		{`"` + a + `a"`, "", api.ErrLarge},
		{`"` + b + `\\"`, "", api.ErrLarge},
		{`"` + b + `a"`, "", api.ErrLarge},
		// What can't be read goes ahead of what is too long.
		{`"` + a + "a\n\"", "", api.ErrSyntax},
		{`"` + a + `a"a"`, "", api.ErrSyntax},
		{`"` + a + `a\"`, "", api.ErrSyntax},
		{`"` + a + `a`, "", api.ErrSyntax},
		{a + `a"`, "", api.ErrSyntax},
	})
}

func TestReadValue(t *testing.T) {
	a := strings.Repeat("a", 1000)
	for s, want := range map[string]string{
		"a":               "a",
		"A-b":             "A-b",
		tokenBytes:        tokenBytes,
		a + a:             a + a,
		`""`:              "",
		`"a b"`:           "a b",
		`"\"\\\c, ="`:     `"\c, =`,
		"\"\t\"":          "\t",
		`"` + a + `"`:     a,
		`"\` + a + `"`:    a,
		`"` + a[1:] + `"`: a[1:],
	} {
		if got, ok := token.ReadValue(s); got != want || !ok {
			t.Errorf("ReadValue(%.60q): %.60q %v", s, got, ok)
		}
	}
	for _, s := range []string{"", " ", "a b", " a", "a ", "a=b", "a,b", `"`, `"a`, `a"`, `"a"b`, `b"a"`, `"a""b"`, `"a\"`, "\"\n\"", "\u00e4", `"` + a + `a"`} {
		if got, ok := token.ReadValue(s); got != "" || ok {
			t.Errorf("ReadValue(%.60q): %.60q %v", s, got, ok)
		}
	}
}

func TestReadValueAnswersACopy(t *testing.T) {
	for _, s := range []string{"abc", `"abc"`} {
		b := []byte(s)
		got, _ := token.ReadValue(borrowed(b))
		clear(b)
		if got != "abc" {
			t.Errorf("%q: what was read of it lies in it", s)
		}
	}
}

func TestUnquoteReadsWhatQuoteWrites(t *testing.T) {
	for s := range texts("a\"\\ \t,\n", 5) {
		quoted, e := token.Quote(s)
		if strings.Contains(s, "\n") {
			if quoted != "" || e != api.ErrSyntax {
				t.Fatalf("Quote(%q): %q %d", s, quoted, e)
			}
			continue
		}
		if back, f := token.Unquote(quoted); e != api.OK || f != api.OK || back != s {
			t.Fatalf("%q, quoted %q %d, unquoted %q %d", s, quoted, e, back, f)
		}
	}
}

// P5.

func TestTrim(t *testing.T) {
	for s, want := range map[string]string{
		"":              "",
		" \t ":          "",
		"a":             "a",
		"\t a \tb\t ":   "a \tb",
		"\n a\r":        "\n a\r",
		"\u00a0a\u00a0": "\u00a0a\u00a0",
		" \xff\x00 ":    "\xff\x00",
	} {
		if got := token.Trim(s); got != want {
			t.Errorf("Trim(%q): %q", s, got)
		}
	}
}

type splitCase struct {
	in  string
	out []string
	err api.Errno
}

func checkSplits(t *testing.T, cases []splitCase) {
	t.Helper()
	for _, c := range cases {
		l, e := token.Split(c.in)
		if !slices.Equal(l, c.out) || e != c.err || e != api.OK && l != nil {
			t.Errorf("Split(%.60q, %d bytes): %.60q %d, not %.60q %d", c.in, len(c.in), l, e, c.out, c.err)
		}
	}
}

func TestSplit(t *testing.T) {
	checkSplits(t, []splitCase{
		{`a, "b,c"`, []string{`a`, `"b,c"`}, api.OK},
		{`a`, []string{`a`}, api.OK},
		{`a,b`, []string{`a`, `b`}, api.OK},
		{`b,a,b`, []string{`b`, `a`, `b`}, api.OK},
		{`d e,f`, []string{`d e`, `f`}, api.OK},
		{`a;b=c, d`, []string{`a;b=c`, `d`}, api.OK},
		{"a\nb,\xff\x00", []string{"a\nb", "\xff\x00"}, api.OK},
	})
}

func TestSplitBlanks(t *testing.T) {
	checkSplits(t, []splitCase{
		{" \ta \t,\t b  c\t", []string{"a", "b  c"}, api.OK},
		{`" a "  ,b`, []string{`" a "`, `b`}, api.OK},
		// Other bytes are no BLANKS.
		{"\na\r,\va\f,\u00a0", []string{"\na\r", "\va\f", "\u00a0"}, api.OK},
		{"a\x00, \x00", []string{"a\x00", "\x00"}, api.OK},
	})
}

func TestSplitEmptyParts(t *testing.T) {
	checkSplits(t, []splitCase{
		{``, nil, api.OK},
		{`,`, nil, api.OK},
		{" \t", nil, api.OK},
		{" ,\t, ", nil, api.OK},
		{`,a,, ,b,`, []string{`a`, `b`}, api.OK},
		{`"",""`, []string{`""`, `""`}, api.OK},
	})
}

func TestSplitQuoted(t *testing.T) {
	checkSplits(t, []splitCase{
		{`"a,b"`, []string{`"a,b"`}, api.OK},
		{`",",","`, []string{`","`, `","`}, api.OK},
		{`a"b,c"d,e`, []string{`a"b,c"d`, `e`}, api.OK},
		{`"a""b,c",d`, []string{`"a""b,c"`, `d`}, api.OK},
		{`"a\",b",c`, []string{`"a\",b"`, `c`}, api.OK},
		{`"a\\",b`, []string{`"a\\"`, `b`}, api.OK},
		{`"a\\\",b",c`, []string{`"a\\\",b"`, `c`}, api.OK},
		{`"a\,b"`, []string{`"a\,b"`}, api.OK},
		// Outside of `"`s a `\` takes nothing along.
		{`a\,b`, []string{`a\`, `b`}, api.OK},
		{`\"a,b"`, []string{`\"a,b"`}, api.OK},
		{`a,\`, []string{`a`, `\`}, api.OK},
	})
}

func TestSplitNoNextQuote(t *testing.T) {
	for _, s := range []string{`"`, `a,"b`, `"a,b`, `"a"b"`, `"a\"`, `"\`, `"a\\\"`, `"""`, `a"`, `\"`, `,,"`} {
		checkSplits(t, []splitCase{{s, nil, api.ErrSyntax}})
	}
}

func TestSplitLimits(t *testing.T) {
	a := strings.Repeat("a", 1000)
	twenty := slices.Repeat([]string{"a"}, 20)
	many := strings.Join(twenty, ",")
	checkSplits(t, []splitCase{
		{a, []string{a}, api.OK},
		{a + "a", nil, api.ErrLarge},
		{a + " ", nil, api.ErrLarge},
		{a[2:] + ",b", []string{a[2:], "b"}, api.OK},
		{strings.Repeat(",", 1000), nil, api.OK},
		{strings.Repeat(",", 1001), nil, api.ErrLarge},
		{many, twenty, api.OK},
		{many + ",a", nil, api.ErrLarge},
		// Parts that are left out do not count.
		{" ,," + many + ",, ,", twenty, api.OK},
		{strings.Repeat(" ,", 30) + "a", []string{"a"}, api.OK},
	})
}

func TestSplitWhichError(t *testing.T) {
	a := strings.Repeat("a", 1000)
	many := strings.Repeat("a,", 21)
	checkSplits(t, []splitCase{
		{a + `"`, nil, api.ErrLarge},
		{a[1:] + `"`, nil, api.ErrSyntax},
		{many + `"`, nil, api.ErrSyntax},
		{`"` + many, nil, api.ErrSyntax},
		{strings.Repeat("a,", 501), nil, api.ErrLarge},
	})
}

// P6.

type paramsCase struct {
	in    string
	value string
	list  []api.Param
	err   api.Errno
}

func checkParams(t *testing.T, cases []paramsCase) {
	t.Helper()
	for _, c := range cases {
		v, l, e := token.Params(c.in)
		if v != c.value || !slices.Equal(l, c.list) || e != c.err || e != api.OK && l != nil {
			t.Errorf("Params(%.60q, %d bytes): %.60q %.60q %d, not %.60q %.60q %d", c.in, len(c.in), v, l, e, c.value, c.list, c.err)
		}
	}
}

func one(name, value string) []api.Param { return []api.Param{{Name: name, Value: value}} }

func TestParamsValue(t *testing.T) {
	checkParams(t, []paramsCase{
		{"text/html", "text/html", nil, api.OK},
		{" \ttext/html\t ", "text/html", nil, api.OK},
		{"a b ;c=d", "a b", one("c", "d"), api.OK},
		{"Text/HTML;c=d", "Text/HTML", one("c", "d"), api.OK},
		{`"a;b";c=d`, `"a;b"`, one("c", "d"), api.OK},
		{`x"a;b"y;c=d`, `x"a;b"y`, one("c", "d"), api.OK},
		{`"a\";b";c=d`, `"a\";b"`, one("c", "d"), api.OK},
		{`"a\\";c=d`, `"a\\"`, one("c", "d"), api.OK},
		{`a\;c=d`, `a\`, one("c", "d"), api.OK},
		{`""`, `""`, nil, api.OK},
		{"a=b", "a=b", nil, api.OK},
		{"a,b", "a,b", nil, api.OK},
		{"\n\xff;c=d", "\n\xff", one("c", "d"), api.OK},
	})
}

func TestParamsList(t *testing.T) {
	checkParams(t, []paramsCase{
		{"a;b=c;d=e", "a", []api.Param{{Name: "b", Value: "c"}, {Name: "d", Value: "e"}}, api.OK},
		{"a \t; \tb=c\t ;\td=e ", "a", []api.Param{{Name: "b", Value: "c"}, {Name: "d", Value: "e"}}, api.OK},
		{"a;b=1;B=2;b=1", "a", []api.Param{{Name: "b", Value: "1"}, {Name: "b", Value: "2"}, {Name: "b", Value: "1"}}, api.OK},
		{"a;ChArSeT=UTF-8", "a", one("charset", "UTF-8"), api.OK},
		{"a;!#$%&'*+-.^_`|~=!#$%&'*+-.^_`|~", "a", one("!#$%&'*+-.^_`|~", "!#$%&'*+-.^_`|~"), api.OK},
	})
}

func TestParamsQuoted(t *testing.T) {
	checkParams(t, []paramsCase{
		{`a;b=""`, "a", one("b", ""), api.OK},
		{`a;B="C"`, "a", one("b", "C"), api.OK},
		{`a;b=" c; d=e "`, "a", one("b", " c; d=e "), api.OK},
		{`a;b="\"\\\c"`, "a", one("b", `"\c`), api.OK},
		{`a;b="x\";y";c=d`, "a", []api.Param{{Name: "b", Value: `x";y`}, {Name: "c", Value: "d"}}, api.OK},
		{`a;b="x\\";c=d`, "a", []api.Param{{Name: "b", Value: `x\`}, {Name: "c", Value: "d"}}, api.OK},
		{`a;b="="`, "a", one("b", "="), api.OK},
		{"a;b=\"\t\"", "a", one("b", "\t"), api.OK},
	})
}

func TestParamsNothingBetween(t *testing.T) {
	checkParams(t, []paramsCase{
		{"a;", "a", nil, api.OK},
		{"a;;", "a", nil, api.OK},
		{"a; \t; ", "a", nil, api.OK},
		{"a;;b=c; ;", "a", one("b", "c"), api.OK},
	})
}

func TestParamsWrong(t *testing.T) {
	for _, s := range []string{
		"", " \t", ";", ";b=c", " ;b=c", ";;",
		"a;b", "a; b ", "a;=", "a;=c", "a;b=", "a;b= ;c=d", "a;b =c", "a;b= c", "a;b=c d", "a;b c=d", "a;b=c=d", "a;b==c",
		"a;\"b\"=c", "a;b,c=d", "a;b=c,d", "a;b=\xc3\xa4", "a;\xc3\xa4=b", "a;b\n=c", "a;\nb=c", "a;\n",
		"a;b=\"c\"d", "a;b=d\"c\"", "a;b=\"c\"\"d\"", "a;b=\"\n\"", "a;b=\"\x7f\"", "a;b=\"c\" \"d\"", "a;b=c\\",
		`"`, `"a`, `"a;b=c`, `a";b=c`, `a;b="`, `a;b="c`, `a;b="c\"`, `a;b="c;d=e`, `a;b=c;"`, `"a\"`,
		"a;b=c;d", "a;b;c=d",
	} {
		checkParams(t, []paramsCase{{s, "", nil, api.ErrSyntax}})
	}
}

func TestParamsLimits(t *testing.T) {
	a := strings.Repeat("a", 1000)
	twenty := slices.Repeat(one("b", "c"), 20)
	many := "a" + strings.Repeat(";b=c", 20)
	checkParams(t, []paramsCase{
		{a, a, nil, api.OK},
		{a + "a", "", nil, api.ErrLarge},
		{a + " ", "", nil, api.ErrLarge},
		{"a;b=" + a[4:], "a", one("b", a[4:]), api.OK},
		{"a;b=" + a[3:], "", nil, api.ErrLarge},
		{`a;b="` + a[6:] + `"`, "a", one("b", a[6:]), api.OK},
		{"a" + strings.Repeat(";", 999), "a", nil, api.OK},
		{many, "a", twenty, api.OK},
		{many + ";b=c", "", nil, api.ErrLarge},
		// Where nothing stands there is no parameter to count.
		{many + "; ;;", "a", twenty, api.OK},
	})
}

func TestParamsWhichError(t *testing.T) {
	a := strings.Repeat("a", 1000)
	many := strings.Repeat(";b=c", 21)
	checkParams(t, []paramsCase{
		{a + `"`, "", nil, api.ErrLarge},
		{strings.Repeat(" ", 1001), "", nil, api.ErrLarge},
		{strings.Repeat(";b=c", 251), "", nil, api.ErrLarge},
		{many, "", nil, api.ErrSyntax},
		{"a" + many + ";b", "", nil, api.ErrSyntax},
		{"a;b" + many, "", nil, api.ErrSyntax},
		{"a" + many + `;b="`, "", nil, api.ErrSyntax},
		{"a" + many + ";b=\"\n\"", "", nil, api.ErrSyntax},
	})
}
