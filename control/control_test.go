package control_test

import (
	"fmt"
	"regexp"
	"slices"
	"strings"
	"testing"

	"larder/api"
	"larder/control"
)

func long(n int) string { return strings.Repeat("x", n) }

func one(c int) string { return string([]byte{byte(c)}) }

// bare is a directive without an argument.
func bare(name string) api.Directive { return api.Directive{Name: name} }

func with(name, arg string) api.Directive {
	return api.Directive{Name: name, HasArg: true, Arg: arg}
}

func of(l ...api.Directive) []api.Directive { return l }

// show answers directives for what a test says.
func show(l []api.Directive) string {
	var b strings.Builder
	for _, d := range l {
		fmt.Fprintf(&b, "{%.60q %v %.60q} ", d.Name, d.HasArg, d.Arg)
	}
	return b.String()
}

const tokenBytes = "abcdefghijklmnopqrstuvwxyz0123456789!#$%&'*+-.^_`|~"

// P28: Print.

func checkPrint(t *testing.T, l []api.Directive, want string, err api.Errno) {
	t.Helper()
	if s, e := control.Print(l); s != want || e != err {
		t.Errorf("Print(%.400s): %.200q %d, not %.200q %d", show(l), s, e, want, err)
	}
}

func TestPrint(t *testing.T) {
	for want, l := range map[string][]api.Directive{
		"no-cache":                          of(bare("no-cache")),
		"max-age=5":                         of(with("max-age", "5")),
		"a=B-c":                             of(with("a", "B-c")),
		`a=""`:                              of(with("a", "")),
		`a="b c"`:                           of(with("a", "b c")),
		`a="b,c"`:                           of(with("a", "b,c")),
		`a=" "`:                             of(with("a", " ")),
		`a="="`:                             of(with("a", "=")),
		"a=\"\t\"":                          of(with("a", "\t")),
		`a="\"B\" \\"`:                      of(with("a", `"B" \`)),
		`b, a, b`:                           of(bare("b"), bare("a"), bare("b")),
		`max-age=5, foo="a,b", no-cache`:    of(with("max-age", "5"), with("foo", "a,b"), bare("no-cache")),
		`a, a=1, a="", a`:                   of(bare("a"), with("a", "1"), with("a", ""), bare("a")),
		tokenBytes + "=" + tokenBytes + "Z": of(with(tokenBytes, tokenBytes+"Z")),
	} {
		checkPrint(t, l, want, api.OK)
		checkParse(t, want, l, api.OK)
	}
	checkPrint(t, nil, "", api.OK)
	checkPrint(t, of(), "", api.OK)
}

func TestPrintWrongNames(t *testing.T) {
	for _, name := range []string{"", " ", "A", "Z", "aB", "No-Cache", "a b", " a", "a ", "a=", "=a", "a=b", "a,b", "a;b", `"a"`, `"`, "a\n", "\x00", "\u00e4", "\u212a", long(1000) + "X", long(1<<16) + " "} {
		checkPrint(t, of(bare(name)), "", api.ErrSyntax)
		checkPrint(t, of(with(name, "5")), "", api.ErrSyntax)
		checkPrint(t, of(bare("a"), bare(name)), "", api.ErrSyntax)
		checkPrint(t, of(bare(name), with("a", "b")), "", api.ErrSyntax)
	}
}

func TestPrintWrongArgs(t *testing.T) {
	for _, arg := range []string{"\n", "a\r\nb", "a\x00", "\x1f", "\x7f", "\u00e4", "\xff", strings.Repeat(" ", 999) + "\n"} {
		checkPrint(t, of(with("a", arg)), "", api.ErrSyntax)
		checkPrint(t, of(bare("a"), with("a", arg), bare("a")), "", api.ErrSyntax)
	}
	for _, arg := range []string{" ", "5", "a", `""`, "\n", long(1001), strings.Repeat(" ", 1001)} {
		checkPrint(t, of(api.Directive{Name: "a", Arg: arg}), "", api.ErrSyntax)
		checkPrint(t, of(with("a", "5"), api.Directive{Name: "a", Arg: arg}), "", api.ErrSyntax)
	}
}

func TestEachByteOfADirective(t *testing.T) {
	for c := range 256 {
		for _, s := range []string{one(c), one(c) + "x", "x" + one(c), "x" + one(c) + "y"} {
			switch {
			case strings.Contains(tokenBytes, one(c)):
				checkPrint(t, of(bare(s)), s, api.OK)
				checkPrint(t, of(with("a", s), with(s, "b")), "a="+s+", "+s+"=b", api.OK)
			case c >= 'A' && c <= 'Z':
				checkPrint(t, of(bare(s)), "", api.ErrSyntax)
				checkPrint(t, of(with("a", s)), "a="+s, api.OK)
			case c == '"' || c == '\\':
				checkPrint(t, of(bare(s)), "", api.ErrSyntax)
				checkPrint(t, of(with("a", s)), `a="`+strings.ReplaceAll(s, one(c), `\`+one(c))+`"`, api.OK)
			case c >= 32 && c <= 126 || c == 9:
				checkPrint(t, of(bare(s)), "", api.ErrSyntax)
				checkPrint(t, of(with("a", s)), `a="`+s+`"`, api.OK)
			default:
				checkPrint(t, of(bare(s)), "", api.ErrSyntax)
				checkPrint(t, of(with("a", s)), "", api.ErrSyntax)
			}
		}
	}
}

func TestPrintLimits(t *testing.T) {
	many := func(n int) []api.Directive { return slices.Repeat(of(bare("a")), n) }
	checkPrint(t, many(20), strings.Repeat("a, ", 19)+"a", api.OK)
	checkPrint(t, many(21), "", api.ErrLarge)
	checkPrint(t, many(1<<16), "", api.ErrLarge)
	for _, c := range []struct {
		l    func(n int) []api.Directive
		most int
	}{
		{func(n int) []api.Directive { return of(bare(long(n))) }, 1000},
		{func(n int) []api.Directive { return of(with("a", long(n))) }, 998},
		{func(n int) []api.Directive { return of(with(long(n), "a")) }, 998},
		{func(n int) []api.Directive { return of(with(long(n), "")) }, 997},
		{func(n int) []api.Directive { return of(with("a", strings.Repeat(" ", n))) }, 996},
		{func(n int) []api.Directive { return of(with("a", strings.Repeat(`"`, n))) }, 498},
		{func(n int) []api.Directive { return of(with("a", strings.Repeat(`\`, n))) }, 498},
		{func(n int) []api.Directive { return of(bare(long(499)), bare(long(n))) }, 499},
		{func(n int) []api.Directive { return append(many(19), bare(long(n))) }, 943},
	} {
		for _, n := range []int{c.most - 1, c.most, c.most + 1, c.most + 2, 1000, 1001, 1 << 16} {
			s, e := control.Print(c.l(n))
			if n > c.most && (s != "" || e != api.ErrLarge) || n <= c.most && (len(s) < 998 || len(s) > 1000 || e != api.OK) {
				t.Errorf("Print(%.400s): %d bytes %d", show(c.l(n)), len(s), e)
			}
			if n <= c.most {
				checkParse(t, s, c.l(n), api.OK)
			}
		}
	}
}

func TestPrintWhichError(t *testing.T) {
	wide := with("a", strings.Repeat(" ", 1001))
	wrong := with("a", "\n")
	many := slices.Repeat(of(bare("a")), 21)
	// Of several directives the first one that is wrong.
	checkPrint(t, of(wide), "", api.ErrLarge)
	checkPrint(t, of(wide, wrong), "", api.ErrLarge)
	checkPrint(t, of(wide, bare("")), "", api.ErrLarge)
	checkPrint(t, of(wrong, wide), "", api.ErrSyntax)
	checkPrint(t, of(bare("A"), wide), "", api.ErrSyntax)
	// Of one directive the name goes ahead of the argument, and its bytes behind its length.
	checkPrint(t, of(with("A", wide.Arg)), "", api.ErrSyntax)
	checkPrint(t, of(with("a", wide.Arg+"\n")), "", api.ErrLarge)
	checkPrint(t, of(with("a", "\n"+wide.Arg)), "", api.ErrLarge)
	checkPrint(t, of(with("a", wide.Arg[1:]+"\n"), wide), "", api.ErrLarge)
	checkPrint(t, of(with("a", wide.Arg[2:]+"\n"), wide), "", api.ErrSyntax)
	// What is wrong goes ahead of too many, and of too many bytes in all.
	checkPrint(t, append(slices.Clone(many), wrong), "", api.ErrSyntax)
	checkPrint(t, append(of(bare("")), many...), "", api.ErrSyntax)
	checkPrint(t, append(slices.Clone(many), api.Directive{Name: "a", Arg: "b"}), "", api.ErrSyntax)
	checkPrint(t, of(bare(long(1001)), wrong), "", api.ErrSyntax)
	checkPrint(t, of(with("a", long(1001)), bare("A")), "", api.ErrSyntax)
	checkPrint(t, of(with("a", wide.Arg[1:]), wrong), "", api.ErrSyntax)
}

// P28: Parse.

func checkParse(t *testing.T, s string, want []api.Directive, err api.Errno) {
	t.Helper()
	if l, e := control.Parse(s); !slices.Equal(l, want) || e != err {
		t.Errorf("Parse(%.200q): %.400s%d, not %.400s%d", s, show(l), e, show(want), err)
	}
}

func TestParse(t *testing.T) {
	for s, want := range map[string][]api.Directive{
		"":                                nil,
		" \t":                             nil,
		",":                               nil,
		" ,\t,, ":                         nil,
		"no-cache":                        of(bare("no-cache")),
		"No-Cache":                        of(bare("no-cache")),
		"Max-Age=5":                       of(with("max-age", "5")),
		`Max-Age="5"`:                     of(with("max-age", "5")),
		"MAX-AGE=AbC":                     of(with("max-age", "AbC")),
		`a=""`:                            of(with("a", "")),
		`a="\""`:                          of(with("a", `"`)),
		`a="\\"`:                          of(with("a", `\`)),
		`a="\b\,c"`:                       of(with("a", "b,c")),
		`a=" B "`:                         of(with("a", " B ")),
		`a="b=c"`:                         of(with("a", "b=c")),
		"a,b":                             of(bare("a"), bare("b")),
		"\ta ,\tB=c , ,d=\"e, f\"\t,":     of(bare("a"), with("b", "c"), with("d", "e, f")),
		`a,A,a=1,A="2"`:                   of(bare("a"), bare("a"), with("a", "1"), with("a", "2")),
		`Max-Age=5, foo="a,b",no-cache`:   of(with("max-age", "5"), with("foo", "a,b"), bare("no-cache")),
		`a="b\",c",d`:                     of(with("a", `b",c`), bare("d")),
		`a="b\\",c="d"`:                   of(with("a", `b\`), with("c", "d")),
		tokenBytes + "Z=" + tokenBytes:    of(with(tokenBytes+"z", tokenBytes)),
		`private="Set-Cookie, X", public`: of(with("private", "Set-Cookie, X"), bare("public")),
	} {
		checkParse(t, s, want, api.OK)
	}
}

func TestParseWrong(t *testing.T) {
	for _, s := range []string{"=", "=a", `="a"`, "a=", "a b", "a =b", "a= b", "a = b", "a\t=b", "a==b", "a=b=c", "a=b c", `a="b"c`, `a=b"c"`, `a="b""c"`, `a="b" "c"`, `"a"`, `"a"=b`, `"a=b"`, "a;b", "a=b;c", "a:b", "(a)", "a/b", `a\`, `a=\`, `a=\b`, "a='b c'",
		`"`, `a"`, `a="`, `a="b`, `a="b\"`, `a="b\\\"`, `a=b"`, `a="b",c="`, `"",a`, `""`,
		"a\n", "\na", "a\r\nb", "a=\n", "a=\"\n\"", "a=\"\\\n\"", "a=\"b\x00\"", "a=\"\x7f\"", "a=\"\u00e4\"", "\u00e4", "a=\u00e4", "\u212a", "a\u00a0", "\x00"} {
		checkParse(t, s, nil, api.ErrSyntax)
		checkParse(t, "x, "+s, nil, api.ErrSyntax)
		checkParse(t, s+",y=1", nil, api.ErrSyntax)
	}
}

func TestParseLimits(t *testing.T) {
	many := func(n int) string { return strings.Repeat("a,", n) }
	twenty := slices.Repeat(of(bare("a")), 20)
	blanks := strings.Repeat(" ", 1000)
	checkParse(t, many(20), twenty, api.OK)
	checkParse(t, many(20)+blanks[:960], twenty, api.OK)
	checkParse(t, many(20)+blanks[:961], nil, api.ErrLarge)
	checkParse(t, strings.Repeat(" ,", 300)+many(20)+",,", twenty, api.OK)
	checkParse(t, many(21), nil, api.ErrLarge)
	checkParse(t, many(500), nil, api.ErrLarge)
	checkParse(t, blanks, nil, api.OK)
	checkParse(t, blanks+" ", nil, api.ErrLarge)
	checkParse(t, long(1000), of(bare(long(1000))), api.OK)
	checkParse(t, long(1001), nil, api.ErrLarge)
	checkParse(t, "a="+long(998), of(with("a", long(998))), api.OK)
	checkParse(t, "a="+long(999), nil, api.ErrLarge)
	checkParse(t, `a="`+long(996)+`"`, of(with("a", long(996))), api.OK)
	checkParse(t, `a="`+long(997)+`"`, nil, api.ErrLarge)
	checkParse(t, `a="`+strings.Repeat(`\"`, 498)+`"`, of(with("a", strings.Repeat(`"`, 498))), api.OK)
	checkParse(t, long(1<<16), nil, api.ErrLarge)
}

// TestParseWhichError: what token.Split says goes ahead of a part that is no directive.
func TestParseWhichError(t *testing.T) {
	many := strings.Repeat("a,", 20)
	checkParse(t, many+"a b", nil, api.ErrLarge)
	checkParse(t, "a b,"+many, nil, api.ErrLarge)
	checkParse(t, "=,"+many+"=", nil, api.ErrLarge)
	checkParse(t, many[2:]+"a b", nil, api.ErrSyntax)
	checkParse(t, many+`a="`, nil, api.ErrSyntax)
	checkParse(t, "a b"+strings.Repeat(" ", 998), nil, api.ErrLarge)
	checkParse(t, "a b"+strings.Repeat(" ", 997), nil, api.ErrSyntax)
	checkParse(t, `"`+long(1000), nil, api.ErrLarge)
	checkParse(t, `"`+long(999), nil, api.ErrSyntax)
}

const (
	tokenForm     = "[!#-'*+\\-.0-9A-Z^-z|~]+"
	quotedForm    = `"(?:[\t !#-\[\]-~]|\\[\t -~])*"`
	directiveForm = "(" + tokenForm + ")(=)?(" + tokenForm + "|" + quotedForm + ")?"
	wholeForm     = tokenForm + "(?:=(?:" + tokenForm + "|" + quotedForm + "))?"
	listForm      = `[ \t,]*(?:` + wholeForm + `(?:[ \t]*,[ \t,]*` + wholeForm + `)*[ \t,]*)?`
)

var (
	directiveIn = regexp.MustCompile(directiveForm)
	wholeList   = regexp.MustCompile(`\A` + listForm + `\z`)
	escaped     = regexp.MustCompile(`\\(.)`)
)

// checkByForm asks of a text and holds the answer against what the form of a list says.
func checkByForm(t *testing.T, s string) {
	t.Helper()
	if !wholeList.MatchString(s) {
		checkParse(t, s, nil, api.ErrSyntax)
		return
	}
	var want []api.Directive
	for _, m := range directiveIn.FindAllStringSubmatch(s, -1) {
		arg := m[3]
		if strings.HasPrefix(arg, `"`) {
			arg = escaped.ReplaceAllString(arg[1:len(arg)-1], "$1")
		}
		want = append(want, api.Directive{Name: strings.ToLower(m[1]), HasArg: m[2] != "", Arg: arg})
	}
	checkParse(t, s, want, api.OK)
}

func TestShortTexts(t *testing.T) {
	for s := range texts("aB=\", \\", 6) {
		checkByForm(t, s)
	}
	pieces := []string{"a", "Bc=", `"`, `d="e`, ",", `\`, "\t", `","`, "5"}
	for s := range texts("012345678", 5) {
		var b strings.Builder
		for i := range len(s) {
			b.WriteString(pieces[s[i]-'0'])
		}
		checkByForm(t, b.String())
	}
}

func TestOneByteOtherwise(t *testing.T) {
	for _, base := range []string{"Max-Age=5", `a="b\"c, d" ,E`, `x, y="\\",z=""`} {
		for i := range len(base) {
			checkByForm(t, base[:i])
			checkByForm(t, base[:i]+base[i+1:])
			for c := range 256 {
				checkByForm(t, base[:i]+one(c)+base[i+1:])
				checkByForm(t, base[:i]+one(c)+base[i:])
			}
		}
	}
}

// TestParseReadsWhatPrintWrites: directives are read as they were, whatever their arguments are.
func TestParseReadsWhatPrintWrites(t *testing.T) {
	var all []api.Directive
	for arg := range texts("aB\"\\,= \t", 4) {
		all = append(all, with("a", arg), bare("b"), with("c-1", "x"+arg))
	}
	for l := range slices.Chunk(all, 20) {
		s, e := control.Print(l)
		if e != api.OK {
			t.Fatalf("%s: %d", show(l), e)
		}
		checkParse(t, s, l, api.OK)
		checkParse(t, " ,"+strings.ToUpper(s[:1])+s[1:]+"\t,", l, api.OK)
	}
}

// P29.

func checkNamed(t *testing.T, l []api.Directive, name string, n int, is bool) {
	t.Helper()
	if got := control.Has(l, name); got != is {
		t.Errorf("Has(%.400s, %.60q): %v", show(l), name, got)
	}
	if got, there := control.Seconds(l, name); got != n || there != is {
		t.Errorf("Seconds(%.400s, %.60q): %d %v, not %d %v", show(l), name, got, there, n, is)
	}
}

func TestNames(t *testing.T) {
	l := of(bare("no-cache"), with("max-age", "5"), with("s-maxage", "7"), with("a", "x"))
	checkNamed(t, l, "no-cache", 0, true)
	checkNamed(t, l, "max-age", 5, true)
	checkNamed(t, l, "s-maxage", 7, true)
	checkNamed(t, l, "a", 0, true)
	for _, name := range []string{"", "No-Cache", "MAX-AGE", "A", "no-cach", "no-cache2", "no", "cache", "max-age=5", " a", "a ", "5", "x", "maxage", "no_cache", "\x00"} {
		checkNamed(t, l, name, 0, false)
	}
	for _, name := range []string{"", "a", "no-cache"} {
		checkNamed(t, nil, name, 0, false)
		checkNamed(t, of(), name, 0, false)
	}
}

// TestNamesOfWhateverIsThere: a name is held against another as it is, also one that no directive has.
func TestNamesOfWhateverIsThere(t *testing.T) {
	l := append(slices.Repeat(of(with("b", "1")), 1000), with("No-Cache", "2"), with("", "3"), with("\xff\n", "4"), with(long(1<<16), "5"))
	checkNamed(t, l, "b", 1, true)
	checkNamed(t, l, "No-Cache", 2, true)
	checkNamed(t, l, "no-cache", 0, false)
	checkNamed(t, l, "", 3, true)
	checkNamed(t, l, "\xff\n", 4, true)
	checkNamed(t, l, "\xfe\n", 0, false)
	checkNamed(t, l, long(1<<16), 5, true)
	checkNamed(t, l, long(1<<16-1), 0, false)
}

func TestSecondsOfTheFirst(t *testing.T) {
	checkNamed(t, of(with("a", "5"), with("a", "7")), "a", 5, true)
	checkNamed(t, of(with("b", "1"), with("a", "7"), with("a", "5"), with("b", "2")), "a", 7, true)
	// Also if it tells no number.
	checkNamed(t, of(bare("a"), with("a", "7")), "a", 0, true)
	checkNamed(t, of(with("a", ""), with("a", "7")), "a", 0, true)
	checkNamed(t, of(with("a", "x"), with("a", "7")), "a", 0, true)
	checkNamed(t, of(with("A", "5"), with("a", "7")), "a", 7, true)
	// The Arg counts, also of what is no directive as Print asks for them.
	checkNamed(t, of(api.Directive{Name: "a", Arg: "5"}), "a", 5, true)
}

func TestSecondsOfNumbers(t *testing.T) {
	for arg, want := range map[string]int{
		"0":                             0,
		"1":                             1,
		"9":                             9,
		"10":                            10,
		"3600":                          3600,
		"00":                            0,
		"007":                           7,
		"010":                           10,
		strings.Repeat("0", 1000) + "5": 5,
		"2147483647":                    1<<31 - 1,
		"02147483647":                   1<<31 - 1,
		"2147483648":                    1 << 31,
		"2147483649":                    1 << 31,
		"4294967295":                    1 << 31,
		"4294967296":                    1 << 31,
		"4294967301":                    1 << 31,
		"99999999999":                   1 << 31,
		"9223372036854775807":           1 << 31,
		"9223372036854775808":           1 << 31,
		"9223372036854775813":           1 << 31,
		"18446744073709551615":          1 << 31,
		"18446744073709551616":          1 << 31,
		"18446744073709551621":          1 << 31,
		"340282366920938463463374607431768211461": 1 << 31,
		"1" + strings.Repeat("0", 64):             1 << 31,
		strings.Repeat("9", 1<<16):                1 << 31,
	} {
		checkNamed(t, of(with("x", arg)), "x", want, true)
	}
}

func TestSecondsOfNoNumbers(t *testing.T) {
	for _, arg := range []string{"", " ", "x", "-1", "-0", "+5", "--5", " 5", "5 ", "5\t", "5\n", "5\x00", "5s", "x5", "5x6", "5 6", "5,6", "5.0", ".5", "5.", "1e3", "0x5", "0b1", "0o7", "1_000", "5_", "_5", `"5"`, "infinity", "\u0665", "\uff15", "\xff", "5/", "5:", "/", ":",
		"99999999999x", "x99999999999", "-99999999999", strings.Repeat("9", 1000) + " ", strings.Repeat("9", 1<<16) + "-"} {
		checkNamed(t, of(with("x", arg)), "x", 0, true)
	}
	for c := range 256 {
		want := 0
		if c >= '0' && c <= '9' {
			want = c - '0'
		}
		checkNamed(t, of(with("x", one(c))), "x", want, true)
		if c < '0' || c > '9' {
			checkNamed(t, of(with("x", "5"+one(c))), "x", 0, true)
			checkNamed(t, of(with("x", one(c)+"5")), "x", 0, true)
			checkNamed(t, of(with("x", "5"+one(c)+"5")), "x", 0, true)
		}
	}
}

func TestSecondsOfTheDocument(t *testing.T) {
	l, e := control.Parse(`Max-Age=5, S-MaxAge="10", max-stale, max-age=7, min-fresh="1 0"`)
	if e != api.OK {
		t.Fatal(e)
	}
	checkNamed(t, l, "max-age", 5, true)
	checkNamed(t, l, "s-maxage", 10, true)
	checkNamed(t, l, "max-stale", 0, true)
	checkNamed(t, l, "min-fresh", 0, true)
	checkNamed(t, l, "Max-Age", 0, false)
}
