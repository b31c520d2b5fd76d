package etag_test

import (
	"fmt"
	"regexp"
	"slices"
	"strings"
	"testing"

	"larder/api"
	"larder/etag"
)

func long(n int) string { return strings.Repeat("x", n) }

func one(c int) string { return string([]byte{byte(c)}) }

// show answers tags for what a test says: fmt can't quote them as they are.
func show(l ...api.Tag) string {
	var b strings.Builder
	for _, tag := range l {
		if tag.Weak {
			b.WriteString("weak ")
		}
		fmt.Fprintf(&b, "%.120q ", tag.Text)
	}
	return b.String()
}

func weak(text string) api.Tag { return api.Tag{Weak: true, Text: text} }

func strong(text string) api.Tag { return api.Tag{Text: text} }

// allBytes are those that a tag's text may have.
func allBytes() string {
	b := []byte{33}
	for c := byte(35); c <= 126; c++ {
		b = append(b, c)
	}
	return string(b)
}

func mayStand(c int) bool { return c >= 33 && c <= 126 && c != 34 }

// P21: Print.

func checkPrint(t *testing.T, tag api.Tag, want string, err api.Errno) {
	t.Helper()
	if s, e := etag.Print(tag); s != want || e != err {
		t.Errorf("Print(%s): %.120q %d, not %.120q %d", show(tag), s, e, want, err)
	}
}

func TestPrint(t *testing.T) {
	for text, want := range map[string]string{
		"":         `""`,
		"a":        `"a"`,
		"W/":       `"W/"`,
		"a,b":      `"a,b"`,
		"*":        `"*"`,
		`\`:        `"\"`,
		`a\\b`:     `"a\\b"`,
		allBytes(): `"` + allBytes() + `"`,
		long(99):   `"` + long(99) + `"`,
		long(100):  `"` + long(100) + `"`,
	} {
		checkPrint(t, strong(text), want, api.OK)
		checkPrint(t, weak(text), "W/"+want, api.OK)
	}
}

func TestPrintWrong(t *testing.T) {
	for text, err := range map[string]api.Errno{
		" ":                api.ErrSyntax,
		"a b":              api.ErrSyntax,
		" a":               api.ErrSyntax,
		"a\t":              api.ErrSyntax,
		`"`:                api.ErrSyntax,
		`"a"`:              api.ErrSyntax,
		`\"`:               api.ErrSyntax,
		"\u00e4":           api.ErrSyntax,
		long(99) + " ":     api.ErrSyntax,
		" " + long(99):     api.ErrSyntax,
		long(101):          api.ErrLarge,
		long(1 << 16):      api.ErrLarge,
		long(100) + " ":    api.ErrLarge,
		"\x00" + long(100): api.ErrLarge,
	} {
		checkPrint(t, strong(text), "", err)
		checkPrint(t, weak(text), "", err)
	}
}

func TestEachByteOfATag(t *testing.T) {
	for c := range 256 {
		for _, text := range []string{one(c), one(c) + "a", "a" + one(c), "a" + one(c) + "b", one(c) + one(c), strings.Repeat(one(c), 100)} {
			for _, tag := range []api.Tag{strong(text), weak(text)} {
				s := `"` + text + `"`
				if tag.Weak {
					s = "W/" + s
				}
				if mayStand(c) {
					checkPrint(t, tag, s, api.OK)
					checkParse(t, s, tag, api.OK)
					checkList(t, s, []api.Tag{tag}, api.OK)
				} else {
					checkPrint(t, tag, "", api.ErrSyntax)
					checkParse(t, s, api.Tag{}, api.ErrSyntax)
					checkList(t, s, nil, api.ErrSyntax)
				}
			}
		}
	}
}

// P21: Parse.

func checkParse(t *testing.T, s string, want api.Tag, err api.Errno) {
	t.Helper()
	if tag, e := etag.Parse(s); tag != want || e != err {
		t.Errorf("Parse(%.120q): %s%d, not %s%d", s, show(tag), e, show(want), err)
	}
}

func TestParse(t *testing.T) {
	for s, want := range map[string]api.Tag{
		`""`:                     strong(""),
		`W/""`:                   weak(""),
		`"a"`:                    strong("a"),
		`W/"a"`:                  weak("a"),
		`"W/"`:                   strong("W/"),
		`W/"W/"`:                 weak("W/"),
		`"a,b"`:                  strong("a,b"),
		`"*"`:                    strong("*"),
		`"\"`:                    strong(`\`),
		`"a\\b"`:                 strong(`a\\b`),
		`"` + allBytes() + `"`:   strong(allBytes()),
		`"` + long(100) + `"`:    strong(long(100)),
		`W/"` + long(100) + `"`:  weak(long(100)),
		`W/"` + long(98) + `W/"`: weak(long(98) + "W/"),
	} {
		checkParse(t, s, want, api.OK)
	}
}

func wrongTags() []string {
	return []string{
		"", "a", `"`, `"a`, `a"`, "*", "W", "W/", `W/"`, `W"a"`, `/"a"`, `w/"a"`, `W/W/"a"`, `W/ "a"`, `W /"a"`, `W\"a"`, `W/a`, `"a"W/`, `W/"a"b`, `x"a"`, `xW/"a"`,
		`"""`, `""""`, `"a""`, `""a"`, `"a"b"`, `"\""`, `"a" "b"`, `"a","b"`, `"a",`, `,"a"`, `'a'`, "`a`", "\u201ca\u201d",
		` "a"`, `"a" `, "\t\"a\"", "\"a\"\n", `"a b"`, `" "`, "\"\t\"", "\"\x00\"", "\"\x7f\"", "\"\x80\"", "\"\u00e4\"", "\"a\r\n\"",
		`"` + long(101) + `"`, `W/"` + long(101) + `"`, `"` + long(1<<16) + `"`, long(1 << 16),
	}
}

func TestParseWrong(t *testing.T) {
	for _, s := range wrongTags() {
		checkParse(t, s, api.Tag{}, api.ErrSyntax)
	}
}

// P21: List.

func checkList(t *testing.T, s string, want []api.Tag, err api.Errno) {
	t.Helper()
	if l, star, e := etag.List(s); !slices.Equal(l, want) || star || e != err {
		t.Errorf("List(%.120q): %s%v %d, not %sfalse %d", s, show(l...), star, e, show(want...), err)
	}
}

func TestListOfAnything(t *testing.T) {
	if l, star, e := etag.List("*"); len(l) != 0 || !star || e != api.OK {
		t.Errorf("%s%v %d", show(l...), star, e)
	}
	for _, s := range []string{" *", "* ", "\t*", "**", "*,", ",*", "*,*", `*,"a"`, `"a",*`, `"a", *`, `W/*`, `"*`} {
		checkList(t, s, nil, api.ErrSyntax)
	}
	checkList(t, `"*"`, []api.Tag{strong("*")}, api.OK)
}

func TestList(t *testing.T) {
	a, b := strong("a"), weak("b")
	for s, want := range map[string][]api.Tag{
		`"a"`:                          {a},
		`W/"b"`:                        {b},
		`"a",W/"b"`:                    {a, b},
		`"a", W/"b"`:                   {a, b},
		`W/"b","a"`:                    {b, a},
		`"a","a",W/"b","a"`:            {a, a, b, a},
		" \t\"a\" \t, \t W/\"b\"\t\t ": {a, b},
		`,"a"`:                         {a},
		`"a",`:                         {a},
		`,,"a",,, ,W/"b", ,`:           {a, b},
		"\t,\t\"a\"\t,\t":              {a},
		`""`:                           {strong("")},
		`"",W/"",""`:                   {strong(""), weak(""), strong("")},
		`"a,b"`:                        {strong("a,b")},
		`","`:                          {strong(",")},
		`",",","`:                      {strong(","), strong(",")},
		`",,",W/",a,", "a,"`:           {strong(",,"), weak(",a,"), strong("a,")},
		`"W/",W/"W/"`:                  {strong("W/"), weak("W/")},
		// A `\` takes nothing along.
		`"\"`:          {strong(`\`)},
		`"\","a"`:      {strong(`\`), a},
		`"a\", W/"\,"`: {strong(`a\`), weak(`\,`)},
		`"\\", "a"`:    {strong(`\\`), a},
	} {
		checkList(t, s, want, api.OK)
	}
}

func TestListWrong(t *testing.T) {
	for _, s := range []string{"", " ", "\t", ",", ",,", " , ,\t", "a", `"a","`, `"a",b`, `a,"b"`, `"a" "b"`, `"a";"b"`, `"a""b"`, `"a"b,"c"`, `"a,"b"`, `"a, "b"`, `a","`, `"a",W/`, `W/,"a"`, `W/ "a"`, `W,/"a"`,
		`W/,"a","b"`, `"a",w/"b"`, `"a b"`, `"a", "b c"`, `"a, b"`, "\"a\",\n\"b\"", "\"a\"\n", "\x0b\"a\"", "\u00a0\"a\"", "\"a\"\x00", "\"a\",\x00", `"\"a"`, `"\",a"`} {
		checkList(t, s, nil, api.ErrSyntax)
	}
	for _, s := range wrongTags() {
		switch {
		case strings.Trim(s, " \t,") != s || s == "*" || s == `"a","b"`:
			// A list, though no tag.
			continue
		case len(s) > 1000:
			checkList(t, s, nil, api.ErrLarge)
		default:
			checkList(t, s, nil, api.ErrSyntax)
			checkList(t, `"a",`+s+"x", nil, api.ErrSyntax)
			checkList(t, s+`x,"a"`, nil, api.ErrSyntax)
		}
	}
}

func TestListLimits(t *testing.T) {
	tags := func(n int) []api.Tag { return slices.Repeat([]api.Tag{strong("a")}, n) }
	list := func(n int) string { return strings.Repeat(`"a",`, n) }
	blanks := func(n int) string { return strings.Repeat(" ", n) }
	checkList(t, list(20), tags(20), api.OK)
	checkList(t, list(20)+strings.Repeat(",", 900), tags(20), api.OK)
	checkList(t, strings.Repeat(", ,", 300)+list(20), tags(20), api.OK)
	checkList(t, list(21), nil, api.ErrLarge)
	checkList(t, list(250), nil, api.ErrLarge)
	// What can't be read goes ahead of too many.
	checkList(t, list(21)+"a", nil, api.ErrSyntax)
	checkList(t, "a,"+list(21), nil, api.ErrSyntax)
	checkList(t, list(249)+`"a"b`, nil, api.ErrSyntax)
	checkList(t, list(20)+`"`+long(101)+`"`, nil, api.ErrSyntax)
	// Too long goes ahead of all.
	checkList(t, `"a"`+blanks(997), tags(1), api.OK)
	checkList(t, `"a"`+blanks(998), nil, api.ErrLarge)
	checkList(t, blanks(997)+`"a"`, tags(1), api.OK)
	checkList(t, blanks(998)+`"a"`, nil, api.ErrLarge)
	checkList(t, blanks(1000), nil, api.ErrSyntax)
	checkList(t, blanks(1001), nil, api.ErrLarge)
	checkList(t, long(1000), nil, api.ErrSyntax)
	checkList(t, long(1001), nil, api.ErrLarge)
	checkList(t, "*"+blanks(1000), nil, api.ErrLarge)
	checkList(t, list(1<<16), nil, api.ErrLarge)
	nine := slices.Repeat([]api.Tag{strong(long(100))}, 9)
	checkList(t, strings.Repeat(`"`+long(100)+`",`, 9), nine, api.OK)
	checkList(t, strings.Repeat(`"`+long(100)+`",`, 10), nil, api.ErrLarge)
}

const (
	tagForm  = `(W/)?"([!#-~]{0,100})"`
	listForm = `[ \t,]*` + tagForm + `([ \t]*,[ \t,]*` + tagForm + `)*[ \t,]*`
)

var (
	tagIn     = regexp.MustCompile(tagForm)
	wholeTag  = regexp.MustCompile(`\A` + tagForm + `\z`)
	wholeList = regexp.MustCompile(`\A` + listForm + `\z`)
)

// checkByForms asks of a text and holds the answers against what the forms of a tag and of a list say.
func checkByForms(t *testing.T, s string) {
	t.Helper()
	var want []api.Tag
	for _, m := range tagIn.FindAllStringSubmatch(s, -1) {
		want = append(want, api.Tag{Weak: m[1] != "", Text: m[2]})
	}
	if wholeTag.MatchString(s) {
		checkParse(t, s, want[0], api.OK)
		checkPrint(t, want[0], s, api.OK)
	} else {
		checkParse(t, s, api.Tag{}, api.ErrSyntax)
	}
	switch {
	case s == "*":
	case wholeList.MatchString(s):
		checkList(t, s, want, api.OK)
	default:
		checkList(t, s, nil, api.ErrSyntax)
	}
}

func TestShortTexts(t *testing.T) {
	for s := range texts("\"W/, a", 6) {
		checkByForms(t, s)
	}
	for s := range texts("\"\\,*\t", 6) {
		checkByForms(t, s)
	}
	pieces := []string{`"`, `W/`, `W/"`, `",`, `, `, `"a"`, "\t", `\`, `*`}
	for s := range texts("012345678", 5) {
		var b strings.Builder
		for i := range len(s) {
			b.WriteString(pieces[s[i]-'0'])
		}
		checkByForms(t, b.String())
	}
}

func TestOneByteOtherwise(t *testing.T) {
	for _, base := range []string{`W/"ab"`, `"a,b", W/"c\",,""`, `"` + long(99) + `"`} {
		for i := range len(base) {
			checkByForms(t, base[:i])
			checkByForms(t, base[:i]+base[i+1:])
			for c := range 256 {
				checkByForms(t, base[:i]+one(c)+base[i+1:])
				checkByForms(t, base[:i]+one(c)+base[i:])
			}
		}
	}
}

// TestListReadsWhatPrintWrites: tags that Print has written, with commas between, are read as they were.
func TestListReadsWhatPrintWrites(t *testing.T) {
	var tags []api.Tag
	for text := range texts(`,\W/`, 3) {
		tags = append(tags, strong(text), weak(text))
	}
	for some := range slices.Chunk(tags, 20) {
		var parts []string
		for _, tag := range some {
			s, err := etag.Print(tag)
			if err != api.OK {
				t.Fatalf("%s: %d", show(tag), err)
			}
			parts = append(parts, s)
		}
		checkList(t, strings.Join(parts, ","), some, api.OK)
		checkList(t, strings.Join(parts, " ,\t"), some, api.OK)
	}
}

// P22.

func TestStrongAndWeak(t *testing.T) {
	for _, c := range []struct {
		a, b         api.Tag
		strong, weak bool
	}{
		{strong("a"), strong("a"), true, true},
		{strong("a"), weak("a"), false, true},
		{weak("a"), weak("a"), false, true},
		{strong("a"), strong("b"), false, false},
		{strong("a"), weak("b"), false, false},
		{weak("a"), weak("b"), false, false},
		{strong(""), strong(""), true, true},
		{strong(""), weak(""), false, true},
		{weak(""), weak(""), false, true},
		{strong(""), strong("a"), false, false},
		{weak(""), weak("a"), false, false},
		{strong("a"), strong("A"), false, false},
		{strong("a"), strong("a "), false, false},
		{strong("a"), strong("ab"), false, false},
		{strong("a"), strong(`"a"`), false, false},
		{strong("a"), strong(`W/"a"`), false, false},
		// Also of what Print tells nothing of.
		{strong("\x00\""), strong("\x00\""), true, true},
		{strong("\x00"), weak("\x00"), false, true},
		{strong("\xff"), strong("\xfe"), false, false},
		{strong(long(101)), strong(long(101)), true, true},
		{strong(long(101)), strong(long(102)), false, false},
		{weak(long(1 << 16)), strong(long(1 << 16)), false, true},
	} {
		for _, pair := range [][2]api.Tag{{c.a, c.b}, {c.b, c.a}} {
			if got := etag.Strong(pair[0], pair[1]); got != c.strong {
				t.Errorf("Strong of %s: %v", show(pair[:]...), got)
			}
			if got := etag.Weak(pair[0], pair[1]); got != c.weak {
				t.Errorf("Weak of %s: %v", show(pair[:]...), got)
			}
		}
	}
}

func TestEachTwoTexts(t *testing.T) {
	all := slices.Collect(texts("aA\"", 3))
	for _, a := range all {
		for _, b := range all {
			same := a == b
			for _, w := range []bool{false, true} {
				for _, x := range []bool{false, true} {
					p, q := api.Tag{Weak: w, Text: a}, api.Tag{Weak: x, Text: b}
					if etag.Weak(p, q) != same || etag.Strong(p, q) != (same && !w && !x) {
						t.Error(show(p, q))
					}
				}
			}
		}
	}
}
