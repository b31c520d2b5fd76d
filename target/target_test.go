package target_test

import (
	"fmt"
	"regexp"
	"strings"
	"testing"

	"larder/api"
	"larder/target"
)

const free = "abcdefghijklmnopqrstuvwxyzABCDEFGHIJKLMNOPQRSTUVWXYZ0123456789-._~"

func isFree(c int) bool { return strings.IndexByte(free, byte(c)) >= 0 }

func long(n int) string { return strings.Repeat("x", n) }

func one(c int) string { return string([]byte{byte(c)}) }

// told are the ways in which a `%` and two digits tell a byte, the one with the digits A to F first.
func told(c int) []string {
	up, low := fmt.Sprintf("%02X", c), fmt.Sprintf("%02x", c)
	return []string{"%" + up, "%" + low, "%" + up[:1] + low[1:], "%" + low[:1] + up[1:]}
}

// call is one of the calls of the package.
type call struct {
	name string
	of   func(string) (string, api.Errno)
}

func normal() call   { return call{"Normal", target.Normal} }
func escape() call   { return call{"Escape", target.Escape} }
func unescape() call { return call{"Unescape", target.Unescape} }

func (c call) check(t *testing.T, s, want string, err api.Errno) {
	t.Helper()
	if got, e := c.of(s); got != want || e != err {
		t.Errorf("%s(%.220q): %.220q %d, not %.220q %d", c.name, s, got, e, want, err)
	}
}

// checkAll asks of texts and of what the call says of each, one behind the other.
func (c call) checkAll(t *testing.T, texts ...string) {
	t.Helper()
	for i := 0; i < len(texts); i += 2 {
		c.check(t, texts[i], texts[i+1], api.OK)
	}
}

func (c call) checkWrong(t *testing.T, err api.Errno, texts ...string) {
	t.Helper()
	for _, s := range texts {
		c.check(t, s, "", err)
	}
}

// P19: Escape.

func TestEscape(t *testing.T) {
	escape().checkAll(t,
		"", "",
		"a", "a",
		free[:33], free[:33],
		free[33:], free[33:],
		"a b/", "a%20b%2F",
		"/a/../b?c#d", "%2Fa%2F..%2Fb%3Fc%23d",
		"%", "%25",
		"%41", "%2541",
		"%%", "%25%25",
		"+", "%2B",
		"\x00\x0a\xa0\xff", "%00%0A%A0%FF",
		"\u00e4\u212a", "%C3%A4%E2%84%AA",
	)
}

func TestEscapeOfEachByte(t *testing.T) {
	for c := range 256 {
		want := told(c)[0]
		if isFree(c) {
			want = one(c)
		}
		escape().checkAll(t, one(c), want, "a"+one(c)+"b", "a"+want+"b", one(c)+one(c), want+want)
	}
}

func TestEscapeLimits(t *testing.T) {
	threes := func(n int) string { return strings.Repeat("%2F", n) }
	escape().checkAll(t, long(200), long(200), strings.Repeat("/", 66)+"aa", threes(66)+"aa", "aa"+strings.Repeat("/", 66), "aa"+threes(66), "/"+long(197), "%2F"+long(197))
	escape().checkWrong(t, api.ErrLarge,
		long(201), long(202), long(1<<16), strings.Repeat("/", 67), strings.Repeat("/", 66)+"aaa", "aaa"+strings.Repeat("/", 66), "/"+long(198), long(198)+"/", long(199)+"/",
		strings.Repeat("\x00", 200), strings.Repeat("%", 1<<16))
}

// P19: Unescape.

func TestUnescape(t *testing.T) {
	unescape().checkAll(t,
		"", "",
		"a", "a",
		"%41%2fb", "A/b",
		"%41%42", "AB",
		"%41", "A",
		"a%20b+c", "a b+c",
		"%25", "%",
		"%2541", "%41",
		"%25%34%31", "%41",
		"%252541", "%2541",
		"41%4141", "41A41",
		"%00%ff%FF%Ff%fF", "\x00\xff\xff\xff\xff",
		"\x00\xff /?#\r\n", "\x00\xff /?#\r\n",
		"/../%2e%2e/./", "/../.././",
	)
}

func TestUnescapeOfEachByte(t *testing.T) {
	for c := range 256 {
		for _, s := range told(c) {
			unescape().checkAll(t, s, one(c), "a"+s+"b", "a"+one(c)+"b", s+s, one(c)+one(c), s+"4", one(c)+"4")
		}
		if c != '%' {
			unescape().checkAll(t, one(c), one(c), one(c)+"41", one(c)+"41", "%41"+one(c), "A"+one(c))
		}
	}
}

// TestUnescapeOfEachPair asks of each two bytes behind a `%`.
func TestUnescapeOfEachPair(t *testing.T) {
	right := map[string]int{}
	for c := range 256 {
		for _, s := range told(c) {
			right[s] = c
		}
	}
	for a := range 256 {
		for b := range 256 {
			s := "%" + one(a) + one(b)
			if c, ok := right[s]; ok {
				unescape().check(t, s, one(c), api.OK)
			} else {
				unescape().check(t, s, "", api.ErrSyntax)
				normal().check(t, "/"+s, "", api.ErrSyntax)
			}
		}
	}
}

func TestUnescapeWrong(t *testing.T) {
	unescape().checkWrong(t, api.ErrSyntax,
		"%", "a%", "%4", "a%4", "%41%", "%41%4", "%%", "%%41", "%4%41", "%%%", "% 41", "%4 1", "%+4", "%-4", "%_4", "%4_", "%0x", "%x4", "%u0041", "%4g", "%g4", "%G0", "%4\x00", "%\x0041",
		"%\u0664\u0661", "%\uff14\uff11", "%.4", "%4.", "%/4", "%:4", "%@1", "%`1", "a%41b%", long(199)+"%", long(198)+"%4")
}

func TestUnescapeLimits(t *testing.T) {
	unescape().checkAll(t, long(200), long(200), strings.Repeat("%41", 66)+"aa", strings.Repeat("A", 66)+"aa", long(197)+"%ff", long(197)+"\xff")
	unescape().checkWrong(t, api.ErrLarge, long(201), long(1<<16), strings.Repeat("%41", 67), long(198)+"%41", "%"+long(200), long(200)+"%", strings.Repeat("%", 201))
	unescape().checkWrong(t, api.ErrSyntax, strings.Repeat("%", 200))
}

// P19: both.

func TestUnescapeReadsWhatEscapeWrites(t *testing.T) {
	for c := range 256 {
		for d := range 256 {
			s := one(c) + one(d)
			text, err := escape().of(s)
			if err != api.OK {
				t.Fatalf("%q: %d", s, err)
			}
			unescape().check(t, text, s, api.OK)
		}
	}
}

// P20.

func TestNormal(t *testing.T) {
	normal().checkAll(t,
		"/", "/",
		"/a", "/a",
		"/a/b/c", "/a/b/c",
		"/a/../%7Eb", "/~b",
		"/A/a", "/A/a",
		"/a+b", "/a+b",
		"/http://a@b:80/", "/http://a@b:80/",
		"/!$&'()*+,;=:@[]\\^`{|}\"<>", "/!$&'()*+,;=:@[]\\^`{|}\"<>",
	)
}

func TestNormalSteps(t *testing.T) {
	normal().checkAll(t,
		"/.", "/",
		"/./", "/",
		"/./.", "/",
		"/..", "/",
		"/../", "/",
		"/../..", "/",
		"/../../a", "/a",
		"/./a", "/a",
		"/a/.", "/a/",
		"/a/./", "/a/",
		"/a/./.", "/a/",
		"/a/./b", "/a/b",
		"/a/..", "/",
		"/a/../", "/",
		"/a/../..", "/",
		"/a/../../b", "/b",
		"/a/../b", "/b",
		"/a/b/..", "/a/",
		"/a/b/../", "/a/",
		"/a/b/../c", "/a/c",
		"/a/b/../..", "/",
		"/a/b/../../c", "/c",
		"/a/b/.././c", "/a/c",
		"/a/./../b", "/b",
		"/a/../.", "/",
		"/a/b/./..", "/a/",
		"/../a/..", "/",
		"/a/b/c/../../../../d/./e/..", "/d/",
	)
}

func TestNormalEmptySteps(t *testing.T) {
	normal().checkAll(t,
		"//", "//",
		"///", "///",
		"/a/", "/a/",
		"/a//", "/a//",
		"//a", "//a",
		"/a//b", "/a//b",
		"//..", "/",
		"//../a", "/a",
		"//..//a", "//a",
		"/a//..", "/a/",
		"/a//../b", "/a/b",
		"/a//../..", "/",
		"/a//../../b", "/b",
		"//.", "//",
		"/.//a", "//a",
		"/..//a", "//a",
		"/a/..//b", "//b",
		"/a/../..//b", "//b",
		"//../..//", "//",
	)
}

func TestNormalStepsThatOnlyLookSo(t *testing.T) {
	normal().checkAll(t,
		"/...", "/...",
		"/a/.../b", "/a/.../b",
		"/.a", "/.a",
		"/a.", "/a.",
		"/..a/b", "/..a/b",
		"/a/b..", "/a/b..",
		"/a/..;b", "/a/..;b",
		"/a/.%2F.", "/a/.%2F.",
		"/a/..%2f", "/a/..%2F",
		"/a/..%00", "/a/..%00",
		"/a/..%3fb", "/a/..%3Fb",
		"/a%2F..", "/a%2F..",
		"/a%2f../b", "/a%2F../b",
		"/a\\..\\b", "/a\\..\\b",
	)
}

func TestNormalStepsThatAreTold(t *testing.T) {
	for _, here := range []string{".", "%2e", "%2E"} {
		normal().checkAll(t, "/"+here, "/", "/a/"+here, "/a/", "/a/"+here+"/b", "/a/b")
		for _, up := range []string{".", "%2e", "%2E"} {
			normal().checkAll(t, "/"+here+up, "/", "/a/"+here+up, "/", "/a/b/"+here+up+"/c?"+here+up, "/a/c?..", "/"+here+up+"/"+here, "/")
		}
	}
}

func TestNormalBehindAQuestionMark(t *testing.T) {
	normal().checkAll(t,
		"/?", "/?",
		"/??", "/??",
		"/a?", "/a?",
		"/a?b=c&d", "/a?b=c&d",
		"/a?b/../c", "/a?b/../c",
		"/a?/..", "/a?/..",
		"/a?.", "/a?.",
		"/a?..", "/a?..",
		"/a?b?/../c", "/a?b?/../c",
		"/a/..?b", "/?b",
		"/a/.?b", "/a/?b",
		"/..?/..", "/?/..",
		"/.?", "/?",
		"/a/../?b", "/?b",
		"/a/b/../c?d/../%2e%2E/e", "/a/c?d/../../e",
		"/a?%41%2f%3f%23", "/a?A%2F%3F%23",
		"/a%3f/../b", "/b",
		"/a%3F/../b?/../c", "/b?/../c",
		"/a%3fb/.", "/a%3Fb/",
	)
}

func TestNormalOfEachByteThatIsTold(t *testing.T) {
	for c := range 256 {
		if c == '.' {
			continue
		}
		for _, s := range told(c) {
			want := told(c)[0]
			if isFree(c) {
				want = one(c)
			}
			normal().checkAll(t, "/"+s, "/"+want, "/a"+s+"b?"+s, "/a"+want+"b?"+want, "/"+s+"/../a", "/a", "/a/.."+s, "/a/.."+want, "/a?/../"+s, "/a?/../"+want)
		}
	}
}

func TestNormalOfEachByte(t *testing.T) {
	for c := range 256 {
		s := one(c)
		for _, text := range []string{"/a" + s, "/a" + s + "xy", "/a?" + s, "/a?" + s + "x?/..", "/" + s + "x?b"} {
			switch {
			case c < 33 || c > 126 || c == '#' || c == '%':
				normal().check(t, text, "", api.ErrSyntax)
			default:
				normal().check(t, text, text, api.OK)
			}
		}
		if c != '/' {
			normal().checkWrong(t, api.ErrSyntax, s, s+"/", s+"/a")
		}
	}
}

func TestNormalWrong(t *testing.T) {
	normal().checkWrong(t, api.ErrSyntax,
		"", "a", "a/b", " /", "*", "?", "?/", "./a", "../a", "%2F", "%2fa", "http://a/", "#", "\\a",
		"/ ", "/a b", "/\t", "/\x00", "/\x7f", "/\xff", "/\u00e4", "/#", "/a#b", "/a?b#c", "/a?b c", "/a?\x80",
		"/%", "/%4", "/%4g", "/%g4", "/%%41", "/%4%41", "/a?%", "/a?%4", "/a?%zz", "/%+4", "/%0x", "/% 4", "/%\x004",
		// Also where a step would go.
		"/#/..", "/%/..", "/ /../a", "/%4g/../..", "/\xff/..",
		long(200), "/"+long(198)+"%", "/"+long(197)+"%4")
}

func TestNormalLimits(t *testing.T) {
	normal().checkAll(t,
		"/"+long(199), "/"+long(199),
		"/?"+long(198), "/?"+long(198),
		"/"+strings.Repeat("%41", 66)+"a", "/"+strings.Repeat("A", 66)+"a",
		"/"+strings.Repeat("%2f", 66)+"a", "/"+strings.Repeat("%2F", 66)+"a",
		strings.Repeat("/", 200), strings.Repeat("/", 200),
		strings.Repeat("/.", 100), "/",
		strings.Repeat("/..", 66)+"/a", "/a",
		strings.Repeat("/a", 50)+strings.Repeat("/..", 33)+"/", strings.Repeat("/a", 17)+"/",
	)
	normal().checkWrong(t, api.ErrLarge,
		"/"+long(200), "/"+long(1<<16), strings.Repeat("/.", 100)+"/", strings.Repeat("/..", 67), "/"+strings.Repeat("%41", 67),
		// Also of what can't be read.
		long(201), "/"+strings.Repeat("%", 200), "/"+long(199)+"#", strings.Repeat("\x00", 201))
}

var (
	form = regexp.MustCompile(`\A/([!"$&-~]|%[0-9a-fA-F]{2})*\z`)
	code = regexp.MustCompile(`%..`)
)

// model answers what Normal has to say, by other means: what stands ahead of the `?` is read from its beginning on, and a text grows and shrinks by it.
func model(s string) (string, api.Errno) {
	if len(s) > 200 {
		return "", api.ErrLarge
	}
	if !form.MatchString(s) {
		return "", api.ErrSyntax
	}
	s = code.ReplaceAllStringFunc(s, func(told string) string {
		var c int
		fmt.Sscanf(told[1:], "%x", &c)
		if isFree(c) {
			return one(c)
		}
		return strings.ToUpper(told)
	})
	in, query := s, ""
	if i := strings.Index(s, "?"); i >= 0 {
		in, query = s[:i], s[i:]
	}
	out := ""
	for in != "" {
		switch {
		case strings.HasPrefix(in, "/./"):
			in = in[2:]
		case in == "/.":
			in = "/"
		case strings.HasPrefix(in, "/../"):
			in, out = in[3:], out[:max(strings.LastIndex(out, "/"), 0)]
		case in == "/..":
			in, out = "/", out[:max(strings.LastIndex(out, "/"), 0)]
		default:
			n := strings.Index(in[1:]+"/", "/") + 1
			in, out = in[n:], out+in[:n]
		}
	}
	return out + query, api.OK
}

func checkByModel(t *testing.T, s string) {
	t.Helper()
	want, err := model(s)
	normal().check(t, s, want, err)
	if err == api.OK {
		// What has the one form keeps it.
		normal().check(t, want, want, api.OK)
	}
}

func TestNormalOfShortTexts(t *testing.T) {
	for s := range texts("/.a?", 8) {
		checkByModel(t, "/"+s)
	}
	for s := range texts("/.2Ee%F", 6) {
		checkByModel(t, "/a/"+s)
	}
	for s := range texts("/.?%# ", 5) {
		checkByModel(t, s)
	}
	pieces := []string{"/", ".", "..", "%2e", "%2F", "a", "?", "%3f", "%61"}
	for s := range texts("012345678", 5) {
		var b strings.Builder
		for i := range len(s) {
			b.WriteString(pieces[s[i]-'0'])
		}
		checkByModel(t, "/"+b.String())
	}
}

func TestNormalOneByteOtherwise(t *testing.T) {
	for _, base := range []string{"/a/../%7Eb", "/a/%2E%2e/b?x/../%41", "//..//a/.", "/" + long(195) + "/.."} {
		for i := range len(base) {
			checkByModel(t, base[:i])
			checkByModel(t, base[:i]+base[i+1:])
			for c := range 256 {
				checkByModel(t, base[:i]+one(c)+base[i+1:])
				checkByModel(t, base[:i]+one(c)+base[i:])
			}
		}
	}
}

// TestNormalTakesWhatEscapeWrites: a text behind a `/` that Escape has written is one step, whatever is in it, but for the two that lead elsewhere.
func TestNormalTakesWhatEscapeWrites(t *testing.T) {
	for s := range texts("./%a?\xff", 5) {
		text, err := escape().of(s)
		if err != api.OK {
			t.Fatalf("%q: %d", s, err)
		}
		if s != "." && s != ".." {
			normal().check(t, "/b/"+text, "/b/"+text, api.OK)
			normal().check(t, "/b/"+text+"/../c", "/b/c", api.OK)
		}
	}
}
