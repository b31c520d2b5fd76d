package line_test

import (
	"iter"
	"math"
	"regexp"
	"strconv"
	"strings"
	"testing"

	"larder/api"
	"larder/line"
)

const tokenBytes = "abcdefghijklmnopqrstuvwxyzABCDEFGHIJKLMNOPQRSTUVWXYZ0123456789" + "!#$%&'*+-.^_`|~"

func inToken(c byte) bool { return strings.IndexByte(tokenBytes, c) >= 0 }

func inTarget(c byte) bool { return c > 32 && c < 127 }

func inPlain(c byte) bool { return c == 9 || c >= 32 && c <= 126 }

func long(n int) string { return strings.Repeat("x", n) }

// around answers texts that have that byte, and else bytes that may stand everywhere.
func around(c int) []string {
	one := string([]byte{byte(c)})
	return []string{one, one + "a", "a" + one, "a" + one + "b"}
}

// wanted answers ErrSyntax, if it isn't right.
func wanted(right bool) api.Errno {
	if right {
		return api.OK
	}
	return api.ErrSyntax
}

// P11: PrintRequest.

type printRequestCase struct {
	method, target, text string
	err                  api.Errno
}

func checkPrintRequests(t *testing.T, cases []printRequestCase) {
	t.Helper()
	for _, c := range cases {
		if s, e := line.PrintRequest(c.method, c.target); s != c.text || e != c.err {
			t.Errorf("PrintRequest(%.40q, %.40q): %.40q %d, not %.40q %d", c.method, c.target, s, e, c.text, c.err)
		}
	}
}

func TestPrintRequest(t *testing.T) {
	checkPrintRequests(t, []printRequestCase{
		{"GET", "/", "GET / HTTP/1.1\r\n", api.OK},
		{"GET", "/a", "GET /a HTTP/1.1\r\n", api.OK},
		{"get", "a", "get a HTTP/1.1\r\n", api.OK},
		{"POST", "/a/../%7Eb?c=d#e", "POST /a/../%7Eb?c=d#e HTTP/1.1\r\n", api.OK},
		{"OPTIONS", "*", "OPTIONS * HTTP/1.1\r\n", api.OK},
		{"M-search", "http://a:80/\"b\"", "M-search http://a:80/\"b\" HTTP/1.1\r\n", api.OK},
		{"x", "HTTP/1.1", "x HTTP/1.1 HTTP/1.1\r\n", api.OK},
		{tokenBytes[:30], "/", tokenBytes[:30] + " / HTTP/1.1\r\n", api.OK},
		{tokenBytes[len(tokenBytes)-30:], "/", tokenBytes[len(tokenBytes)-30:] + " / HTTP/1.1\r\n", api.OK},
	})
}

func TestPrintRequestWrong(t *testing.T) {
	for _, method := range []string{"", " ", "GET ", " GET", "G T", "G\tT", "GET/", "GET\r\n", "GET\x00", "G:T", "\xc3\xa4", "\u212a"} {
		checkPrintRequests(t, []printRequestCase{{method, "/", "", api.ErrSyntax}, {method, "", "", api.ErrSyntax}})
	}
	for _, target := range []string{"", " ", "/ ", " /", "/a b", "/\t", "/\r\n", "/\n", "/\x00", "/\x7f", "/\xc3\xa4", "/ HTTP/1.1"} {
		checkPrintRequests(t, []printRequestCase{{"GET", target, "", api.ErrSyntax}, {"", target, "", api.ErrSyntax}})
	}
}

func TestPrintRequestOfEachByte(t *testing.T) {
	for c := range 256 {
		for _, text := range around(c) {
			s, e := line.PrintRequest(text, "/")
			if e != wanted(inToken(byte(c))) || e == api.OK && s != text+" / HTTP/1.1\r\n" || e != api.OK && s != "" {
				t.Errorf("method %q: %q %d", text, s, e)
			}
			s, e = line.PrintRequest("GET", text)
			if e != wanted(inTarget(byte(c))) || e == api.OK && s != "GET "+text+" HTTP/1.1\r\n" || e != api.OK && s != "" {
				t.Errorf("target %q: %q %d", text, s, e)
			}
		}
	}
}

func TestPrintRequestLimits(t *testing.T) {
	checkPrintRequests(t, []printRequestCase{
		{long(30), "/", long(30) + " / HTTP/1.1\r\n", api.OK},
		{long(31), "/", "", api.ErrSyntax},
		{"GET", long(200), "GET " + long(200) + " HTTP/1.1\r\n", api.OK},
		{"GET", long(201), "", api.ErrSyntax},
		{long(30), long(200), long(30) + " " + long(200) + " HTTP/1.1\r\n", api.OK},
		{long(31), long(201), "", api.ErrSyntax},
		{long(100000), "/", "", api.ErrSyntax},
		{"GET", long(100000), "", api.ErrSyntax},
	})
}

// P11: PrintStatus.

type printStatusCase struct {
	code   int
	reason string
	text   string
	err    api.Errno
}

func checkPrintStatuses(t *testing.T, cases []printStatusCase) {
	t.Helper()
	for _, c := range cases {
		if s, e := line.PrintStatus(c.code, c.reason); s != c.text || e != c.err {
			t.Errorf("PrintStatus(%d, %.40q): %.40q %d, not %.40q %d", c.code, c.reason, s, e, c.text, c.err)
		}
	}
}

func TestPrintStatus(t *testing.T) {
	checkPrintStatuses(t, []printStatusCase{
		{200, "OK", "HTTP/1.1 200 OK\r\n", api.OK},
		{404, "Not Found", "HTTP/1.1 404 Not Found\r\n", api.OK},
		{404, "", "HTTP/1.1 404 \r\n", api.OK},
		{404, " ", "HTTP/1.1 404  \r\n", api.OK},
		{404, " \ta\t ", "HTTP/1.1 404  \ta\t \r\n", api.OK},
		{100, "Continue", "HTTP/1.1 100 Continue\r\n", api.OK},
		{599, "~", "HTTP/1.1 599 ~\r\n", api.OK},
	})
}

func TestPrintStatusOfEachCode(t *testing.T) {
	for code := -1100; code <= 1100; code++ {
		want := printStatusCase{code, "a", "", api.ErrArg}
		if code >= 100 && code <= 599 {
			want = printStatusCase{code, "a", "HTTP/1.1 " + strconv.Itoa(code) + " a\r\n", api.OK}
		}
		checkPrintStatuses(t, []printStatusCase{want})
	}
	for _, code := range []int{math.MinInt, math.MinInt32, 1<<32 + 200, 1<<16 + 200, math.MaxInt32, math.MaxInt} {
		checkPrintStatuses(t, []printStatusCase{{code, "a", "", api.ErrArg}})
	}
}

func TestPrintStatusOfEachByte(t *testing.T) {
	for c := range 256 {
		for _, text := range around(c) {
			s, e := line.PrintStatus(200, text)
			if e != wanted(inPlain(byte(c))) || e == api.OK && s != "HTTP/1.1 200 "+text+"\r\n" || e != api.OK && s != "" {
				t.Errorf("reason %q: %q %d", text, s, e)
			}
		}
	}
}

func TestPrintStatusLimits(t *testing.T) {
	checkPrintStatuses(t, []printStatusCase{
		{200, long(100), "HTTP/1.1 200 " + long(100) + "\r\n", api.OK},
		{200, long(101), "", api.ErrSyntax},
		{200, long(100) + " ", "", api.ErrSyntax},
		{200, long(100000), "", api.ErrSyntax},
	})
}

func TestPrintStatusWhichError(t *testing.T) {
	for _, reason := range []string{"", "a", "\n", "\xff", long(101)} {
		checkPrintStatuses(t, []printStatusCase{{99, reason, "", api.ErrArg}, {600, reason, "", api.ErrArg}})
	}
	checkPrintStatuses(t, []printStatusCase{{100, "\n", "", api.ErrSyntax}, {599, "\n", "", api.ErrSyntax}})
}

// P12: ParseRequest.

type request struct {
	method, target string
	n              int
	err            api.Errno
}

func checkRequest(t *testing.T, s string, want request) {
	t.Helper()
	var got request
	got.method, got.target, got.n, got.err = line.ParseRequest(s)
	if got != want {
		t.Errorf("ParseRequest(%.60q, %d bytes): %v, not %v", s, len(s), got, want)
	}
}

func checkNoRequest(t *testing.T, want api.Errno, texts ...string) {
	t.Helper()
	for _, s := range texts {
		checkRequest(t, s, request{err: want})
	}
}

func TestParseRequest(t *testing.T) {
	checkRequest(t, "GET / HTTP/1.1\r\n", request{"GET", "/", 16, api.OK})
	checkRequest(t, "GET /a HTTP/1.1\r\nx", request{"GET", "/a", 17, api.OK})
	checkRequest(t, "get a HTTP/1.1\r\n\r\n", request{"get", "a", 16, api.OK})
	checkRequest(t, "OPTIONS * HTTP/1.1\r\na: b\r\n\r\n", request{"OPTIONS", "*", 20, api.OK})
	checkRequest(t, "x HTTP/1.1 HTTP/1.1\r\n", request{"x", "HTTP/1.1", 21, api.OK})
	checkRequest(t, "x http://a/?b#c HTTP/1.1\r\n", request{"x", "http://a/?b#c", 26, api.OK})
	checkRequest(t, "GET /a HTTP/1.1\r\nGET /b HTTP/1.1\r\n", request{"GET", "/a", 17, api.OK})
	checkRequest(t, "GET /a HTTP/1.1\r\n"+long(100000), request{"GET", "/a", 17, api.OK})
	checkRequest(t, "GET /a HTTP/1.1\r\n\x00\xff", request{"GET", "/a", 17, api.OK})
}

func TestParseRequestWrong(t *testing.T) {
	checkNoRequest(t, api.ErrSyntax,
		"\r\n", " \r\n", "  \r\n", "GET\r\n", "GET \r\n", "GET /a\r\n", "GET /a \r\n",
		"HTTP/1.1\r\n", " HTTP/1.1\r\n", "  HTTP/1.1\r\n", "GET HTTP/1.1\r\n", "GET  HTTP/1.1\r\n", " / HTTP/1.1\r\n",
		"GET  / HTTP/1.1\r\n", "GET /  HTTP/1.1\r\n", " GET / HTTP/1.1\r\n", "GET / HTTP/1.1 \r\n", "GET / a HTTP/1.1\r\n",
		"GET\t/ HTTP/1.1\r\n", "GET /\tHTTP/1.1\r\n", "GET/ HTTP/1.1\r\n", "GET /HTTP/1.1\r\n",
		"GET / HTTP/1.0\r\n", "GET / HTTP/2\r\n", "GET / http/1.1\r\n", "GET / HTTP/1.10\r\n", "GET / HTTP/1.1a\r\n", "GET / HTTP/1,1\r\n",
		"GET / HTTP/1.1\r\r\n", "GET / HTTP/1.1\n\r\n", "GET /\n HTTP/1.1\r\n", "GET / HTTP/1.1\na: b\r\n", "\r\nGET / HTTP/1.1\r\n", "\nGET / HTTP/1.1\r\n",
		"G@T / HTTP/1.1\r\n", "G\x00T / HTTP/1.1\r\n", "GET /\xc3\xa4 HTTP/1.1\r\n", "GET /\x7f HTTP/1.1\r\n", "GET /\x00 HTTP/1.1\r\n",
		"HTTP/1.1 200 OK\r\n",
	)
}

func TestParseRequestShort(t *testing.T) {
	whole := "GET /a HTTP/1.1\r\n"
	for i := range len(whole) {
		checkNoRequest(t, api.ErrShort, whole[:i])
	}
	// What has no end is short, even if it can't become a line.
	checkNoRequest(t, api.ErrShort, " ", "\n", "\r", "\n\r", "GET / HTTP/1.1\n", "GET / HTTP/1.1\n\r", "GET / HTTP/1.0", "\x00\xff")
}

func TestParseRequestLimits(t *testing.T) {
	for _, method := range []string{"x", long(29), long(30)} {
		for _, target := range []string{"/", long(199), long(200)} {
			s := method + " " + target + " HTTP/1.1\r\n"
			checkRequest(t, s, request{method, target, len(s), api.OK})
			checkRequest(t, s+"a", request{method, target, len(s), api.OK})
		}
	}
	checkNoRequest(t, api.ErrSyntax, long(31)+" / HTTP/1.1\r\n", "GET "+long(201)+" HTTP/1.1\r\n", long(31)+" "+long(201)+" HTTP/1.1\r\n")
}

func TestParseRequestLineLimit(t *testing.T) {
	fill := func(n int) string { return "GET /" + long(n-len("GET / HTTP/1.1")) + " HTTP/1.1" }
	checkNoRequest(t, api.ErrSyntax, fill(300)+"\r\n", fill(299)+"\r\n", long(300)+"\r\n", fill(300)+"\r\n"+long(1000))
	checkNoRequest(t, api.ErrLarge, fill(301)+"\r\n", fill(302)+"\r\n", long(301)+"\r\n", fill(301)+"\r\n"+long(1000), fill(100000)+"\r\n")
	checkNoRequest(t, api.ErrShort, fill(300), fill(301), long(301), fill(300)+"\r", fill(300)+"\n")
	checkNoRequest(t, api.ErrLarge, fill(302), long(302), fill(301)+"\r", fill(301)+"\n", fill(100000), strings.Repeat("\r", 302), strings.Repeat("\n", 302))
	// An end that comes late is one: the line is too long.
	checkNoRequest(t, api.ErrLarge, strings.Repeat("\r", 301)+"\r\n", long(302)+"\r\nGET / HTTP/1.1\r\n")
	checkNoRequest(t, api.ErrSyntax, strings.Repeat("\r", 300)+"\r\n")
}

// P12: ParseStatus.

type status struct {
	code   int
	reason string
	n      int
	err    api.Errno
}

func checkStatus(t *testing.T, s string, want status) {
	t.Helper()
	var got status
	got.code, got.reason, got.n, got.err = line.ParseStatus(s)
	if got != want {
		t.Errorf("ParseStatus(%.60q, %d bytes): %v, not %v", s, len(s), got, want)
	}
}

func checkNoStatus(t *testing.T, want api.Errno, texts ...string) {
	t.Helper()
	for _, s := range texts {
		checkStatus(t, s, status{err: want})
	}
}

func TestParseStatus(t *testing.T) {
	checkStatus(t, "HTTP/1.1 200 OK\r\n", status{200, "OK", 17, api.OK})
	checkStatus(t, "HTTP/1.1 404 Not Found\r\nx", status{404, "Not Found", 24, api.OK})
	checkStatus(t, "HTTP/1.1 404 \r\n", status{404, "", 15, api.OK})
	checkStatus(t, "HTTP/1.1 404  \r\n", status{404, " ", 16, api.OK})
	checkStatus(t, "HTTP/1.1 404  \ta\t \r\n\r\n", status{404, " \ta\t ", 20, api.OK})
	checkStatus(t, "HTTP/1.1 100 200 OK\r\n", status{100, "200 OK", 21, api.OK})
	checkStatus(t, "HTTP/1.1 599 HTTP/1.1\r\nHTTP/1.1 200 OK\r\n", status{599, "HTTP/1.1", 23, api.OK})
	checkStatus(t, "HTTP/1.1 200 OK\r\n"+long(100000), status{200, "OK", 17, api.OK})
	checkStatus(t, "HTTP/1.1 200 OK\r\n\x00\xff", status{200, "OK", 17, api.OK})
}

func TestParseStatusWrong(t *testing.T) {
	checkNoStatus(t, api.ErrSyntax,
		"\r\n", " \r\n", "HTTP/1.1\r\n", "HTTP/1.1 \r\n", "HTTP/1.1  \r\n", "HTTP/1.1 404\r\n", "HTTP/1.1404 \r\n",
		"HTTP/1.1  404 a\r\n", " HTTP/1.1 404 a\r\n", "HTTP/1.1\t404 a\r\n", "HTTP/1.1 404\ta\r\n", "HTTP/1.1 404a b\r\n",
		"HTTP/1.0 404 a\r\n", "http/1.1 404 a\r\n", "HTTP/1.10 404 a\r\n", "HTTP/2 404 a\r\n", "404 a\r\n", "aHTTP/1.1 404 a\r\n",
		"HTTP/1.1 404 a\r\r\n", "HTTP/1.1 404 a\n\r\n", "HTTP/1.1 404 \n\r\n", "HTTP/1.1 404 a\nb: c\r\n", "\r\nHTTP/1.1 404 a\r\n",
		"HTTP/1.1 404 \x00\r\n", "HTTP/1.1 404 \x7f\r\n", "HTTP/1.1 404 \xc3\xa4\r\n",
		"GET / HTTP/1.1\r\n",
	)
}

func TestParseStatusOfEachCode(t *testing.T) {
	for code := range 1100 {
		text := strconv.Itoa(code)
		s := "HTTP/1.1 " + text + " a\r\n"
		if code < 100 || code > 599 {
			checkNoStatus(t, api.ErrSyntax, s)
		} else {
			checkStatus(t, s, status{code, "a", len(s), api.OK})
		}
		for _, other := range []string{"0" + text, "00" + text, "+" + text, "-" + text, text + "0000", text + ".", "1e" + text, "0x" + text, "_" + text} {
			checkNoStatus(t, api.ErrSyntax, "HTTP/1.1 "+other+" a\r\n")
		}
	}
}

func TestParseStatusNumbers(t *testing.T) {
	for _, text := range []string{
		"", "1", "20", "099", "0200", "+200", "-200", "+20", "2 0", "2_0", "2_00", "20a", "0x1", "1e2", "2.0", "\u0662\u0660\u0660",
		"4294967496", "18446744073709551816", "99999999999999999999999", strings.Repeat("9", 200), "\x002\x00", "20:", "20/",
	} {
		checkNoStatus(t, api.ErrSyntax, "HTTP/1.1 "+text+" a\r\n")
	}
}

func TestParseStatusShort(t *testing.T) {
	whole := "HTTP/1.1 404 Not Found\r\n"
	for i := range len(whole) {
		checkNoStatus(t, api.ErrShort, whole[:i])
	}
	checkNoStatus(t, api.ErrShort, " ", "\n", "\r", "\n\r", "HTTP/1.1 404 a\n", "HTTP/1.1 404 a\n\r", "HTTP/1.0 404 a", "\x00\xff")
}

func TestParseStatusLimits(t *testing.T) {
	for _, n := range []int{0, 1, 99, 100} {
		checkStatus(t, "HTTP/1.1 200 "+long(n)+"\r\n", status{200, long(n), n + 15, api.OK})
	}
	checkNoStatus(t, api.ErrSyntax, "HTTP/1.1 200 "+long(101)+"\r\n", "HTTP/1.1 200 "+long(100)+" \r\n", "HTTP/1.1 200  "+long(100)+"\r\n")
}

func TestParseStatusLineLimit(t *testing.T) {
	fill := func(n int) string { return "HTTP/1.1 200 " + long(n-len("HTTP/1.1 200 ")) }
	checkNoStatus(t, api.ErrSyntax, fill(300)+"\r\n", fill(299)+"\r\n", long(300)+"\r\n", fill(300)+"\r\n"+long(1000))
	checkNoStatus(t, api.ErrLarge, fill(301)+"\r\n", fill(302)+"\r\n", long(301)+"\r\n", fill(301)+"\r\n"+long(1000), fill(100000)+"\r\n")
	checkNoStatus(t, api.ErrShort, fill(300), fill(301), long(301), fill(300)+"\r", fill(300)+"\n")
	checkNoStatus(t, api.ErrLarge, fill(302), long(302), fill(301)+"\r", fill(301)+"\n", fill(100000), strings.Repeat("\r", 302), strings.Repeat("\n", 302))
	checkNoStatus(t, api.ErrLarge, strings.Repeat("\r", 301)+"\r\n", long(302)+"\r\nHTTP/1.1 200 OK\r\n")
	checkNoStatus(t, api.ErrSyntax, strings.Repeat("\r", 300)+"\r\n")
}

// P11 and P12 together.

var (
	requestForm = regexp.MustCompile("\\A([!#$%&'*+\\-.^_`|~0-9A-Za-z]{1,30}) ([!-~]{1,200}) HTTP/1\\.1\\z")
	statusForm  = regexp.MustCompile("\\AHTTP/1\\.1 ([1-5][0-9][0-9]) ([\t -~]{0,100})\\z")
)

// byForm answers what stands in the line with which s begins, by other means than the program.
func byForm(form *regexp.Regexp, s string) (first, second string, n int, err api.Errno) {
	end := strings.Index(s, "\r\n")
	switch {
	case end < 0 && len(s) > 301, end > 300:
		return "", "", 0, api.ErrLarge
	case end < 0:
		return "", "", 0, api.ErrShort
	}
	found := form.FindStringSubmatch(s[:end])
	if found == nil {
		return "", "", 0, api.ErrSyntax
	}
	return found[1], found[2], end + 2, api.OK
}

func checkByForm(t *testing.T, s string) {
	t.Helper()
	var r request
	r.method, r.target, r.n, r.err = byForm(requestForm, s)
	checkRequest(t, s, r)
	code, reason, n, err := byForm(statusForm, s)
	number, _ := strconv.Atoi(code)
	checkStatus(t, s, status{number, reason, n, err})
}

// bases are lines at the edges, so that what differs a little from them is wrong in some ways and right in others.
func bases() []string {
	return []string{
		"GET / HTTP/1.1\r\n",
		"a b HTTP/1.1\r\nGET / HTTP/1.1\r\n",
		long(30) + " " + long(200) + " HTTP/1.1\r\n",
		"HTTP/1.1 200 OK\r\n",
		"HTTP/1.1 599 \r\nHTTP/1.1 200 OK\r\n",
		"HTTP/1.1 100 " + long(100) + "\r\n",
		long(300) + "\r\n",
	}
}

// nearby are all texts that differ from s in one byte, which is another one, or gone, or there twice, or new.
func nearby(s string) iter.Seq[string] {
	return func(yield func(string) bool) {
		for i := range len(s) {
			if !yield(s[:i]) || !yield(s[:i]+s[i+1:]) {
				return
			}
			for c := range 256 {
				one := string([]byte{byte(c)})
				if !yield(s[:i]+one+s[i+1:]) || !yield(s[:i]+one+s[i:]) {
					return
				}
			}
		}
	}
}

func TestParseOneByteOtherwise(t *testing.T) {
	for _, base := range bases() {
		checkByForm(t, base)
		for s := range nearby(base) {
			checkByForm(t, s)
		}
	}
}

func TestParseOfShortTexts(t *testing.T) {
	for s := range texts("a/ \t\r\n", 5) {
		for _, tail := range []string{"", "\r\n", " HTTP/1.1\r\n"} {
			checkByForm(t, s+tail)
			checkByForm(t, "HTTP/1.1 200"+s+tail)
		}
	}
	for s := range texts("0159 +", 5) {
		checkByForm(t, "HTTP/1.1 "+s+"\r\n")
	}
}

func TestParseRequestReadsWhatPrintRequestWrites(t *testing.T) {
	for method := range texts("a! \r", 3) {
		for target := range texts("b/ \n", 3) {
			s, e := line.PrintRequest(method, target)
			if e == api.OK {
				checkRequest(t, s, request{method, target, len(s), api.OK})
				checkRequest(t, s+s, request{method, target, len(s), api.OK})
				checkNoRequest(t, api.ErrShort, s[:len(s)-1])
			} else {
				checkNoRequest(t, api.ErrSyntax, method+" "+target+" HTTP/1.1\r\n")
			}
		}
	}
}

func TestParseStatusReadsWhatPrintStatusWrites(t *testing.T) {
	for code := 90; code < 620; code++ {
		for reason := range texts("a \t\xff", 2) {
			s, e := line.PrintStatus(code, reason)
			if e == api.OK {
				checkStatus(t, s, status{code, reason, len(s), api.OK})
				checkStatus(t, s+s, status{code, reason, len(s), api.OK})
				checkNoStatus(t, api.ErrShort, s[:len(s)-1])
			} else {
				checkNoStatus(t, api.ErrSyntax, "HTTP/1.1 "+strconv.Itoa(code)+" "+reason+"\r\n")
			}
		}
	}
}
