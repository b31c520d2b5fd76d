package msg_test

import (
	"math"
	"slices"
	"strconv"
	"strings"
	"testing"

	"larder/api"
	"larder/body"
	"larder/field"
	"larder/line"
	"larder/msg"
)

func long(n int) string { return strings.Repeat("x", n) }

// fields answers a list of fields of these names and values, one behind the other.
func fields(texts ...string) []api.Field {
	var l []api.Field
	for pair := range slices.Chunk(texts, 2) {
		l = append(l, api.Field{Name: pair[0], Value: pair[1]})
	}
	return l
}

// lengths answers a list of fields that say these lengths.
func lengths(values ...string) []api.Field {
	var l []api.Field
	for _, v := range values {
		l = append(l, api.Field{Name: "Content-Length", Value: v})
	}
	return l
}

func chunked() []api.Field { return fields("Transfer-Encoding", "chunked") }

func post(l []api.Field, text string) api.Request {
	return api.Request{Method: "POST", Target: "/a", Fields: l, Body: text}
}

func reply(code int, l []api.Field, text string) api.Response {
	return api.Response{Code: code, Reason: "b", Fields: l, Body: text}
}

// many answers so many fields.
func many(n int) []api.Field {
	var l []api.Field
	for i := range n {
		l = append(l, api.Field{Name: "F", Value: strconv.Itoa(i)})
	}
	return l
}

// P17: WriteRequest.

func checkWriteRequest(t *testing.T, r api.Request, want string, err api.Errno) {
	t.Helper()
	if s, e := msg.WriteRequest(r); s != want || e != err {
		t.Errorf("WriteRequest(%.80q): %.80q %d, not %.80q %d", r, s, e, want, err)
	}
}

func TestWriteRequest(t *testing.T) {
	checkWriteRequest(t, api.Request{Method: "GET", Target: "/"}, "GET / HTTP/1.1\r\n\r\n", api.OK)
	checkWriteRequest(t, api.Request{Method: "GET", Target: "/a?b", Fields: fields("Host", "a", "X", ""), Body: ""}, "GET /a?b HTTP/1.1\r\nHost: a\r\nX: \r\n\r\n", api.OK)
	checkWriteRequest(t, post(lengths("2"), "hi"), "POST /a HTTP/1.1\r\nContent-Length: 2\r\n\r\nhi", api.OK)
	checkWriteRequest(t, post(lengths("2", "2"), "hi"), "POST /a HTTP/1.1\r\nContent-Length: 2\r\nContent-Length: 2\r\n\r\nhi", api.OK)
	checkWriteRequest(t, post(lengths("0"), ""), "POST /a HTTP/1.1\r\nContent-Length: 0\r\n\r\n", api.OK)
	checkWriteRequest(t, post(fields("content-length", "3", "A", "b"), "\r\n\x00"), "POST /a HTTP/1.1\r\ncontent-length: 3\r\nA: b\r\n\r\n\r\n\x00", api.OK)
	checkWriteRequest(t, post(chunked(), "hello"), "POST /a HTTP/1.1\r\nTransfer-Encoding: chunked\r\n\r\n5\r\nhello\r\n0\r\n\r\n", api.OK)
	checkWriteRequest(t, post(fields("transfer-encoding", "CHUNKED"), ""), "POST /a HTTP/1.1\r\ntransfer-encoding: CHUNKED\r\n\r\n0\r\n\r\n", api.OK)
	checkWriteRequest(t, api.Request{Method: "HEAD", Target: "/", Fields: lengths("1"), Body: "x"}, "HEAD / HTTP/1.1\r\nContent-Length: 1\r\n\r\nx", api.OK)
	checkWriteRequest(t, post(many(30), ""), "POST /a HTTP/1.1\r\n"+printed(many(30)), api.OK)
}

func printed(l []api.Field) string {
	var b strings.Builder
	for _, f := range l {
		b.WriteString(f.Name + ": " + f.Value + "\r\n")
	}
	return b.String() + "\r\n"
}

func TestWriteRequestWithAnotherBody(t *testing.T) {
	for _, n := range []int{1, 2, 100, 5000, 5001, 100000} {
		checkWriteRequest(t, post(nil, long(n)), "", api.ErrForm)
		checkWriteRequest(t, post(fields("Host", "a"), long(n)), "", api.ErrForm)
	}
	for _, n := range []int{0, 1, 9, 10, 64, 4999, 5000} {
		head := "POST /a HTTP/1.1\r\nContent-Length: " + strconv.Itoa(n) + "\r\n\r\n"
		for m := max(0, n-2); m < n+3; m++ {
			if m == n {
				checkWriteRequest(t, post(lengths(strconv.Itoa(n)), long(m)), head+long(m), api.OK)
			} else {
				checkWriteRequest(t, post(lengths(strconv.Itoa(n)), long(m)), "", api.ErrForm)
			}
		}
	}
}

// chunks answers the text in chunks of 64 bytes.
func chunks(s string) string {
	out := ""
	for len(s) >= 64 {
		out += "40\r\n" + s[:64] + "\r\n"
		s = s[64:]
	}
	if s != "" {
		out += strconv.FormatInt(int64(len(s)), 16) + "\r\n" + s + "\r\n"
	}
	return out + "0\r\n\r\n"
}

func TestWriteInChunks(t *testing.T) {
	for _, n := range []int{0, 1, 2, 15, 16, 63, 64, 65, 127, 128, 129, 1000, 4999, 5000} {
		checkWriteRequest(t, post(chunked(), long(n)), "POST /a HTTP/1.1\r\nTransfer-Encoding: chunked\r\n\r\n"+chunks(long(n)), api.OK)
		checkWriteResponse(t, "GET", reply(200, chunked(), long(n)), "HTTP/1.1 200 b\r\nTransfer-Encoding: chunked\r\n\r\n"+chunks(long(n)), api.OK)
	}
	for _, n := range []int{5001, 5002, 10000, 100000} {
		checkWriteRequest(t, post(chunked(), long(n)), "", api.ErrLarge)
		checkWriteResponse(t, "GET", reply(200, chunked(), long(n)), "", api.ErrLarge)
	}
}

// stage is something that is wrong, and what is said of it; those of a later one are not come to.
type stage struct {
	err    api.Errno
	spoilt func(first *string, l *[]api.Field, text *string)
}

// stages are in the order in which they are told.
func stages() [][]stage {
	return [][]stage{
		{
			{api.ErrSyntax, func(first *string, _ *[]api.Field, _ *string) { *first = "\n" }},
			{api.ErrSyntax, func(first *string, _ *[]api.Field, _ *string) { *first = long(1000) }},
		}, {
			{api.ErrLarge, func(_ *string, l *[]api.Field, _ *string) { *l = append(*l, many(31)...) }},
			{api.ErrSyntax, func(_ *string, l *[]api.Field, _ *string) { *l = append(fields("a b", "c"), *l...) }},
			{api.ErrSyntax, func(_ *string, l *[]api.Field, _ *string) { *l = append(fields("a", "c\r\nd: e"), *l...) }},
			{api.ErrSyntax, func(_ *string, l *[]api.Field, _ *string) { *l = append(fields("a", " c"), *l...) }},
			{api.ErrLarge, func(_ *string, l *[]api.Field, _ *string) { *l = append(fields("a", long(1001)), *l...) }},
			{api.ErrLarge, func(_ *string, l *[]api.Field, _ *string) { *l = append(fields(long(31), "a"), *l...) }},
		}, {
			{api.ErrForm, func(_ *string, l *[]api.Field, _ *string) { *l = append(fields("Content-Length", "x"), *l...) }},
			{api.ErrForm, func(_ *string, l *[]api.Field, _ *string) { *l = append(fields("Transfer-Encoding", "gzip"), *l...) }},
			{api.ErrForm, func(_ *string, l *[]api.Field, _ *string) {
				*l = append(fields("Content-Length", "2", "Transfer-Encoding", "chunked"), *l...)
			}},
			{api.ErrLarge, func(_ *string, l *[]api.Field, _ *string) { *l = lengths("5001") }},
		}, {
			{api.ErrForm, func(_ *string, l *[]api.Field, text *string) { *text += "x" }},
			{api.ErrForm, func(_ *string, l *[]api.Field, text *string) { *text = (*text)[1:] }},
		},
	}
}

// checkStages spoils a message at one or two stages, and wants the error of the first one of them.
func checkStages(t *testing.T, write func(first string, l []api.Field, text string) (string, api.Errno)) {
	t.Helper()
	if s, e := write("a", lengths("2"), "hi"); s == "" || e != api.OK {
		t.Fatal(s, e)
	}
	all := stages()
	for i := range all {
		for _, one := range all[i] {
			for j := i; j < len(all); j++ {
				for _, other := range all[j] {
					first, l, text := "a", lengths("2"), "hi"
					if j > i {
						other.spoilt(&first, &l, &text)
					}
					one.spoilt(&first, &l, &text)
					if s, e := write(first, l, text); s != "" || e != one.err {
						t.Errorf("%.20q %.60q %.20q: %.40q %d, not %d", first, l, text, s, e, one.err)
					}
				}
			}
		}
	}
}

func TestWriteWhichError(t *testing.T) {
	checkStages(t, func(first string, l []api.Field, text string) (string, api.Errno) {
		return msg.WriteRequest(api.Request{Method: first, Target: "/", Fields: l, Body: text})
	})
	checkStages(t, func(first string, l []api.Field, text string) (string, api.Errno) {
		return msg.WriteRequest(api.Request{Method: "POST", Target: first, Fields: l, Body: text})
	})
	checkStages(t, func(first string, l []api.Field, text string) (string, api.Errno) {
		return msg.WriteResponse("GET", api.Response{Code: 200, Reason: first, Fields: l, Body: text})
	})
}

// P17: WriteResponse.

func checkWriteResponse(t *testing.T, method string, r api.Response, want string, err api.Errno) {
	t.Helper()
	if s, e := msg.WriteResponse(method, r); s != want || e != err {
		t.Errorf("WriteResponse(%.20q, %.80v): %.80q %d, not %.80q %d", method, r, s, e, want, err)
	}
}

func TestWriteResponse(t *testing.T) {
	checkWriteResponse(t, "GET", api.Response{Code: 200}, "HTTP/1.1 200 \r\n\r\n", api.OK)
	checkWriteResponse(t, "GET", api.Response{Code: 200, Reason: "OK", Body: "all of it"}, "HTTP/1.1 200 OK\r\n\r\nall of it", api.OK)
	checkWriteResponse(t, "GET", reply(404, lengths("2"), "no"), "HTTP/1.1 404 b\r\nContent-Length: 2\r\n\r\nno", api.OK)
	checkWriteResponse(t, "GET", reply(200, chunked(), "abc"), "HTTP/1.1 200 b\r\nTransfer-Encoding: chunked\r\n\r\n3\r\nabc\r\n0\r\n\r\n", api.OK)
	checkWriteResponse(t, "GET", reply(304, lengths("9"), ""), "HTTP/1.1 304 b\r\nContent-Length: 9\r\n\r\n", api.OK)
	checkWriteResponse(t, "HEAD", reply(200, lengths("9"), ""), "HTTP/1.1 200 b\r\nContent-Length: 9\r\n\r\n", api.OK)
	checkWriteResponse(t, "HEAD", reply(200, chunked(), ""), "HTTP/1.1 200 b\r\nTransfer-Encoding: chunked\r\n\r\n", api.OK)
	checkWriteResponse(t, "HEAD", reply(200, fields("Transfer-Encoding", "x", "Content-Length", "y"), ""), "HTTP/1.1 200 b\r\nTransfer-Encoding: x\r\nContent-Length: y\r\n\r\n", api.OK)
}

func TestWriteResponseOfEachCode(t *testing.T) {
	for code := -100; code < 1000; code++ {
		first := "HTTP/1.1 " + strconv.Itoa(code) + " b\r\n"
		none := code < 200 || code == 204 || code == 304
		for _, method := range []string{"GET", "HEAD", "head", "", "\x00"} {
			none := none || method == "HEAD"
			switch {
			case code < 100 || code > 599:
				checkWriteResponse(t, method, reply(code, nil, ""), "", api.ErrArg)
				checkWriteResponse(t, method, reply(code, lengths("x"), "a"), "", api.ErrArg)
			case none:
				checkWriteResponse(t, method, reply(code, nil, ""), first+"\r\n", api.OK)
				checkWriteResponse(t, method, reply(code, lengths("2"), ""), first+"Content-Length: 2\r\n\r\n", api.OK)
				checkWriteResponse(t, method, reply(code, nil, "a"), "", api.ErrForm)
				checkWriteResponse(t, method, reply(code, lengths("2"), "hi"), "", api.ErrForm)
				checkWriteResponse(t, method, reply(code, chunked(), "hi"), "", api.ErrForm)
				checkWriteResponse(t, method, reply(code, nil, long(5001)), "", api.ErrForm)
			default:
				checkWriteResponse(t, method, reply(code, nil, "a"), first+"\r\na", api.OK)
				checkWriteResponse(t, method, reply(code, lengths("2"), "hi"), first+"Content-Length: 2\r\n\r\nhi", api.OK)
				checkWriteResponse(t, method, reply(code, lengths("2"), ""), "", api.ErrForm)
				checkWriteResponse(t, method, reply(code, lengths("2"), "hey"), "", api.ErrForm)
			}
		}
	}
	for _, code := range []int{math.MinInt, 1<<32 + 200, math.MaxInt} {
		checkWriteResponse(t, "GET", reply(code, nil, ""), "", api.ErrArg)
	}
}

func TestWriteResponseToTheEnd(t *testing.T) {
	for _, n := range []int{0, 1, 64, 4999, 5000} {
		checkWriteResponse(t, "GET", reply(200, nil, long(n)), "HTTP/1.1 200 b\r\n\r\n"+long(n), api.OK)
		checkWriteResponse(t, "GET", reply(200, fields("A", "b"), long(n)), "HTTP/1.1 200 b\r\nA: b\r\n\r\n"+long(n), api.OK)
	}
	for _, n := range []int{5001, 5002, 100000} {
		checkWriteResponse(t, "GET", reply(200, nil, long(n)), "", api.ErrLarge)
	}
	checkWriteResponse(t, "GET", reply(200, lengths("5000"), long(5001)), "", api.ErrForm)
}

// P18: ReadRequest.

func sameRequest(a, b api.Request) bool {
	return a.Method == b.Method && a.Target == b.Target && slices.Equal(a.Fields, b.Fields) && a.Body == b.Body
}

func checkReadRequest(t *testing.T, s string, want api.Request, n int, err api.Errno) {
	t.Helper()
	if r, m, e := msg.ReadRequest(s); !sameRequest(r, want) || m != n || e != err {
		t.Errorf("ReadRequest(%.80q, %d bytes): %.80q %d %d, not %.80q %d %d", s, len(s), r, m, e, want, n, err)
	}
}

func checkNoRequest(t *testing.T, err api.Errno, texts ...string) {
	t.Helper()
	for _, s := range texts {
		checkReadRequest(t, s, api.Request{}, 0, err)
	}
}

// behinds are of no matter to a message whose end is ahead of them.
func behinds() []string {
	return []string{"", "x", "\r\n", "GET / HTTP/1.1\r\n\r\n", "HTTP/1.1 200 OK\r\n\r\n", "\x00", long(6000)}
}

func TestReadRequest(t *testing.T) {
	check := func(s string, want api.Request) {
		t.Helper()
		for _, behind := range behinds() {
			checkReadRequest(t, s+behind, want, len(s), api.OK)
		}
	}
	check("GET / HTTP/1.1\r\n\r\n", api.Request{Method: "GET", Target: "/"})
	check("POST /a HTTP/1.1\r\nContent-Length: 2\r\n\r\nhi", post(lengths("2"), "hi"))
	check("POST /a HTTP/1.1\r\nContent-Length:0\r\n\r\n", post(lengths("0"), ""))
	check("POST /a HTTP/1.1\r\ncontent-length: \t 2, 2 \r\nA:b\r\n\r\nhi", post(fields("content-length", "2, 2", "A", "b"), "hi"))
	check("POST /a HTTP/1.1\r\nTransfer-Encoding: chunked\r\n\r\n3;x\r\nhel\r\n02\r\nlo\r\n0\r\nC: d\r\n\r\n", post(chunked(), "hello"))
	check("HEAD / HTTP/1.1\r\nContent-Length: 1\r\n\r\nx", api.Request{Method: "HEAD", Target: "/", Fields: lengths("1"), Body: "x"})
}

func TestReadRequestWrong(t *testing.T) {
	checkNoRequest(t, api.ErrSyntax, "GET  / HTTP/1.1\r\n\r\n", "\r\n", "HTTP/1.1 200 OK\r\n\r\n", "GET / HTTP/1.0\r\n\r\n", "GET / HTTP/1.1\n\r\n\r\n")
	checkNoRequest(t, api.ErrSyntax, "GET / HTTP/1.1\r\na\r\n\r\n", "GET / HTTP/1.1\r\na : b\r\n\r\n", "GET / HTTP/1.1\r\na: b\r\n c\r\n\r\n", "GET / HTTP/1.1\r\na: b\nc: d\r\n\r\n")
	checkNoRequest(t, api.ErrLarge, long(302), long(301)+"\r\n", "GET / HTTP/1.1\r\n"+long(1102), "GET / HTTP/1.1\r\n"+printed(many(31)), "GET / HTTP/1.1\r\na:"+long(1001)+"\r\n", "GET / HTTP/1.1\r\n"+long(31)+":a\r\n")
	for _, wrong := range []string{"Content-Length: x", "Content-Length: -1", "Content-Length: 02", "Content-Length: 2, 3", "Content-Length:", "Content-Length: 2\r\ncontent-length: 3",
		"Transfer-Encoding: gzip", "Transfer-Encoding: chunked, chunked", "Transfer-Encoding: chunked\r\nTransfer-Encoding: chunked", "Transfer-Encoding: chunked\r\nContent-Length: 2", "Content-Length: 2\r\nTransfer-Encoding: chunked", "Transfer-Encoding:"} {
		checkNoRequest(t, api.ErrForm, "POST /a HTTP/1.1\r\n"+wrong+"\r\n\r\n", "POST /a HTTP/1.1\r\n"+wrong+"\r\n\r\nhi", "POST /a HTTP/1.1\r\n"+wrong+"\r\n\r\n2\r\nhi\r\n0\r\n\r\n")
	}
	checkNoRequest(t, api.ErrLarge, "POST /a HTTP/1.1\r\nContent-Length: 5001\r\n\r\n", "POST /a HTTP/1.1\r\nContent-Length: 5001\r\n\r\n"+long(5001))
	head := "POST /a HTTP/1.1\r\nTransfer-Encoding: chunked\r\n\r\n"
	checkNoRequest(t, api.ErrSyntax, head+"x", head+"2\r\nhix", head+"2\r\nhi\r\n\r\n", head+"00000", head+"0\r\na b: c\r\n")
	checkNoRequest(t, api.ErrLarge, head+"1389\r\n", head+"1388\r\n"+long(5000)+"\r\n1\r\n", head+"0\r\n"+long(1102))
}

func TestReadRequestWhichError(t *testing.T) {
	checkNoRequest(t, api.ErrSyntax, "GET\r\n"+long(1102), "GET\r\nContent-Length: 5001\r\n\r\n", "GET / HTTP/1.1\r\na\r\nContent-Length: 5001\r\n\r\n", "GET / HTTP/1.1\r\nContent-Length: x\r\na\r\n\r\n")
	checkNoRequest(t, api.ErrShort, "GET / HTTP/1.1\r\nContent-Length: x\r\n", "GET / HTTP/1.1\r\nContent-Length: 5001\r\na")
	checkNoRequest(t, api.ErrLarge, "POST / HTTP/1.1\r\nContent-Length: 5001\r\n\r\n", "GET / HTTP/1.1\r\n"+long(1102)+"\r\nContent-Length: x\r\n\r\n")
	checkNoRequest(t, api.ErrForm, "POST / HTTP/1.1\r\nTransfer-Encoding: gzip\r\n\r\nx", "POST / HTTP/1.1\r\nContent-Length: 2, 3\r\n\r\nh")
}

func TestReadLengths(t *testing.T) {
	for _, n := range []int{0, 1, 2, 9, 10, 64, 999, 1000, 4999, 5000} {
		asked := "POST /a HTTP/1.1\r\nContent-Length: " + strconv.Itoa(n) + "\r\n\r\n"
		told := "HTTP/1.1 200 b\r\nContent-Length: " + strconv.Itoa(n) + "\r\n\r\n"
		l := lengths(strconv.Itoa(n))
		for m := max(0, n-2); m < n+3; m++ {
			if m < n {
				checkNoRequest(t, api.ErrShort, asked+long(m))
				checkNoResponse(t, "GET", api.ErrShort, told+long(m))
			} else {
				checkReadRequest(t, asked+long(m), post(l, long(n)), len(asked)+n, api.OK)
				checkReadResponse(t, "GET", told+long(m), reply(200, l, long(n)), len(told)+n, api.OK)
			}
		}
	}
}

// P18: ReadResponse.

func sameResponse(a, b api.Response) bool {
	return a.Code == b.Code && a.Reason == b.Reason && slices.Equal(a.Fields, b.Fields) && a.Body == b.Body
}

func checkReadResponse(t *testing.T, method, s string, want api.Response, n int, err api.Errno) {
	t.Helper()
	if r, m, e := msg.ReadResponse(method, s); !sameResponse(r, want) || m != n || e != err {
		t.Errorf("ReadResponse(%.20q, %.80q, %d bytes): %.80v %d %d, not %.80v %d %d", method, s, len(s), r, m, e, want, n, err)
	}
}

func checkNoResponse(t *testing.T, method string, err api.Errno, texts ...string) {
	t.Helper()
	for _, s := range texts {
		checkReadResponse(t, method, s, api.Response{}, 0, err)
	}
}

func TestReadResponse(t *testing.T) {
	check := func(method, s string, want api.Response) {
		t.Helper()
		for _, behind := range behinds() {
			checkReadResponse(t, method, s+behind, want, len(s), api.OK)
		}
	}
	check("GET", "HTTP/1.1 200 b\r\nContent-Length: 2\r\n\r\nhi", reply(200, lengths("2"), "hi"))
	check("GET", "HTTP/1.1 200 b\r\nTransfer-Encoding: chunked\r\n\r\n2\r\nhi\r\n0\r\n\r\n", reply(200, chunked(), "hi"))
	check("HEAD", "HTTP/1.1 200 b\r\nContent-Length: 9\r\n\r\n", reply(200, lengths("9"), ""))
	check("HEAD", "HTTP/1.1 200 b\r\n\r\n", reply(200, nil, ""))
	check("GET", "HTTP/1.1 304 b\r\nContent-Length: 9\r\n\r\n", reply(304, lengths("9"), ""))
	check("GET", "HTTP/1.1 304 b\r\nContent-Length: x\r\nTransfer-Encoding: y\r\n\r\n", reply(304, fields("Content-Length", "x", "Transfer-Encoding", "y"), ""))
	checkReadResponse(t, "GET", "HTTP/1.1 200 \r\n\r\nall of it", api.Response{Code: 200, Body: "all of it"}, 26, api.OK)
}

func TestReadResponseOfEachCode(t *testing.T) {
	for code := range 1100 {
		s := "HTTP/1.1 " + strconv.Itoa(code) + " b\r\n\r\nab"
		for _, method := range []string{"GET", "HEAD", "head", "", "\x00"} {
			switch {
			case code < 100 || code > 599:
				checkNoResponse(t, method, api.ErrSyntax, s)
			case code < 200 || code == 204 || code == 304 || method == "HEAD":
				checkReadResponse(t, method, s, reply(code, nil, ""), 18, api.OK)
			default:
				checkReadResponse(t, method, s, reply(code, nil, "ab"), 20, api.OK)
			}
		}
	}
}

func TestReadResponseToTheEnd(t *testing.T) {
	for _, n := range []int{0, 1, 64, 4999, 5000} {
		checkReadResponse(t, "GET", "HTTP/1.1 200 b\r\n\r\n"+long(n), reply(200, nil, long(n)), 18+n, api.OK)
		checkReadResponse(t, "POST", "HTTP/1.1 599 b\r\nA:b\r\n\r\n"+long(n), reply(599, fields("A", "b"), long(n)), 23+n, api.OK)
	}
	for _, n := range []int{5001, 5002, 100000} {
		checkNoResponse(t, "GET", api.ErrLarge, "HTTP/1.1 200 b\r\n\r\n"+long(n))
		checkReadResponse(t, "HEAD", "HTTP/1.1 200 b\r\n\r\n"+long(n), reply(200, nil, ""), 18, api.OK)
	}
}

func TestReadResponseWrong(t *testing.T) {
	for _, method := range []string{"GET", "HEAD"} {
		checkNoResponse(t, method, api.ErrSyntax, "GET / HTTP/1.1\r\n\r\n", "HTTP/1.1 200\r\n\r\n", "HTTP/1.1 0200 a\r\n\r\n", "HTTP/1.0 200 a\r\n\r\n", "\r\n")
		checkNoResponse(t, method, api.ErrSyntax, "HTTP/1.1 200 b\r\na\r\n\r\n", "HTTP/1.1 200 b\r\n: b\r\n\r\n", "HTTP/1.1 304 b\r\na: \x00\r\n\r\n")
		checkNoResponse(t, method, api.ErrLarge, long(302), "HTTP/1.1 200 "+long(300)+"\r\n", "HTTP/1.1 200 b\r\n"+printed(many(31)), "HTTP/1.1 204 b\r\n"+long(1102))
		checkNoResponse(t, method, api.ErrShort, "", "HTTP", "HTTP/1.1 200 b\r\n", "HTTP/1.1 204 b\r\n\r", "HTTP/1.1 304 b\r\na: b\r\n")
	}
	checkNoResponse(t, "GET", api.ErrForm, "HTTP/1.1 200 b\r\nContent-Length: x\r\n\r\n", "HTTP/1.1 200 b\r\nTransfer-Encoding: gzip\r\n\r\n", "HTTP/1.1 200 b\r\nTransfer-Encoding: chunked\r\nContent-Length: 2\r\n\r\nhi")
	checkNoResponse(t, "GET", api.ErrLarge, "HTTP/1.1 200 b\r\nContent-Length: 5001\r\n\r\n", "HTTP/1.1 200 b\r\nTransfer-Encoding: chunked\r\n\r\n1389\r\n")
	checkNoResponse(t, "GET", api.ErrSyntax, "HTTP/1.1 200 b\r\nTransfer-Encoding: chunked\r\n\r\nhi")
	checkNoResponse(t, "GET", api.ErrShort, "HTTP/1.1 200 b\r\nTransfer-Encoding: chunked\r\n\r\n2\r\nhi\r\n0\r\n")
}

// Both.

// requests can be written.
func requests() []api.Request {
	return []api.Request{
		{Method: "GET", Target: "/"},
		{Method: "get", Target: "*", Fields: fields("Host", "a", "X", "", "x", "a \t\"b")},
		post(lengths("0"), ""),
		post(lengths("2"), "\r\n"),
		post(append(fields("A", "b"), lengths("18", "18")...), "GET / HTTP/1.1\r\n\r\n"),
		post(lengths("5000"), long(5000)),
		post(chunked(), ""),
		post(chunked(), "0\r\n\r\nGET / HTTP/1.1\r\n\r\n"),
		post(append(many(29), chunked()...), strings.Repeat("\x00\xff\r\n", 1250)),
		{Method: "HEAD", Target: long(200), Fields: lengths("1"), Body: "x"},
	}
}

// answer is a response to a method.
type answer struct {
	method string
	r      api.Response
}

// responses can be written, and their end is seen in what follows.
func responses() []answer {
	return []answer{
		{"HEAD", reply(200, lengths("9"), "")},
		{"HEAD", reply(200, chunked(), "")},
		{"GET", reply(204, nil, "")},
		{"GET", reply(304, lengths("x"), "")},
		{"GET", api.Response{Code: 100}},
		{"GET", reply(200, lengths("0"), "")},
		{"GET", reply(200, lengths("18"), "HTTP/1.1 200 \r\n\r\n\n")},
		{"POST", reply(599, append(many(29), lengths("5000")...), long(5000))},
		{"", reply(200, chunked(), "0\r\n\r\n")},
		{"GET", api.Response{Code: 404, Reason: " \t~ ", Fields: chunked(), Body: strings.Repeat("\x00\xff\r\n", 1250)}},
	}
}

// What is written is read as it was, one by one, and not ahead of its end.

func TestRequestsAreReadAsTheyWere(t *testing.T) {
	all := ""
	for _, r := range requests() {
		s, e := msg.WriteRequest(r)
		if e != api.OK {
			t.Fatalf("%.60q: %d", r, e)
		}
		checkReadRequest(t, s, r, len(s), api.OK)
		for i := range len(s) {
			checkNoRequest(t, api.ErrShort, s[:i])
		}
		all += s
	}
	for _, r := range requests() {
		got, n, e := msg.ReadRequest(all)
		if !sameRequest(got, r) || e != api.OK {
			t.Fatalf("%.60q: %.60q %d", r, got, e)
		}
		all = all[n:]
	}
	if all != "" {
		t.Errorf("%.60q is left", all)
	}
}

func TestResponsesAreReadAsTheyWere(t *testing.T) {
	all := ""
	for _, a := range responses() {
		s, e := msg.WriteResponse(a.method, a.r)
		if e != api.OK {
			t.Fatalf("%.60v: %d", a, e)
		}
		checkReadResponse(t, a.method, s, a.r, len(s), api.OK)
		for i := range len(s) {
			checkNoResponse(t, a.method, api.ErrShort, s[:i])
		}
		all += s
	}
	for _, a := range responses() {
		got, n, e := msg.ReadResponse(a.method, all)
		if !sameResponse(got, a.r) || e != api.OK {
			t.Fatalf("%.60v: %.60v %d", a, got, e)
		}
		all = all[n:]
	}
	if all != "" {
		t.Errorf("%.60q is left", all)
	}
}

// rest is what is behind a first line, by the calls that the chapter names, one behind the other.
type rest struct {
	l    []api.Field
	text string
	n    int
	err  api.Errno
}

func wantedRest(request bool, method string, code int, s string) rest {
	l, n, e := field.Parse(s)
	if e != api.OK {
		return rest{err: e}
	}
	kind, length, e := body.Kind(request, method, code, l)
	s = s[n:]
	if e != api.OK {
		return rest{err: e}
	}
	switch kind {
	case api.NoBody:
		return rest{l, "", n, api.OK}
	case api.Length:
		if length > len(s) {
			return rest{err: api.ErrShort}
		}
		return rest{l, s[:length], n + length, api.OK}
	case api.Chunked:
		text, m, e := body.Decode(s)
		if e != api.OK {
			return rest{err: e}
		}
		return rest{l, text, n + m, api.OK}
	}
	if len(s) > 5000 {
		return rest{err: api.ErrLarge}
	}
	return rest{l, s, n + len(s), api.OK}
}

func checkAsTheCallsSay(t *testing.T, s string) {
	t.Helper()
	method, target, n, e := line.ParseRequest(s)
	if e != api.OK {
		checkNoRequest(t, e, s)
	} else if w := wantedRest(true, method, 0, s[n:]); w.err != api.OK {
		checkNoRequest(t, w.err, s)
	} else {
		checkReadRequest(t, s, api.Request{Method: method, Target: target, Fields: w.l, Body: w.text}, n+w.n, api.OK)
	}
	for _, method := range []string{"GET", "HEAD"} {
		code, reason, n, e := line.ParseStatus(s)
		if e != api.OK {
			checkNoResponse(t, method, e, s)
		} else if w := wantedRest(false, method, code, s[n:]); w.err != api.OK {
			checkNoResponse(t, method, w.err, s)
		} else {
			checkReadResponse(t, method, s, api.Response{Code: code, Reason: reason, Fields: w.l, Body: w.text}, n+w.n, api.OK)
		}
	}
}

// nearby calls what with all texts that are one byte away from s.
func nearby(s string, what func(string)) {
	const bytes = "0129af;:,x \t\r\n\x00\xff"
	for i := range len(s) + 1 {
		for _, c := range []byte(bytes) {
			what(s[:i] + string([]byte{c}) + s[i:])
			if i < len(s) {
				what(s[:i] + string([]byte{c}) + s[i+1:])
			}
		}
		if i < len(s) {
			what(s[:i] + s[i+1:])
			what(s[:i])
		}
	}
}

func TestReadOfNearbyTexts(t *testing.T) {
	for _, s := range []string{
		"GET / HTTP/1.1\r\n\r\n",
		"POST /a HTTP/1.1\r\nHost: a\r\nContent-Length: 12\r\n\r\nhello, world",
		"POST /a HTTP/1.1\r\nContent-Length: 2\r\ncontent-length: 2\r\n\r\nhi",
		"POST /a HTTP/1.1\r\nTransfer-Encoding: chunked\r\n\r\n3\r\nhel\r\n2;x\r\nlo\r\n0\r\na: b\r\n\r\n",
		"HTTP/1.1 200 OK\r\n\r\nall of it",
		"HTTP/1.1 204 a\r\nContent-Length: 2\r\n\r\nhi",
		"HTTP/1.1 304 \r\n\r\nhi",
		"HTTP/1.1 200 OK\r\nContent-Length: 2\r\n\r\nhi",
		"HTTP/1.1 404 OK\r\nTransfer-Encoding: chunked\r\n\r\n2\r\nhi\r\n0\r\n\r\n",
	} {
		nearby(s, func(s string) { checkAsTheCallsSay(t, s) })
	}
}

// What is read can be written, and is read again as it was; its end is where it says.
func TestWhatIsReadCanBeWritten(t *testing.T) {
	for _, r := range requests() {
		s, _ := msg.WriteRequest(r)
		nearby(s[:min(len(s), 200)], func(begin string) {
			got, n, e := msg.ReadRequest(begin + s[min(len(s), 200):])
			if e != api.OK {
				return
			}
			if n < 1 || n > len(begin)+len(s) {
				t.Errorf("%.80q: %d bytes", begin, n)
			}
			again, e := msg.WriteRequest(got)
			if e != api.OK {
				t.Errorf("%.80q: %.80q can't be written: %d", begin, got, e)
			}
			checkReadRequest(t, again, got, len(again), api.OK)
		})
	}
}
