package msg_test

import (
	"iter"
	"math"
	"slices"
	"strings"
	"testing"
	"unsafe"

	"larder/api"
	"larder/msg"
)

// texts are all those of at most so many of the given bytes.
func texts(bytes string, most int) iter.Seq[string] {
	return func(yield func(string) bool) {
		layer := []string{""}
		for range most + 1 {
			var next []string
			for _, s := range layer {
				if !yield(s) {
					return
				}
				for i := range len(bytes) {
					next = append(next, s+bytes[i:i+1])
				}
			}
			layer = next
		}
	}
}

// sample is what the calls are handed.
type sample struct {
	request        api.Request
	method         string
	response       api.Response
	asked, replied string
}

// answers are what the calls say of a sample.
type answers struct {
	writtenRequest, writtenResponse string
	request                         api.Request
	response                        api.Response
	n                               [2]int
	errs                            [4]api.Errno
}

func ask(s sample) answers {
	var a answers
	a.writtenRequest, a.errs[0] = msg.WriteRequest(s.request)
	a.writtenResponse, a.errs[1] = msg.WriteResponse(s.method, s.response)
	a.request, a.n[0], a.errs[2] = msg.ReadRequest(s.asked)
	a.response, a.n[1], a.errs[3] = msg.ReadResponse(s.method, s.replied)
	return a
}

func (a answers) same(b answers) bool {
	return a.writtenRequest == b.writtenRequest && a.writtenResponse == b.writtenResponse &&
		sameRequest(a.request, b.request) && sameResponse(a.response, b.response) && a.n == b.n && a.errs == b.errs
}

func (a answers) texts() []string {
	l := []string{a.writtenRequest, a.writtenResponse, a.request.Method, a.request.Target, a.request.Body, a.response.Reason, a.response.Body}
	return append(l, textsOf(a.request.Fields, a.response.Fields)...)
}

func (s sample) texts() []string {
	l := []string{s.request.Method, s.request.Target, s.request.Body, s.method, s.response.Reason, s.response.Body, s.asked, s.replied}
	return append(l, textsOf(s.request.Fields, s.response.Fields)...)
}

func textsOf(lists ...[]api.Field) []string {
	var out []string
	for _, l := range lists {
		for _, f := range l {
			out = append(out, f.Name, f.Value)
		}
	}
	return out
}

// samples have answers of each of the calls, and errors.
func samples() []sample {
	return []sample{
		{},
		{post(nil, ""), "GET", reply(200, nil, "ab"), "GET / HTTP/1.1\r\n\r\nab", "HTTP/1.1 200 OK\r\n\r\nab"},
		{post(lengths("2"), "ab"), "GET", reply(200, lengths("2"), "ab"), "GET / HTTP/1.1\r\nHost: a\r\nContent-Length: 2\r\n\r\nabc", "HTTP/1.1 200 OK\r\nHost: a\r\nContent-Length: 2\r\n\r\nabc"},
		{post(chunked(), long(100)), "", reply(200, chunked(), long(100)), "GET / HTTP/1.1\r\nTransfer-Encoding: chunked\r\n\r\n2\r\nab\r\n0\r\n\r\nabc", "HTTP/1.1 200 OK\r\nTransfer-Encoding: chunked\r\n\r\n2\r\nab\r\n0\r\n\r\nabc"},
		{post(many(30), ""), "HEAD", reply(200, many(30), ""), "GET / HTTP/1.1\r\n" + printed(many(30)), "HTTP/1.1 200 OK\r\n" + printed(many(30))},
		{post(many(31), ""), "HEAD", reply(200, many(31), ""), "GET / HTTP/1.1\r\n" + printed(many(31)), "HTTP/1.1 200 OK\r\n" + printed(many(31))},
		{post(lengths("2"), "a"), "GET", reply(200, lengths("2"), "a"), "GET / HTTP/1.1\r\nContent-Length: 2\r\n\r\na", "HTTP/1.1 200 OK\r\nContent-Length: 2\r\n\r\na"},
		{post(lengths("x"), "a"), "GET", reply(200, lengths("x"), "a"), "GET / HTTP/1.1\r\nContent-Length: x\r\n\r\na", "HTTP/1.1 200 OK\r\nContent-Length: x\r\n\r\na"},
		{post(nil, "a"), "GET", reply(204, nil, "a"), "GET / HTTP/1.1\r\na\r\n", "HTTP/1.1 200 OK\r\n\r\n" + long(5001)},
		{post(chunked(), long(5001)), "\xff", reply(200, nil, long(5001)), "GET / HTTP/1.1\r\nTransfer-Encoding: chunked\r\n\r\nx", "HTTP/1.1 200 OK\r\nTransfer-Encoding: chunked\r\n\r\nx"},
		{post(fields("\x00", "\xff"), "\x00"), "\x00", reply(math.MinInt, fields("\x00", "\xff"), "\x00"), "\x00", "\x00\r\n"},
		{api.Request{Method: "\n"}, "\r", reply(math.MaxInt, nil, ""), long(302), long(302)},
	}
}

// P1.

func TestNothingPanics(t *testing.T) {
	for s := range texts("a:1 \r\n", 5) {
		l := fields(s, s, "Content-Length", s)
		ask(sample{api.Request{Method: s, Target: s, Fields: l, Body: s}, s, api.Response{Code: len(s) * 100, Reason: s, Fields: l, Body: s}, s, s})
		ask(sample{post(fields("Transfer-Encoding", s), s), s, reply(200, fields("Transfer-Encoding", s), s), "GET / HTTP/1.1\r\n" + s + "\r\n\r\n" + s, "HTTP/1.1 200 \r\n" + s + "\r\n\r\n" + s})
		ask(sample{post(chunked(), s), s, reply(200, chunked(), s), "GET / HTTP/1.1\r\nContent-Length: 3\r\n\r\n" + s, "HTTP/1.1 200 \r\nTransfer-Encoding: chunked\r\n\r\n" + s})
	}
	for i := range 256 {
		c := string([]byte{byte(i)})
		for _, n := range []int{1, 30, 31, 300, 301, 302, 1000, 1001, 1102, 5000, 5001, 1 << 16} {
			s := strings.Repeat(c, n)
			ask(sample{api.Request{Method: s, Target: s, Fields: fields(s, s), Body: s}, s, api.Response{Code: i, Reason: s, Fields: fields(s, s), Body: s}, s, s})
			ask(sample{post(lengths(s), s), s, reply(i+200, lengths(s), s), "GET / HTTP/1.1\r\n" + s, "HTTP/1.1 200 \r\n" + s})
		}
	}
	for _, s := range samples() {
		ask(s)
	}
}

func TestNothingBesideAnError(t *testing.T) {
	seen := [4]bool{}
	check := func(s sample) {
		a := ask(s)
		for i, e := range a.errs {
			seen[i] = seen[i] || e != api.OK
		}
		if a.errs[0] != api.OK && a.writtenRequest != "" || a.errs[1] != api.OK && a.writtenResponse != "" ||
			a.errs[2] != api.OK && (a.n[0] != 0 || a.request.Fields != nil || !sameRequest(a.request, api.Request{})) ||
			a.errs[3] != api.OK && (a.n[1] != 0 || a.response.Fields != nil || !sameResponse(a.response, api.Response{})) {
			t.Fatalf("%.20q: something beside an error: %.200v", s.texts(), a)
		}
	}
	for _, s := range samples() {
		check(s)
		for i := range 100 {
			cut := s
			cut.asked, cut.replied = s.asked[:min(i, len(s.asked))], s.replied[:min(i, len(s.replied))]
			check(cut)
		}
	}
	if seen != [4]bool{true, true, true, true} {
		t.Error("a call had no error: ", seen)
	}
}

// P2.

// borrowed answers a text whose bytes are b's, so that a test sees who writes to it or keeps it.
func borrowed(b []byte) string { return unsafe.String(unsafe.SliceData(b), len(b)) }

// borrow answers the sample in memory that can be spoilt later, and a function that spoils it.
func borrow(s sample) (sample, func()) {
	var lent [][]byte
	lend := func(s string) string {
		b := []byte(s)
		lent = append(lent, b)
		return borrowed(b)
	}
	lendList := func(l []api.Field) []api.Field {
		out := make([]api.Field, 0, len(l)+5)
		for _, f := range l {
			out = append(out, api.Field{Name: lend(f.Name), Value: lend(f.Value)})
		}
		return out
	}
	b := sample{
		api.Request{Method: lend(s.request.Method), Target: lend(s.request.Target), Fields: lendList(s.request.Fields), Body: lend(s.request.Body)},
		lend(s.method),
		api.Response{Code: s.response.Code, Reason: lend(s.response.Reason), Fields: lendList(s.response.Fields), Body: lend(s.response.Body)},
		lend(s.asked), lend(s.replied),
	}
	spoil := func() {
		for _, b := range lent {
			for i := range b {
				b[i] = '!'
			}
		}
		for _, l := range [][]api.Field{b.request.Fields, b.response.Fields} {
			for i := range l {
				l[i] = api.Field{Name: "spoilt", Value: "spoilt"}
			}
		}
	}
	return b, spoil
}

func TestWhatIsHandedInStays(t *testing.T) {
	for _, s := range samples() {
		b, _ := borrow(s)
		ask(b)
		if !slices.Equal(b.texts(), s.texts()) {
			t.Errorf("%.20q was changed", s.texts())
		}
		for _, l := range [][]api.Field{b.request.Fields, b.response.Fields} {
			if slices.ContainsFunc(l[len(l):cap(l)], func(f api.Field) bool { return f != api.Field{} }) {
				t.Errorf("%.20q: the room behind a list was changed", s.texts())
			}
		}
	}
}

func TestAnswersShareNothingWithWhatWasHandedIn(t *testing.T) {
	for _, s := range samples() {
		want := ask(s)
		b, spoil := borrow(s)
		got := ask(b)
		spoil()
		if !got.same(want) {
			t.Errorf("%.20q: an answer lies in it", s.texts())
		}
	}
}

func overlap(a, b string) bool {
	p, q := uintptr(unsafe.Pointer(unsafe.StringData(a))), uintptr(unsafe.Pointer(unsafe.StringData(b)))
	return a != "" && b != "" && p < q+uintptr(len(b)) && q < p+uintptr(len(a))
}

func TestTextsOfAnswersShareNothing(t *testing.T) {
	for _, s := range samples() {
		first, second := ask(s), ask(s)
		all := append(first.texts(), second.texts()...)
		for i, a := range all {
			for _, b := range append(all[:i:i], s.texts()...) {
				if overlap(a, b) {
					t.Errorf("%.20q: %.40q and %.40q share memory", s.texts(), a, b)
				}
			}
		}
	}
}

// A list that is answered can be spoilt, its spare room included, and nothing else is seen to change.
func TestListsOfAnswersShareNothing(t *testing.T) {
	for _, s := range samples() {
		want := ask(s)
		first, second := ask(s), ask(s)
		for _, l := range [][]api.Field{first.request.Fields, first.response.Fields} {
			l = l[:cap(l)]
			for i := range l {
				l[i] = api.Field{Name: "spoilt", Value: "spoilt"}
			}
		}
		if !second.same(want) || !ask(s).same(want) {
			t.Errorf("%.20q: two lists share memory", s.texts())
		}
	}
}

func TestNothingIsKept(t *testing.T) {
	var before []answers
	for _, s := range samples() {
		before = append(before, ask(s))
	}
	for i, s := range slices.Backward(samples()) {
		if !ask(s).same(before[i]) {
			t.Errorf("%.20q is answered otherwise later", s.texts())
		}
	}
}
