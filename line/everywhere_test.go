package line_test

import (
	"iter"
	"math"
	"slices"
	"strings"
	"testing"
	"unsafe"

	"larder/api"
	"larder/line"
)

// texts are all those of at most so many of the given bytes.
func texts(bytes string, most int) iter.Seq[string] {
	return func(yield func(string) bool) {
		layer := []string{""}
		for range most + 1 {
			var next []string
			for _, s := range layer {
				if !yield(s) {
					return
				}
				for i := range len(bytes) {
					next = append(next, s+bytes[i:i+1])
				}
			}
			layer = next
		}
	}
}

// sample is what the calls are handed.
type sample struct {
	method, target string
	code           int
	reason         string
	request        string
	status         string
}

// answers are what the calls say of a sample.
type answers struct {
	printedRequest, printedStatus string
	errs                          [2]api.Errno
	request                       request
	status                        status
}

func ask(s sample) answers {
	var a answers
	a.printedRequest, a.errs[0] = line.PrintRequest(s.method, s.target)
	a.printedStatus, a.errs[1] = line.PrintStatus(s.code, s.reason)
	a.request.method, a.request.target, a.request.n, a.request.err = line.ParseRequest(s.request)
	a.status.code, a.status.reason, a.status.n, a.status.err = line.ParseStatus(s.status)
	return a
}

func (a answers) texts() []string {
	return []string{a.printedRequest, a.printedStatus, a.request.method, a.request.target, a.status.reason}
}

func (s sample) texts() []string { return []string{s.method, s.target, s.reason, s.request, s.status} }

// samples have answers of each of the calls, and errors.
func samples() []sample {
	return []sample{
		{"", "", 0, "", "", ""},
		{"GET", "/", 200, "OK", "GET / HTTP/1.1\r\n", "HTTP/1.1 200 OK\r\n"},
		{"G", "a", 100, "", "G a HTTP/1.1\r\nx", "HTTP/1.1 100 \r\nx"},
		{long(30), long(200), 599, long(100), long(30) + " " + long(200) + " HTTP/1.1\r\n", "HTTP/1.1 599 " + long(100) + "\r\n"},
		{long(31), "/", 600, "a", long(31) + " / HTTP/1.1\r\n", "HTTP/1.1 600 a\r\n"},
		{"GET", long(201), 200, long(101), "GET " + long(201) + " HTTP/1.1\r\n", "HTTP/1.1 200 " + long(101) + "\r\n"},
		{"GET", "/ ", math.MinInt, "\n", "GET /", "HTTP/1.1 200"},
		{"\xff", "\x00", math.MaxInt, "\x7f", long(301) + "\r\n", long(302)},
	}
}

// P1.

func TestNothingPanics(t *testing.T) {
	for s := range texts("a/ 1\r\n", 5) {
		ask(sample{s, s, len(s), s, s, s})
		ask(sample{s, s, len(s) + 100, s, s + " HTTP/1.1\r\n", "HTTP/1.1 " + s + "\r\n"})
	}
	for i := range 256 {
		c := string([]byte{byte(i)})
		for _, n := range []int{1, 2, 3, 30, 31, 100, 101, 200, 201, 300, 301, 302, 1 << 16} {
			s := strings.Repeat(c, n)
			ask(sample{s, s, i, s, s, s})
			ask(sample{s, s, -i, s, s + "\r\n", s + "\r\n"})
		}
	}
	for _, s := range samples() {
		ask(s)
	}
}

func TestNothingBesideAnError(t *testing.T) {
	check := func(s sample) {
		a := ask(s)
		if a.errs[0] != api.OK && a.printedRequest != "" || a.errs[1] != api.OK && a.printedStatus != "" ||
			a.request.err != api.OK && a.request != (request{err: a.request.err}) ||
			a.status.err != api.OK && a.status != (status{err: a.status.err}) {
			t.Fatalf("%v: %v", s, a)
		}
	}
	for s := range texts("a/ 1\r\n", 5) {
		check(sample{"a" + s, "/" + s, 200, s, "GET /" + s + " HTTP/1.1\r\n", "HTTP/1.1 200 " + s + "\r\n"})
		check(sample{s, s, 99, s, "GET" + s + "\r\n", "HTTP/1.1 200" + s + "\r\n"})
	}
	for _, s := range samples() {
		check(s)
	}
}

// P2.

// borrowed answers a text whose bytes are b's, so that a test sees who writes to it or keeps it.
func borrowed(b []byte) string { return unsafe.String(unsafe.SliceData(b), len(b)) }

// borrow answers the sample in memory that can be spoilt later, and a function that spoils it.
func borrow(s sample) (sample, func()) {
	var lent [][]byte
	lend := func(s string) string {
		b := []byte(s)
		lent = append(lent, b)
		return borrowed(b)
	}
	spoil := func() {
		for _, b := range lent {
			for i := range b {
				b[i] = '!'
			}
		}
	}
	return sample{lend(s.method), lend(s.target), s.code, lend(s.reason), lend(s.request), lend(s.status)}, spoil
}

func TestWhatIsHandedInStays(t *testing.T) {
	for _, s := range samples() {
		b, _ := borrow(s)
		ask(b)
		if b != s {
			t.Errorf("%v was changed", s)
		}
	}
}

func TestAnswersShareNothingWithWhatWasHandedIn(t *testing.T) {
	for _, s := range samples() {
		want := ask(s)
		b, spoil := borrow(s)
		got := ask(b)
		spoil()
		if got != want {
			t.Errorf("%v: an answer lies in it", s)
		}
	}
}

func overlap(a, b string) bool {
	p, q := uintptr(unsafe.Pointer(unsafe.StringData(a))), uintptr(unsafe.Pointer(unsafe.StringData(b)))
	return a != "" && b != "" && p < q+uintptr(len(b)) && q < p+uintptr(len(a))
}

func TestTextsOfAnswersShareNothing(t *testing.T) {
	for _, s := range samples() {
		first, second := ask(s), ask(s)
		all := append(first.texts(), second.texts()...)
		for i, a := range all {
			for _, b := range append(all[:i:i], s.texts()...) {
				if overlap(a, b) {
					t.Errorf("%v: %.40q and %.40q share memory", s, a, b)
				}
			}
		}
	}
}

func TestNothingIsKept(t *testing.T) {
	var before []answers
	for _, s := range samples() {
		before = append(before, ask(s))
	}
	for i, s := range slices.Backward(samples()) {
		if ask(s) != before[i] {
			t.Errorf("%v is answered otherwise later", s)
		}
	}
}
