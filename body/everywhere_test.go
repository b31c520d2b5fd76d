package body_test

import (
	"iter"
	"math"
	"slices"
	"strings"
	"testing"
	"unsafe"

	"larder/api"
	"larder/body"
)

// texts are all those of at most so many of the given bytes.
func texts(bytes string, most int) iter.Seq[string] {
	return func(yield func(string) bool) {
		layer := []string{""}
		for range most + 1 {
			var next []string
			for _, s := range layer {
				if !yield(s) {
					return
				}
				for i := range len(bytes) {
					next = append(next, s+bytes[i:i+1])
				}
			}
			layer = next
		}
	}
}

// sample is what the calls are handed.
type sample struct {
	request bool
	method  string
	code    int
	fields  []api.Field
	text    string
	size    int
	chunks  [2]string
}

// answers are what the calls say of a sample.
type answers struct {
	kind       kind
	encoded    string
	err        api.Errno
	decoded    decoded
	written    [2]written
	body, late string
}

func ask(s sample) answers {
	var a answers
	a.kind.kind, a.kind.n, a.kind.err = body.Kind(s.request, s.method, s.code, s.fields)
	a.encoded, a.err = body.Encode(s.text, s.size)
	a.decoded = decode(s.chunks[0] + s.chunks[1])
	d := body.New()
	a.written[0] = write(d, s.chunks[0])
	a.written[1] = write(d, s.chunks[1])
	a.body = d.Body()
	d.Write("\r\n")
	a.late = d.Body()
	return a
}

func (a answers) texts() []string {
	return []string{a.encoded, a.decoded.body, a.written[1].body, a.body, a.late}
}

func (s sample) texts() []string {
	l := []string{s.method, s.text, s.chunks[0], s.chunks[1]}
	for _, f := range s.fields {
		l = append(l, f.Name, f.Value)
	}
	return l
}

// samples have answers of each of the calls, and errors.
func samples() []sample {
	return []sample{
		{},
		{true, "GET", 0, nil, "hello", 3, [2]string{"3\r\nhe", "l\r\n2\r\nlo\r\n0\r\n\r\nab"}},
		{false, "GET", 200, lengths("5", " 5"), "hello", 100, [2]string{"5\r\nhello\r\n0\r\n", "Ab: cd\r\n\r\n"}},
		{true, "POST", 0, fields("transfer-encoding", "CHUNKED"), "", 1, [2]string{"0\r\n", "\r\n\r\n"}},
		{false, "HEAD", 200, lengths("x"), long(5000), 64, [2]string{"1388\r\n" + long(5000), "\r\n0;abc\r\n\r\n"}},
		{false, "GET", 204, nil, long(5001), 64, [2]string{"1389\r\n", ""}},
		{true, "POST", 0, lengths("5", "6"), "a", 0, [2]string{"2\r\nab", "c"}},
		{true, "POST", 0, fields("transfer-encoding", "chunked", "content-length", "5"), "ab", math.MinInt, [2]string{"\xff", "\x00"}},
		{false, "POST", math.MinInt, lengths("5001"), "ab", math.MaxInt, [2]string{"2\r\nab\r\n0\r\n", "a\r\n"}},
		{false, "POST", math.MaxInt, lengths("5001"), "\x00", 1, [2]string{"2\r\nab\r\n0\r\n", long(1102)}},
	}
}

// P1.

func TestNothingPanics(t *testing.T) {
	for s := range texts("05;\r\n,\"", 5) {
		ask(sample{len(s)%2 == 0, s, len(s) * 70, append(lengths(s), fields(s, s)...), s, len(s) - 2, [2]string{s, s}})
		ask(sample{true, s, 0, fields("Transfer-Encoding", s), s, 1, [2]string{"1\r\n" + s, "0\r\n" + s}})
	}
	for i := range 256 {
		c := string([]byte{byte(i)})
		for _, n := range []int{1, 2, 3, 4, 5, 51, 1000, 1001, 1102, 5000, 5001, 1 << 16} {
			s := strings.Repeat(c, n)
			ask(sample{false, s, i, lengths(s), s, i, [2]string{s, s}})
			ask(sample{true, s, -i, fields("Transfer-Encoding", s, s, s), s, n, [2]string{"0\r\n" + s, "\r\n"}})
		}
	}
	for _, s := range samples() {
		ask(s)
	}
}

// A Decoder that New did not make has nothing that may come next.
func TestDecoderThatNewDidNotMake(t *testing.T) {
	var d body.Decoder
	for _, s := range []string{"", "0\r\n\r\n", "x"} {
		if got, want := write(&d, s), (written{err: api.ErrState}); got != want {
			t.Errorf("%q: %v", s, got)
		}
	}
}

func TestNothingBesideAnError(t *testing.T) {
	check := func(s sample) {
		a := ask(s)
		if a.kind.err != api.OK && a.kind != (kind{err: a.kind.err}) || a.err != api.OK && a.encoded != "" ||
			a.decoded.err != api.OK && a.decoded != (decoded{err: a.decoded.err}) || a.written[0].err != api.OK && a.written[0] != (written{err: a.written[0].err}) {
			t.Fatalf("%.20q: something beside an error: %v, %.20q %d, %v, %v", s.texts(), a.kind, a.encoded, a.err, a.decoded, a.written[0])
		}
	}
	for s := range texts("15;\r\n,x", 5) {
		check(sample{true, "POST", 0, lengths(s), s, 2 - len(s), [2]string{s, "\r\n"}})
		check(sample{false, "GET", 200, fields("Transfer-Encoding", s), s, 1, [2]string{"0\r\n" + s, s}})
	}
	for _, s := range samples() {
		check(s)
	}
}

// P2.

// borrowed answers a text whose bytes are b's, so that a test sees who writes to it or keeps it.
func borrowed(b []byte) string { return unsafe.String(unsafe.SliceData(b), len(b)) }

// borrow answers the sample in memory that can be spoilt later, and a function that spoils it.
func borrow(s sample) (sample, func()) {
	var lent [][]byte
	lend := func(s string) string {
		b := []byte(s)
		lent = append(lent, b)
		return borrowed(b)
	}
	b := sample{s.request, lend(s.method), s.code, make([]api.Field, len(s.fields), len(s.fields)+5), lend(s.text), s.size, [2]string{lend(s.chunks[0]), lend(s.chunks[1])}}
	for i, f := range s.fields {
		b.fields[i] = api.Field{Name: lend(f.Name), Value: lend(f.Value)}
	}
	spoil := func() {
		for _, b := range lent {
			for i := range b {
				b[i] = '!'
			}
		}
		for i := range b.fields {
			b.fields[i] = api.Field{Name: "spoilt", Value: "spoilt"}
		}
	}
	return b, spoil
}

func TestWhatIsHandedInStays(t *testing.T) {
	for _, s := range samples() {
		b, _ := borrow(s)
		ask(b)
		spare := b.fields[len(b.fields):cap(b.fields)]
		if !slices.Equal(b.texts(), s.texts()) || slices.ContainsFunc(spare, func(f api.Field) bool { return f != api.Field{} }) {
			t.Errorf("%.20q was changed", s.texts())
		}
	}
}

func TestAnswersShareNothingWithWhatWasHandedIn(t *testing.T) {
	for _, s := range samples() {
		want := ask(s)
		b, spoil := borrow(s)
		got := ask(b)
		spoil()
		if got != want {
			t.Errorf("%.20q: an answer lies in it", s.texts())
		}
	}
}

// A Decoder goes on from what has come, whatever becomes of the memory in which it came.
func TestDecoderKeepsACopy(t *testing.T) {
	for _, s := range streams() {
		for i := range len(s) {
			if w := wanted("", s[:i]); w.err != api.OK || w.done {
				break
			}
			d := body.New()
			b := []byte(s[:i])
			d.Write(borrowed(b))
			for j := range b {
				b[j] = '!'
			}
			if got, want := write(d, s[i:]), wanted(s[:i], s[i:]); got != want {
				t.Errorf("%.60q cut at %d: %v, not %v", s, i, got, want)
			}
		}
	}
}

func overlap(a, b string) bool {
	p, q := uintptr(unsafe.Pointer(unsafe.StringData(a))), uintptr(unsafe.Pointer(unsafe.StringData(b)))
	return a != "" && b != "" && p < q+uintptr(len(b)) && q < p+uintptr(len(a))
}

func TestTextsOfAnswersShareNothing(t *testing.T) {
	for _, s := range samples() {
		first, second := ask(s), ask(s)
		all := append(first.texts(), second.texts()...)
		for i, a := range all {
			for _, b := range append(all[:i:i], s.texts()...) {
				if overlap(a, b) {
					t.Errorf("%.20q: %.40q and %.40q share memory", s.texts(), a, b)
				}
			}
		}
	}
}

func TestNothingIsKept(t *testing.T) {
	var before []answers
	for _, s := range samples() {
		before = append(before, ask(s))
	}
	for i, s := range slices.Backward(samples()) {
		if ask(s) != before[i] {
			t.Errorf("%.20q is answered otherwise later", s.texts())
		}
	}
}
