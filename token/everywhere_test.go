package token_test

import (
	"iter"
	"slices"
	"strings"
	"testing"
	"unsafe"

	"larder/api"
	"larder/token"
)

// texts are all those of at most so many of the given bytes.
func texts(bytes string, most int) iter.Seq[string] {
	return func(yield func(string) bool) {
		layer := []string{""}
		for range most + 1 {
			var next []string
			for _, s := range layer {
				if !yield(s) {
					return
				}
				for i := range len(bytes) {
					next = append(next, s+bytes[i:i+1])
				}
			}
			layer = next
		}
	}
}

// answers are what the calls say of a text.
type answers struct {
	is                      bool
	lower, quoted, unquoted string
	parts                   []string
	value                   string
	params                  []api.Param
	errs                    [4]api.Errno
}

func ask(s string) answers {
	var a answers
	a.is = token.IsToken(s)
	a.lower = token.Lower(s)
	a.quoted, a.errs[0] = token.Quote(s)
	a.unquoted, a.errs[1] = token.Unquote(s)
	a.parts, a.errs[2] = token.Split(s)
	a.value, a.params, a.errs[3] = token.Params(s)
	return a
}

func (a answers) texts() []string {
	l := []string{a.lower, a.quoted, a.unquoted, a.value}
	l = append(l, a.parts...)
	for _, p := range a.params {
		l = append(l, p.Name, p.Value)
	}
	return l
}

func (a answers) same(b answers) bool {
	return a.is == b.is && a.errs == b.errs && slices.Equal(a.texts(), b.texts()) && len(a.parts) == len(b.parts)
}

// samples have answers of each of the calls, and errors.
func samples() []string {
	return []string{
		"", "a", "A", "a,b", `"a"`, `""`, `"A,b;c=d"`, "a;b=c", "A ; B=C;d=\"e\"", "a, \"b,c\"\t,d e,",
		`"`, `\`, "a;b", "\x00", "\xff\xfe", strings.Repeat("a", 1000), strings.Repeat("a", 1001),
		strings.Repeat("a,", 21), "a" + strings.Repeat(";b=c", 21), strings.Repeat(`"`, 1000), strings.Repeat(`"`, 5001),
	}
}

// P1.

func TestNothingPanics(t *testing.T) {
	for s := range texts("a\"\\,;= \n", 5) {
		ask(s)
	}
	for i := range 256 {
		c := string([]byte{byte(i)})
		for _, s := range []string{c, c + c, `"` + c, `"` + c + `"`, c + ";a=b", "a;" + c, "a;b=" + c, strings.Repeat(c, 1000), strings.Repeat(c, 1<<17)} {
			ask(s)
		}
	}
}

func TestNothingBesideAnError(t *testing.T) {
	check := func(s string) {
		a := ask(s)
		if a.errs[0] != api.OK && a.quoted != "" || a.errs[1] != api.OK && a.unquoted != "" ||
			a.errs[2] != api.OK && a.parts != nil || a.errs[3] != api.OK && (a.value != "" || a.params != nil) {
			t.Fatalf("%.40q: %.200v", s, a)
		}
	}
	for s := range texts("a\"\\,;= \n", 5) {
		check(s)
	}
	for _, s := range samples() {
		check(s)
	}
}

// P2.

// borrowed answers a text whose bytes are b's, so that a test sees who writes to it or keeps it.
func borrowed(b []byte) string { return unsafe.String(unsafe.SliceData(b), len(b)) }

func TestWhatIsHandedInStays(t *testing.T) {
	for _, s := range samples() {
		b := make([]byte, len(s), len(s)+50)
		copy(b, s)
		ask(borrowed(b))
		if string(b) != s || slices.ContainsFunc(b[len(b):cap(b)], func(c byte) bool { return c != 0 }) {
			t.Errorf("%.40q was changed", s)
		}
	}
}

func TestAnswersShareNothingWithWhatWasHandedIn(t *testing.T) {
	for _, s := range samples() {
		want := ask(s)
		b := []byte(s)
		got := ask(borrowed(b))
		for i := range b {
			b[i] = '!'
		}
		if !got.same(want) {
			t.Errorf("%.40q: an answer lies in it", s)
		}
	}
}

func overlap(a, b string) bool {
	p, q := uintptr(unsafe.Pointer(unsafe.StringData(a))), uintptr(unsafe.Pointer(unsafe.StringData(b)))
	return a != "" && b != "" && p < q+uintptr(len(b)) && q < p+uintptr(len(a))
}

func TestTextsOfAnswersShareNothing(t *testing.T) {
	for _, s := range samples() {
		first, second := ask(s), ask(s)
		all := append(first.texts(), second.texts()...)
		all = append(all, s)
		for i, a := range all {
			for _, b := range all[:i] {
				if overlap(a, b) {
					t.Errorf("%.40q: %.40q and %.40q share memory", s, a, b)
				}
			}
		}
	}
}

func TestListsOfAnswersAreNew(t *testing.T) {
	for _, s := range samples() {
		first, second := ask(s), ask(s)
		want := ask(s)
		parts, params := first.parts[:cap(first.parts)], first.params[:cap(first.params)]
		for i := range parts {
			parts[i] = "spoilt"
		}
		for i := range params {
			params[i] = api.Param{Name: "spoilt", Value: "spoilt"}
		}
		if !second.same(want) || !ask(s).same(want) {
			t.Errorf("%.40q: a list is shared", s)
		}
	}
}

func TestNothingIsKept(t *testing.T) {
	var before []answers
	for _, s := range samples() {
		before = append(before, ask(s))
	}
	for i, s := range slices.Backward(samples()) {
		if !ask(s).same(before[i]) {
			t.Errorf("%.40q is answered otherwise later", s)
		}
	}
}
