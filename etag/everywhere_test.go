package etag_test

import (
	"iter"
	"slices"
	"strings"
	"testing"
	"unsafe"

	"larder/api"
	"larder/etag"
)

// texts are all those of at most so many of the given bytes.
func texts(bytes string, most int) iter.Seq[string] {
	return func(yield func(string) bool) {
		layer := []string{""}
		for range most + 1 {
			var next []string
			for _, s := range layer {
				if !yield(s) {
					return
				}
				for i := range len(bytes) {
					next = append(next, s+bytes[i:i+1])
				}
			}
			layer = next
		}
	}
}

// answers are what the calls say of a text, and of tags of that text.
type answers struct {
	printed [2]string
	parsed  api.Tag
	list    []api.Tag
	star    bool
	same    [4]bool
	errs    [4]api.Errno
}

func ask(s string) answers {
	var a answers
	a.printed[0], a.errs[0] = etag.Print(strong(s))
	a.printed[1], a.errs[1] = etag.Print(weak(s))
	a.parsed, a.errs[2] = etag.Parse(s)
	a.list, a.star, a.errs[3] = etag.List(s)
	a.same = [4]bool{
		etag.Strong(strong(s), strong(s)), etag.Strong(strong(s), weak(s)),
		etag.Weak(strong(s), weak(s)), etag.Weak(strong(s), strong("a")),
	}
	return a
}

func (a answers) texts() []string {
	l := []string{a.printed[0], a.printed[1], a.parsed.Text}
	for _, tag := range a.list {
		l = append(l, tag.Text)
	}
	return l
}

func (a answers) equal(b answers) bool {
	return a.printed == b.printed && a.parsed == b.parsed && slices.Equal(a.list, b.list) && a.star == b.star && a.same == b.same && a.errs == b.errs
}

// samples have answers of each of the calls, and errors.
func samples() []string {
	return []string{
		"", "a", "*", `"a"`, `W/"a"`, `""`, `W/""`, `"a","a",W/"a"`, ` "a,b",, W/"" `, `"ab", W/"cd",,"ef"`, `"`, `W/"`, "a b", `"a",b`, "\x00\xff", ",", `"a\","b"`,
		long(100), long(101), `"` + long(100) + `"`, `"` + long(101) + `"`, strings.Repeat(`"ab",`, 20), strings.Repeat(`"ab",`, 21), strings.Repeat(" ", 1000), strings.Repeat(" ", 1001),
		strings.Repeat(`"`+long(100)+`",`, 9),
	}
}

// P1.

func TestNothingPanics(t *testing.T) {
	for s := range texts("\"W/,* ", 6) {
		ask(s)
	}
	for c := range 256 {
		for _, n := range []int{1, 2, 3, 100, 101, 1000, 1001, 1 << 16} {
			s := strings.Repeat(one(c), n)
			ask(s)
			ask(`"` + s + `"`)
			ask(`W/"` + s)
			ask(s + `",`)
		}
	}
	for _, s := range samples() {
		ask(s)
	}
}

func TestNothingBesideAnError(t *testing.T) {
	check := func(s string) {
		a := ask(s)
		if a.errs[0] != api.OK && a.printed[0] != "" || a.errs[1] != api.OK && a.printed[1] != "" ||
			a.errs[2] != api.OK && a.parsed != (api.Tag{}) || a.errs[3] != api.OK && (a.list != nil || a.star) {
			t.Fatalf("%.40q: %.40q %v, errors %d", s, a.texts(), a.star, a.errs)
		}
	}
	for s := range texts("\"W/,* ", 6) {
		check(s)
	}
	for _, s := range samples() {
		check(s)
		check(s + ",x")
		check(`W/"` + s)
		check(s + `"`)
	}
}

// P2.

// borrowed answers a text whose bytes are b's, so that a test sees who writes to it or keeps it.
func borrowed(b []byte) string { return unsafe.String(unsafe.SliceData(b), len(b)) }

func TestWhatIsHandedInStays(t *testing.T) {
	for _, s := range samples() {
		b := []byte(s)
		ask(borrowed(b))
		if string(b) != s {
			t.Errorf("%.40q was changed", s)
		}
	}
}

func TestAnswersShareNothingWithWhatWasHandedIn(t *testing.T) {
	for _, s := range samples() {
		want := ask(s)
		b := []byte(s)
		got := ask(borrowed(b))
		for i := range b {
			b[i] = '!'
		}
		if !got.equal(want) {
			t.Errorf("%.40q: an answer lies in it", s)
		}
	}
}

func overlap(a, b string) bool {
	p, q := uintptr(unsafe.Pointer(unsafe.StringData(a))), uintptr(unsafe.Pointer(unsafe.StringData(b)))
	return a != "" && b != "" && p < q+uintptr(len(b)) && q < p+uintptr(len(a))
}

func TestTextsOfAnswersShareNothing(t *testing.T) {
	for _, s := range samples() {
		first, second := ask(s), ask(s)
		all := append([]string{s}, append(first.texts(), second.texts()...)...)
		for i, a := range all {
			for _, b := range all[:i] {
				if overlap(a, b) {
					t.Errorf("%.40q: %.40q and %.40q share memory", s, a, b)
				}
			}
		}
	}
}

func TestListsOfAnswersAreNew(t *testing.T) {
	for _, s := range samples() {
		first, second := ask(s), ask(s)
		want := ask(s)
		list := first.list[:cap(first.list)]
		for i := range list {
			list[i] = weak("spoilt")
		}
		if !second.equal(want) || !ask(s).equal(want) {
			t.Errorf("%.40q: a list is shared", s)
		}
	}
}

func TestNothingIsKept(t *testing.T) {
	var before []answers
	for _, s := range samples() {
		before = append(before, ask(s))
	}
	for i, s := range slices.Backward(samples()) {
		if !ask(s).equal(before[i]) {
			t.Errorf("%.40q is answered otherwise later", s)
		}
	}
}
