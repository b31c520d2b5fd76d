package target_test

import (
	"iter"
	"slices"
	"strings"
	"testing"
	"unsafe"

	"larder/api"
)

// texts are all those of at most so many of the given bytes.
func texts(bytes string, most int) iter.Seq[string] {
	return func(yield func(string) bool) {
		layer := []string{""}
		for range most + 1 {
			var next []string
			for _, s := range layer {
				if !yield(s) {
					return
				}
				for i := range len(bytes) {
					next = append(next, s+bytes[i:i+1])
				}
			}
			layer = next
		}
	}
}

// answers are what the calls say of a text.
type answers struct {
	texts [3]string
	errs  [3]api.Errno
}

func ask(s string) answers {
	var a answers
	for i, c := range []call{normal(), escape(), unescape()} {
		a.texts[i], a.errs[i] = c.of(s)
	}
	return a
}

// samples have answers of each of the calls, and errors.
func samples() []string {
	return []string{
		"", "/", "a", "/a", "/a/../b", "/..", "/a/..", "/.", "/a/b/./c?d", "/%41%2f?%7e", "/%", "/ ", "%", "\x00\xff", "/a?b", "/?", "//", "a/b",
		long(200), long(201), "/" + long(199), "/" + long(200), strings.Repeat("/", 66), strings.Repeat("/", 67), strings.Repeat("/..", 66), strings.Repeat("%41", 66),
	}
}

// P1.

func TestNothingPanics(t *testing.T) {
	for s := range texts("/.?%2", 6) {
		ask(s)
	}
	for c := range 256 {
		for _, n := range []int{1, 2, 3, 66, 67, 199, 200, 201, 1 << 16} {
			s := strings.Repeat(one(c), n)
			ask(s)
			ask("/" + s)
			ask("/" + s + "%")
		}
	}
	for _, s := range samples() {
		ask(s)
	}
}

func TestNothingBesideAnError(t *testing.T) {
	check := func(s string) {
		a := ask(s)
		for i, err := range a.errs {
			if err != api.OK && a.texts[i] != "" {
				t.Fatalf("%.40q: %.40q beside error %d", s, a.texts[i], err)
			}
		}
	}
	for s := range texts("/.?%2#", 5) {
		check(s)
		check("/a" + s)
	}
	for _, s := range samples() {
		check(s)
		check(s + "%4")
		check(s + "#")
	}
}

// P2.

// borrowed answers a text whose bytes are b's, so that a test sees who writes to it or keeps it.
func borrowed(b []byte) string { return unsafe.String(unsafe.SliceData(b), len(b)) }

func TestWhatIsHandedInStays(t *testing.T) {
	for _, s := range samples() {
		b := []byte(s)
		ask(borrowed(b))
		if string(b) != s {
			t.Errorf("%.40q was changed", s)
		}
	}
}

func TestAnswersShareNothingWithWhatWasHandedIn(t *testing.T) {
	for _, s := range samples() {
		want := ask(s)
		b := []byte(s)
		got := ask(borrowed(b))
		for i := range b {
			b[i] = '!'
		}
		if got != want {
			t.Errorf("%.40q: an answer lies in it", s)
		}
	}
}

func overlap(a, b string) bool {
	p, q := uintptr(unsafe.Pointer(unsafe.StringData(a))), uintptr(unsafe.Pointer(unsafe.StringData(b)))
	return a != "" && b != "" && p < q+uintptr(len(b)) && q < p+uintptr(len(a))
}

func TestTextsOfAnswersShareNothing(t *testing.T) {
	for _, s := range samples() {
		first, second := ask(s), ask(s)
		all := append([]string{s}, append(first.texts[:], second.texts[:]...)...)
		for i, a := range all {
			for _, b := range all[:i] {
				if overlap(a, b) {
					t.Errorf("%.40q: %.40q and %.40q share memory", s, a, b)
				}
			}
		}
	}
}

func TestNothingIsKept(t *testing.T) {
	var before []answers
	for _, s := range samples() {
		before = append(before, ask(s))
	}
	for i, s := range slices.Backward(samples()) {
		if ask(s) != before[i] {
			t.Errorf("%.40q is answered otherwise later", s)
		}
	}
}
