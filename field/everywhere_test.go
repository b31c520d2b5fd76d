package field_test

import (
	"iter"
	"slices"
	"strings"
	"testing"
	"unsafe"

	"larder/api"
	"larder/field"
)

// texts are all those of at most so many of the given bytes.
func texts(bytes string, most int) iter.Seq[string] {
	return func(yield func(string) bool) {
		layer := []string{""}
		for range most + 1 {
			var next []string
			for _, s := range layer {
				if !yield(s) {
					return
				}
				for i := range len(bytes) {
					next = append(next, s+bytes[i:i+1])
				}
			}
			layer = next
		}
	}
}

// answers are what the calls say of a list, a name and a value, and of a text.
type answers struct {
	check, printErr, parseErr api.Errno
	value, printed            string
	is                        bool
	n                         int
	set, dropped, parsed      []api.Field
}

type sample struct {
	l                 []api.Field
	name, value, text string
}

func ask(s sample) answers {
	var a answers
	a.check = field.Check(s.l)
	a.value, a.is = field.Get(s.l, s.name)
	a.set = field.Set(s.l, s.name, s.value)
	a.dropped = field.Drop(s.l, s.name)
	a.printed, a.printErr = field.Print(s.l)
	a.parsed, a.n, a.parseErr = field.Parse(s.text)
	return a
}

func (a answers) lists() [][]api.Field { return [][]api.Field{a.set, a.dropped, a.parsed} }

func (a answers) texts() []string {
	l := []string{a.value, a.printed}
	for _, m := range a.lists() {
		for _, f := range m {
			l = append(l, f.Name, f.Value)
		}
	}
	return l
}

func (a answers) same(b answers) bool {
	return a.check == b.check && a.printErr == b.printErr && a.parseErr == b.parseErr &&
		a.value == b.value && a.printed == b.printed && a.is == b.is && a.n == b.n &&
		slices.Equal(a.set, b.set) && slices.Equal(a.dropped, b.dropped) && slices.Equal(a.parsed, b.parsed)
}

// samples have answers of each of the calls, and errors.
func samples() []sample {
	return []sample{
		{nil, "", "", ""},
		{nil, "a", "b", "\r\n"},
		{of("a", "b"), "a", "c", "a:b\r\n\r\n"},
		{of("a", "b"), "c", "d", "a: b \r\nab:cd\r\n\r\nef"},
		{of("A", "1", "b", "2", "a", "3"), "a", "x", "A: 1\r\nb: 2\r\na: 3\r\n\r\n"},
		{of("b", "2", "a", "3", "c", ""), "a", "x", "b:2\r\na\r\n\r\n"},
		{of("", "", "\xff", "\n"), "\xff", "\x00", "b:2\r\na"},
		{many(30), "a", "x", strings.Repeat("a: b\r\n", 30) + "\r\n"},
		{many(31), "b", "x", strings.Repeat("a: b\r\n", 31) + "\r\n"},
		{of(long(30), long(1000), "x", "yz"), long(30), long(5), long(30) + ":" + long(1000) + "\r\n\r\n"},
		{of(long(31), long(1001), "x", "yz"), "X", "yz", long(31) + ":" + long(1001) + "\r\n\r\n"},
	}
}

// P1.

func TestNothingPanics(t *testing.T) {
	for s := range texts("a: \r\n", 6) {
		ask(sample{of(s, s, "a", s), s, s, s})
	}
	for i := range 256 {
		c := string([]byte{byte(i)})
		for _, s := range []string{c, c + c, c + ":", "a:" + c, c + "\r\n", "a:" + c + "\r\n\r\n", strings.Repeat(c, 1100), strings.Repeat(c, 1<<16)} {
			ask(sample{of(s, s, c, s), c, s, s})
		}
	}
	for _, s := range samples() {
		ask(s)
	}
}

func TestNothingBesideAnError(t *testing.T) {
	check := func(s sample) {
		a := ask(s)
		if a.printErr != api.OK && a.printed != "" || a.parseErr != api.OK && (a.parsed != nil || a.n != 0) {
			t.Fatalf("%.80q: %.200v", s, a)
		}
	}
	for s := range texts("a: \r\n", 6) {
		check(sample{of("a", "b", s, s), s, s, "a:b\r\n" + s})
	}
	for _, s := range samples() {
		check(s)
	}
}

// P2.

// borrowed answers a text whose bytes are b's, so that a test sees who writes to it or keeps it.
func borrowed(b []byte) string { return unsafe.String(unsafe.SliceData(b), len(b)) }

// borrow answers the sample in memory that can be spoilt later, and a function that spoils it; its list has room behind it.
func borrow(s sample) (sample, func()) {
	var lent [][]byte
	lend := func(s string) string {
		b := []byte(s)
		lent = append(lent, b)
		return borrowed(b)
	}
	l := make([]api.Field, 0, len(s.l)+5)
	for _, f := range s.l {
		l = append(l, api.Field{Name: lend(f.Name), Value: lend(f.Value)})
	}
	spoil := func() {
		for _, b := range lent {
			for i := range b {
				b[i] = '!'
			}
		}
		clear(l[:cap(l)])
	}
	return sample{l, lend(s.name), lend(s.value), lend(s.text)}, spoil
}

func TestWhatIsHandedInStays(t *testing.T) {
	for _, s := range samples() {
		b, _ := borrow(s)
		room := b.l[:cap(b.l)]
		ask(b)
		if !slices.Equal(b.l, s.l) || b.name != s.name || b.value != s.value || b.text != s.text {
			t.Errorf("%.80q was changed", s)
		}
		if slices.ContainsFunc(room[len(b.l):], func(f api.Field) bool { return f != api.Field{} }) {
			t.Errorf("%.80q: the room behind the list was changed", s)
		}
	}
}

func TestAnswersShareNothingWithWhatWasHandedIn(t *testing.T) {
	for _, s := range samples() {
		want := ask(s)
		b, spoil := borrow(s)
		got := ask(b)
		spoil()
		if !got.same(want) {
			t.Errorf("%.80q: an answer lies in it", s)
		}
	}
}

func overlap(a, b string) bool {
	p, q := uintptr(unsafe.Pointer(unsafe.StringData(a))), uintptr(unsafe.Pointer(unsafe.StringData(b)))
	return a != "" && b != "" && p < q+uintptr(len(b)) && q < p+uintptr(len(a))
}

func TestTextsOfAnswersShareNothing(t *testing.T) {
	for _, s := range samples() {
		first, second := ask(s), ask(s)
		all := append(first.texts(), second.texts()...)
		for i, a := range all {
			for _, b := range append(all[:i:i], s.name, s.value, s.text) {
				if overlap(a, b) {
					t.Errorf("%.80q: %.40q and %.40q share memory", s, a, b)
				}
			}
		}
	}
}

func TestListsOfAnswersAreNew(t *testing.T) {
	for _, s := range samples() {
		want := ask(s)
		for i := range want.lists() {
			first, second := ask(s), ask(s)
			l := first.lists()[i]
			l = l[:cap(l)]
			for j := range l {
				l[j] = api.Field{Name: "spoilt", Value: "spoilt"}
			}
			for j, m := range first.lists() {
				if j != i && !slices.Equal(m, want.lists()[j]) {
					t.Errorf("%.80q: lists %d and %d share memory", s, i, j)
				}
			}
			if !second.same(want) || !ask(s).same(want) {
				t.Errorf("%.80q: list %d is shared", s, i)
			}
		}
	}
}

func TestNothingIsKept(t *testing.T) {
	var before []answers
	for _, s := range samples() {
		before = append(before, ask(s))
	}
	for i, s := range slices.Backward(samples()) {
		if !ask(s).same(before[i]) {
			t.Errorf("%.80q is answered otherwise later", s)
		}
	}
}
