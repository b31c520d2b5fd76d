package span_test

import (
	"iter"
	"math"
	"slices"
	"strings"
	"testing"
	"unsafe"

	"larder/api"
	"larder/span"
)

// texts are all those of at most so many of the given bytes.
func texts(bytes string, most int) iter.Seq[string] {
	return func(yield func(string) bool) {
		layer := []string{""}
		for range most + 1 {
			var next []string
			for _, s := range layer {
				if !yield(s) {
					return
				}
				for i := range len(bytes) {
					next = append(next, s+bytes[i:i+1])
				}
			}
			layer = next
		}
	}
}

// sample is what the calls are handed.
type sample struct {
	text, boundary, body string
	wants                []api.Want
	parts                []api.Slice
	size                 int
}

// answers are what the calls say of a sample.
type answers struct {
	wants                    []api.Want
	resolved, merged, parts  []api.Slice
	content                  api.Slice
	size                     int
	printed, told, bundled   string
	bytes                    []string
	errs                     [7]api.Errno
	ownParts, resolvedMerged []api.Slice
	ownBytes                 []string
}

func ask(s sample) answers {
	var a answers
	a.wants, a.errs[0] = span.Parse(s.text)
	a.printed, a.errs[1] = span.Print(s.wants)
	a.resolved, a.errs[2] = span.Resolve(s.wants, s.size)
	a.merged = span.Merge(s.parts)
	a.resolvedMerged = span.Merge(a.resolved)
	var first api.Slice
	if len(s.parts) > 0 {
		first = s.parts[0]
	}
	a.told, a.errs[3] = span.PrintContent(first, s.size)
	a.content, a.size, a.errs[4] = span.ParseContent(s.text)
	a.bundled, a.errs[5] = span.Bundle(s.boundary, s.body, s.parts)
	a.parts, a.bytes, a.errs[6] = span.Unbundle(s.boundary, s.text, s.size)
	a.ownParts, a.ownBytes, _ = span.Unbundle(s.boundary, a.bundled, len(s.body))
	return a
}

func (a answers) texts() []string {
	l := []string{a.printed, a.told, a.bundled}
	return append(append(l, a.bytes...), a.ownBytes...)
}

func (a answers) lists() [][]api.Slice {
	return [][]api.Slice{a.resolved, a.merged, a.parts, a.ownParts, a.resolvedMerged}
}

func (a answers) equal(b answers) bool {
	return slices.Equal(a.wants, b.wants) && slices.EqualFunc(a.lists(), b.lists(), slices.Equal[[]api.Slice]) && a.content == b.content && a.size == b.size &&
		slices.Equal(a.texts(), b.texts()) && slices.Equal(a.bytes, b.bytes) && a.errs == b.errs
}

func (s sample) equal(b sample) bool {
	return s.text == b.text && s.boundary == b.boundary && s.body == b.body && slices.Equal(s.wants, b.wants) && slices.Equal(s.parts, b.parts) && s.size == b.size
}

// samples have answers of each of the calls, and errors.
func samples() []sample {
	long := strings.Repeat("0123456789", 10000)
	bundle := write("xy", written{"bytes 6-8/9", "ghi"}, written{"bytes 0-4/9", "abcde"}, written{"bytes 6-8/9", "ghi"})
	return []sample{
		{},
		{"bytes=0-4 , -3,7-", "xy", "abcdefghi", []api.Want{fromTo(0, 4), lastOf(3), from(7)}, []api.Slice{part(6, 9), part(0, 5), part(7, 9)}, 9},
		{"bytes 2-4/9", "larder", "abcdefghi", []api.Want{from(9), lastOf(0)}, []api.Slice{part(2, 5)}, 9},
		{bundle, "xy", "abcdefghi", []api.Want{fromTo(5, 4)}, []api.Slice{part(5, 4), part(0, 3)}, 9},
		{bundle, "xy", "", slices.Repeat([]api.Want{from(0)}, 20), slices.Repeat([]api.Slice{part(0, 1)}, 20), 8},
		{bundle[1:], "x y", "a", slices.Repeat([]api.Want{from(0)}, 21), slices.Repeat([]api.Slice{part(0, 1)}, 21), 9},
		{"bytes=" + strings.Repeat("0-,", 20) + "0-", "", "a", []api.Want{fromTo(math.MinInt, math.MaxInt)}, []api.Slice{part(math.MinInt, math.MaxInt)}, math.MinInt},
		{"bytes=" + strings.Repeat("0-,", 19) + "0-", "x", long[:99999], []api.Want{fromTo(0, 99999), lastOf(99999)}, []api.Slice{part(0, 99999), part(5, 7)}, math.MaxInt},
		{write("x", written{"bytes 0-99998/99999", long[:99999]}), "x", long, []api.Want{from(99999)}, []api.Slice{part(9, 8), part(8, 9), part(9, 12)}, 99999},
		{write("x", written{"bytes 0-0/9", "a"}, written{"bytes 0-0/9", "b"}), "x", "\x00\xff", []api.Want{from(-1)}, []api.Slice{part(0, 1), part(1, 2), part(-3, -1)}, 9},
		{"\x00\xff", "\xff", "\xff", nil, []api.Slice{part(5, 5)}, -1},
	}
}

// P1.

func TestNothingPanics(t *testing.T) {
	for s := range texts("0-,/= ", 5) {
		ask(sample{"bytes=" + s, s, s, []api.Want{fromTo(len(s), 3)}, []api.Slice{part(0, len(s)), part(1, 3)}, len(s)})
		ask(sample{"bytes " + s, "x", s, []api.Want{lastOf(len(s))}, []api.Slice{part(-1, len(s))}, 3})
		ask(sample{"--x\r\nContent-Range: bytes " + s, "x", s, nil, nil, len(s) - 3})
	}
	ends := []int{math.MinInt, math.MinInt + 1, -100000, -2, -1, 0, 1, 2, 99999, 100000, math.MaxInt - 1, math.MaxInt}
	for _, a := range ends {
		for _, b := range ends {
			for _, c := range ends {
				ask(sample{"", "x", "ab", []api.Want{fromTo(a, b), fromTo(b, c)}, []api.Slice{part(a, b), part(b, c), part(a, c)}, c})
				ask(sample{"", "x", "ab", []api.Want{fromTo(a, b)}, []api.Slice{part(a, b)}, c})
			}
		}
	}
	for i := range 256 {
		for _, n := range []int{1, 2, 3, 5, 6, 30, 31, 1 << 16} {
			s := strings.Repeat(one(i), n)
			for _, text := range []string{s, "bytes=" + s, "bytes=5-" + s, "bytes " + s, "bytes 0-" + s, "bytes 0-0/" + s, "--x\r\nContent-Range: bytes 0-0/" + s, "--x\r\nContent-Range: bytes 0-0/3\r\n\r\n" + s} {
				ask(sample{text, "x", s, nil, []api.Slice{part(0, n)}, 3})
				ask(sample{text, s, text, nil, []api.Slice{part(n-1, n)}, n})
			}
		}
	}
	for _, s := range samples() {
		ask(s)
	}
}

func TestNothingBesideAnError(t *testing.T) {
	check := func(s sample) {
		a := ask(s)
		beside := []bool{
			a.wants != nil, a.printed != "", a.resolved != nil, a.told != "",
			a.content != api.Slice{} || a.size != 0, a.bundled != "", a.parts != nil || a.bytes != nil,
		}
		for i, err := range a.errs {
			if err != api.OK && beside[i] {
				t.Fatalf("%.100q: something beside error %d of call %d", s.text, err, i)
			}
		}
	}
	for s := range texts("05-,/", 5) {
		check(sample{"bytes=1-," + s, "x", s, []api.Want{from(0), fromTo(3, len(s))}, []api.Slice{part(0, 1), part(0, 3)}, len(s)})
		check(sample{"bytes 1-" + s, "x", s, []api.Want{from(0), from(5)}, []api.Slice{part(0, 3)}, 0})
		check(sample{"--x\r\nContent-Range: bytes 0-0/9\r\n\r\na\r\n--x" + s, "x", s, nil, nil, 9})
	}
	for _, s := range samples() {
		check(s)
		s.text += "\x00"
		s.size--
		check(s)
	}
}

// P2.

// borrowed answers a text whose bytes are b's, so that a test sees who writes to it or keeps it.
func borrowed(b []byte) string { return unsafe.String(unsafe.SliceData(b), len(b)) }

// roomy answers a copy of l that has room behind it.
func roomy[T any](l []T) []T { return append(make([]T, 0, len(l)+5), l...) }

// borrow answers the sample in memory that can be spoilt later, and a function that spoils it.
func borrow(s sample) (sample, func()) {
	var lent [][]byte
	lend := func(s string) string {
		b := []byte(s)
		lent = append(lent, b)
		return borrowed(b)
	}
	b := sample{lend(s.text), lend(s.boundary), lend(s.body), roomy(s.wants), roomy(s.parts), s.size}
	spoil := func() {
		for _, b := range lent {
			for i := range b {
				b[i] = '!'
			}
		}
		clear(b.wants[:cap(b.wants)])
		clear(b.parts[:cap(b.parts)])
	}
	return b, spoil
}

func TestWhatIsHandedInStays(t *testing.T) {
	for _, s := range samples() {
		b, _ := borrow(s)
		ask(b)
		if !b.equal(s) {
			t.Errorf("%.100q was changed", s.text)
		}
		wants, parts := b.wants[len(b.wants):cap(b.wants)], b.parts[len(b.parts):cap(b.parts)]
		if slices.ContainsFunc(wants, func(w api.Want) bool { return w != api.Want{} }) || slices.ContainsFunc(parts, func(p api.Slice) bool { return p != api.Slice{} }) {
			t.Errorf("%.100q: the room behind a list was changed", s.text)
		}
	}
}

func TestAnswersShareNothingWithWhatWasHandedIn(t *testing.T) {
	for _, s := range samples() {
		want := ask(s)
		b, spoil := borrow(s)
		got := ask(b)
		spoil()
		if !got.equal(want) {
			t.Errorf("%.100q: an answer lies in it", s.text)
		}
	}
}

func overlap(a, b string) bool {
	p, q := uintptr(unsafe.Pointer(unsafe.StringData(a))), uintptr(unsafe.Pointer(unsafe.StringData(b)))
	return a != "" && b != "" && p < q+uintptr(len(b)) && q < p+uintptr(len(a))
}

func TestTextsOfAnswersShareNothing(t *testing.T) {
	for _, s := range samples() {
		first, second := ask(s), ask(s)
		all := append([]string{s.text, s.boundary, s.body}, append(first.texts(), second.texts()...)...)
		for i, a := range all {
			for _, b := range all[:i] {
				// What was handed in may share memory among itself.
				if i >= 3 && overlap(a, b) {
					t.Errorf("%.100q: %.40q and %.40q share memory", s.text, a, b)
				}
			}
		}
	}
}

// TestListsOfAnswersAreNew: who writes to a list of an answer, and to its spare room, changes no other list.
func TestListsOfAnswersAreNew(t *testing.T) {
	for _, s := range samples() {
		want := ask(s)
		for i := range want.lists() {
			first, second := ask(s), ask(s)
			l := first.lists()[i]
			l = l[:cap(l)]
			for j := range l {
				l[j] = part(-7, -7)
			}
			wants := first.wants[:cap(first.wants)]
			for j := range wants {
				wants[j] = fromTo(-7, -7)
			}
			for j, other := range first.lists() {
				if j != i && !slices.Equal(other, want.lists()[j]) {
					t.Errorf("%.100q: lists %d and %d share memory", s.text, i, j)
				}
			}
			if !second.equal(want) || !ask(s).equal(want) {
				t.Errorf("%.100q: a list is shared", s.text)
			}
		}
	}
}

func TestNothingIsKept(t *testing.T) {
	var before []answers
	for _, s := range samples() {
		b, spoil := borrow(s)
		before = append(before, ask(b))
		spoil()
	}
	for i, s := range slices.Backward(samples()) {
		if !ask(s).equal(before[i]) {
			t.Errorf("%.100q is answered otherwise later", s.text)
		}
	}
}
