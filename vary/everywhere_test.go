package vary_test

import (
	"iter"
	"slices"
	"strings"
	"testing"
	"unsafe"

	"larder/api"
	"larder/vary"
)

// texts are all those of at most so many of the given bytes.
func texts(bytes string, most int) iter.Seq[string] {
	return func(yield func(string) bool) {
		layer := []string{""}
		for range most + 1 {
			var next []string
			for _, s := range layer {
				if !yield(s) {
					return
				}
				for i := range len(bytes) {
					next = append(next, s+bytes[i:i+1])
				}
			}
			layer = next
		}
	}
}

// sample is what the calls are handed.
type sample struct{ l, a, b []api.Field }

func (s sample) lists() [][]api.Field { return [][]api.Field{s.l, s.a, s.b} }

// answers are what the calls say of a sample.
type answers struct {
	names    []string
	star, is bool
	errs     [2]api.Errno
}

func ask(s sample) answers {
	var a answers
	a.names, a.star, a.errs[0] = vary.Names(s.l)
	a.is, a.errs[1] = vary.Match(s.l, s.a, s.b)
	return a
}

func (a answers) equal(b answers) bool {
	return slices.Equal(a.names, b.names) && a.star == b.star && a.is == b.is && a.errs == b.errs
}

// samples have answers of each of the calls, and errors.
func samples() []sample {
	return []sample{
		{},
		{by("accept"), of("accept", "abc"), of("accept", "abc")},
		{by("Accept"), of("Accept", "abc"), of("accept", "abcd")},
		{by("accept, b, accept, *"), nil, of("accept", "")},
		{by("cc,bb", "aa"), of("aa", "x", "bb", "yy", "bb", "zz"), of("bb", "yy, zz", "AA", "x")},
		{by("aa,bb,cc,AA"), of("aa", "x"), nil},
		{by("*"), nil, nil},
		{by("ab,"), of("ab", "\x00\xff"), of("ab", "\x00\xff")},
		{by("a b"), of("a", "x"), of("b", "x")},
		{by(`"a"`), nil, nil},
		{by("\x00\xff"), of("\xff", "\x00"), of("", "")},
		{by(long(1000)), of(long(1000), long(1<<12)), of(long(1000), long(1<<12))},
		{by(long(1001)), nil, nil},
		{by(strings.Join(numbered(20), ",")), of("n001", "xx"), of("n001", "xx")},
		{by(numbered(20)...), of("n001", "xx"), of("n002", "xx")},
		{by(numbered(21)...), nil, nil},
		{slices.Repeat(of("Vary", ""), 400), slices.Repeat(of("Vary", "ab"), 1000), slices.Repeat(of("Vary", "ab"), 1000)},
	}
}

// P1.

func TestNothingPanics(t *testing.T) {
	for c := range 256 {
		for _, n := range []int{0, 1, 2, 3, 20, 21, 998, 1000, 1001, 1 << 12} {
			s := strings.Repeat(one(c), n)
			for _, value := range []string{s, "a," + s, s + ",a", `"` + s, `"` + s + `"`, strings.Repeat(one(c)+",", n)} {
				ask(sample{by(value), of(s, s), of(s, "x")})
				ask(sample{of("vary", value, s, s), of("a", s), of("a", s)})
			}
		}
	}
	for _, s := range samples() {
		ask(s)
	}
}

func TestNothingBesideAnError(t *testing.T) {
	check := func(s sample) {
		a := ask(s)
		if a.errs[0] != a.errs[1] {
			t.Fatalf("%s: errors %d", show(s.l), a.errs)
		}
		if a.errs[0] != api.OK && (a.names != nil || a.star || a.is) {
			t.Fatalf("%s: %.100q %v %v, errors %d", show(s.l), a.names, a.star, a.is, a.errs)
		}
	}
	for s := range texts("aB*, \"\\\n", 5) {
		check(sample{by("*, x", s), nil, nil})
	}
	for _, s := range samples() {
		check(s)
		check(sample{append(s.l, of("Vary", "a b")...), s.a, s.a})
	}
}

// P2.

// borrowed answers a text whose bytes are b's, so that a test sees who writes to it or keeps it.
func borrowed(b []byte) string { return unsafe.String(unsafe.SliceData(b), len(b)) }

// borrow answers the sample in memory that can be spoilt later, and a function that spoils it; its lists have room behind them.
func borrow(s sample) (sample, func()) {
	var lentTexts [][]byte
	var lentLists [][]api.Field
	for _, l := range s.lists() {
		lent := make([]api.Field, 0, len(l)+5)
		for _, f := range l {
			name, value := []byte(f.Name), []byte(f.Value)
			lentTexts = append(lentTexts, name, value)
			lent = append(lent, api.Field{Name: borrowed(name), Value: borrowed(value)})
		}
		lentLists = append(lentLists, lent)
	}
	spoil := func() {
		for _, b := range lentTexts {
			for i := range b {
				b[i] = '!'
			}
		}
		for _, l := range lentLists {
			clear(l[:cap(l)])
		}
	}
	return sample{lentLists[0], lentLists[1], lentLists[2]}, spoil
}

func TestWhatIsHandedInStays(t *testing.T) {
	for _, s := range samples() {
		b, _ := borrow(s)
		ask(b)
		for i, l := range b.lists() {
			if !slices.Equal(l, s.lists()[i]) {
				t.Errorf("%s: changed", show(s.lists()[i]))
			}
			if slices.ContainsFunc(l[len(l):cap(l)], func(f api.Field) bool { return f != api.Field{} }) {
				t.Errorf("%s: the room behind it was changed", show(s.lists()[i]))
			}
		}
	}
}

func TestAnswersShareNothingWithWhatWasHandedIn(t *testing.T) {
	for _, s := range samples() {
		want := ask(s)
		b, spoil := borrow(s)
		got := ask(b)
		spoil()
		if !got.equal(want) {
			t.Errorf("%s: an answer lies in it", show(s.l))
		}
	}
}

func overlap(a, b string) bool {
	p, q := uintptr(unsafe.Pointer(unsafe.StringData(a))), uintptr(unsafe.Pointer(unsafe.StringData(b)))
	return a != "" && b != "" && p < q+uintptr(len(b)) && q < p+uintptr(len(a))
}

func TestTextsOfAnswersShareNothing(t *testing.T) {
	for _, s := range samples() {
		var handed []string
		for _, f := range slices.Concat(s.lists()...) {
			handed = append(handed, f.Name, f.Value)
		}
		first, second := ask(s), ask(s)
		all := slices.Concat(handed, first.names, second.names)
		for i, a := range all {
			// What was handed in may share memory among itself.
			if i < len(handed) {
				continue
			}
			for _, b := range all[:i] {
				if overlap(a, b) {
					t.Errorf("%s: %.40q and %.40q share memory", show(s.l), a, b)
				}
			}
		}
	}
}

func TestListsOfAnswersAreNew(t *testing.T) {
	for _, s := range samples() {
		first, second, want := ask(s), ask(s), ask(s)
		names := first.names[:cap(first.names)]
		for i := range names {
			names[i] = "spoilt"
		}
		if !second.equal(want) || !ask(s).equal(want) {
			t.Errorf("%s: a list is shared", show(s.l))
		}
	}
}

func TestNothingIsKept(t *testing.T) {
	var before []answers
	for _, s := range samples() {
		b, spoil := borrow(s)
		before = append(before, ask(b))
		spoil()
	}
	for i, s := range slices.Backward(samples()) {
		if !ask(s).equal(before[i]) {
			t.Errorf("%s: answered otherwise later", show(s.l))
		}
	}
}
