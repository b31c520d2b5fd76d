package control_test

import (
	"iter"
	"slices"
	"strings"
	"testing"
	"unsafe"

	"larder/api"
	"larder/control"
)

// texts are all those of at most so many of the given bytes.
func texts(bytes string, most int) iter.Seq[string] {
	return func(yield func(string) bool) {
		layer := []string{""}
		for range most + 1 {
			var next []string
			for _, s := range layer {
				if !yield(s) {
					return
				}
				for i := range len(bytes) {
					next = append(next, s+bytes[i:i+1])
				}
			}
			layer = next
		}
	}
}

// sample is what the calls are handed.
type sample struct {
	text string
	list []api.Directive
	name string
}

// answers are what the calls say of a sample.
type answers struct {
	parsed  []api.Directive
	printed string
	has     bool
	seconds int
	there   bool
	errs    [2]api.Errno
}

func ask(s sample) answers {
	var a answers
	a.parsed, a.errs[0] = control.Parse(s.text)
	a.printed, a.errs[1] = control.Print(s.list)
	a.has = control.Has(s.list, s.name)
	a.seconds, a.there = control.Seconds(s.list, s.name)
	return a
}

func (a answers) texts() []string {
	l := []string{a.printed}
	for _, d := range a.parsed {
		l = append(l, d.Name, d.Arg)
	}
	return l
}

func (a answers) equal(b answers) bool {
	return slices.Equal(a.parsed, b.parsed) && a.printed == b.printed && a.has == b.has && a.seconds == b.seconds && a.there == b.there && a.errs == b.errs
}

// samples have answers of each of the calls, and errors.
func samples() []sample {
	return []sample{
		{},
		{"no-cache", of(bare("no-cache")), "no-cache"},
		{"No-Cache", of(bare("No-Cache")), "No-Cache"},
		{"abc=def", of(with("abc", "def")), "abc"},
		{`abc="def"`, of(with("abc", "d f")), "def"},
		{`Max-Age=5, foo="a,b",no-cache,, x=""`, of(with("max-age", "5"), with("foo", `a"b`), bare("no-cache")), "max-age"},
		{"a,a,A=b,a=b", of(with("a", "x"), with("a", "5")), "a"},
		{"a b", of(bare("a b")), "a b"},
		{`abc,a="`, of(bare("abc"), api.Directive{Name: "a", Arg: "b"}), ""},
		{"\x00\xff", of(with("a", "\x00\xff")), "\xff"},
		{long(1000), of(bare(long(1000))), long(1000)},
		{long(1001), of(bare(long(1001))), long(1001)},
		{"a=" + long(998), of(with("a", long(1001))), "a"},
		{strings.Repeat("ab,", 20), slices.Repeat(of(with("ab", "99999999999")), 20), "ab"},
		{strings.Repeat("ab=cd,", 21), slices.Repeat(of(with("ab", "cd")), 21), "cd"},
		{strings.Repeat(`a="b c",`, 20), slices.Repeat(of(with("ab", "c d")), 20), ""},
		{`a="` + strings.Repeat(`\"`, 498) + `"`, of(with("a", strings.Repeat(`"`, 498))), "a"},
	}
}

// P1.

func TestNothingPanics(t *testing.T) {
	for s := range texts("a=\"\\, A\n", 5) {
		ask(sample{s, of(with("a", s), with(s, s), api.Directive{Name: s, Arg: s}), s})
	}
	for c := range 256 {
		for _, n := range []int{1, 2, 3, 20, 21, 1000, 1001, 1 << 16} {
			s := strings.Repeat(one(c), n)
			for _, text := range []string{s, "a=" + s, `a="` + s, `a="` + s + `"`, s + "=a", s + ",a"} {
				ask(sample{text, of(bare(s), with("a", s)), s})
				ask(sample{text, of(with("a", s), bare(s)), "a"})
			}
		}
	}
	for _, s := range samples() {
		ask(s)
	}
}

func TestNothingBesideAnError(t *testing.T) {
	check := func(s sample) {
		a := ask(s)
		if a.errs[0] != api.OK && a.parsed != nil || a.errs[1] != api.OK && a.printed != "" || !a.there && a.seconds != 0 {
			t.Fatalf("%.60q and %.200s: %.100s %.60q %d %v, errors %d", s.text, show(s.list), show(a.parsed), a.printed, a.seconds, a.there, a.errs)
		}
	}
	for s := range texts("a=\"\\, A\n", 5) {
		check(sample{"b=c," + s, of(with("b", "c"), with("a", s), bare(s)), s})
	}
	for _, s := range samples() {
		check(s)
		s.text += ",="
		s.list = append(s.list, bare(""))
		check(s)
	}
}

// TestADirectiveWithoutArgHasNone: what is read holds to what Print asks of a directive.
func TestADirectiveWithoutArgHasNone(t *testing.T) {
	for s := range texts("a=\"\\, A\n", 5) {
		for _, d := range ask(sample{text: s}).parsed {
			if _, e := control.Print(of(d)); e != api.OK {
				t.Fatalf("%q: %s", s, show(of(d)))
			}
		}
	}
}

// P2.

// borrowed answers a text whose bytes are b's, so that a test sees who writes to it or keeps it.
func borrowed(b []byte) string { return unsafe.String(unsafe.SliceData(b), len(b)) }

// borrow answers the sample in memory that can be spoilt later, and a function that spoils it; its list has room behind it.
func borrow(s sample) (sample, func()) {
	var lent [][]byte
	lend := func(s string) string {
		b := []byte(s)
		lent = append(lent, b)
		return borrowed(b)
	}
	l := make([]api.Directive, 0, len(s.list)+5)
	for _, d := range s.list {
		l = append(l, api.Directive{Name: lend(d.Name), HasArg: d.HasArg, Arg: lend(d.Arg)})
	}
	spoil := func() {
		for _, b := range lent {
			for i := range b {
				b[i] = '!'
			}
		}
		clear(l[:cap(l)])
	}
	return sample{lend(s.text), l, lend(s.name)}, spoil
}

func TestWhatIsHandedInStays(t *testing.T) {
	for _, s := range samples() {
		b, _ := borrow(s)
		ask(b)
		if b.text != s.text || !slices.Equal(b.list, s.list) || b.name != s.name {
			t.Errorf("%.60q and %.200s: changed", s.text, show(s.list))
		}
		if slices.ContainsFunc(b.list[len(b.list):cap(b.list)], func(d api.Directive) bool { return d != api.Directive{} }) {
			t.Errorf("%.200s: the room behind the list was changed", show(s.list))
		}
	}
}

func TestAnswersShareNothingWithWhatWasHandedIn(t *testing.T) {
	for _, s := range samples() {
		want := ask(s)
		b, spoil := borrow(s)
		got := ask(b)
		spoil()
		if !got.equal(want) {
			t.Errorf("%.60q and %.200s: an answer lies in them", s.text, show(s.list))
		}
	}
}

func overlap(a, b string) bool {
	p, q := uintptr(unsafe.Pointer(unsafe.StringData(a))), uintptr(unsafe.Pointer(unsafe.StringData(b)))
	return a != "" && b != "" && p < q+uintptr(len(b)) && q < p+uintptr(len(a))
}

func TestTextsOfAnswersShareNothing(t *testing.T) {
	for _, s := range samples() {
		handed := []string{s.text, s.name}
		for _, d := range s.list {
			handed = append(handed, d.Name, d.Arg)
		}
		first, second := ask(s), ask(s)
		all := slices.Concat(handed, first.texts(), second.texts())
		for i, a := range all {
			for _, b := range all[:i] {
				// What was handed in may share memory among itself.
				if i >= len(handed) && overlap(a, b) {
					t.Errorf("%.60q and %.200s: %.40q and %.40q share memory", s.text, show(s.list), a, b)
				}
			}
		}
	}
}

func TestListsOfAnswersAreNew(t *testing.T) {
	for _, s := range samples() {
		first, second := ask(s), ask(s)
		want := ask(s)
		list := first.parsed[:cap(first.parsed)]
		for i := range list {
			list[i] = with("spoilt", "spoilt")
		}
		if !second.equal(want) || !ask(s).equal(want) {
			t.Errorf("%.60q: a list is shared", s.text)
		}
	}
}

func TestNothingIsKept(t *testing.T) {
	var before []answers
	for _, s := range samples() {
		b, spoil := borrow(s)
		before = append(before, ask(b))
		spoil()
	}
	for i, s := range slices.Backward(samples()) {
		if !ask(s).equal(before[i]) {
			t.Errorf("%.60q and %.200s: answered otherwise later", s.text, show(s.list))
		}
	}
}
