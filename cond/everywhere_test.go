package cond_test

import (
	"slices"
	"strings"
	"testing"
	"unsafe"

	"larder/api"
)

// samples are met and not, and have what can't be read.
func samples() []sample {
	full := strings.Repeat(`"ab",`, 20)
	return []sample{
		{"GET", nil, false, "", -1},
		{"", of("", ""), true, "", 0},
		{"PUT", of(match, "*"), true, `"a"`, 5},
		{"PUT", of(match, "*"), false, `"a"`, 5},
		{"PUT", of(match, `"b", W/"a"`, "If-Match", `"c"`), true, `"a"`, 5},
		{"GET", of(noneMatch, `"b", W/"a"`), true, `"a"`, 5},
		{"HEAD", of(noneMatch, full), true, `W/"ab"`, 5},
		{"PUT", of(noneMatch, full+`"a"`), true, `W/"ab"`, 5},
		{"GET", of(modified, at(5)), true, `"a"`, 5},
		{"GET", of(unmodified, at(5)), true, `"a"`, 6},
		{"GET", of(modified, "\x00\xff", unmodified, at(lastTime)), true, "\xff", 1<<63 - 1},
		{"GET", of(match, "x", noneMatch, "x", modified, "x", unmodified, "x"), true, "x", -1 << 63},
		{long(1 << 16), slices.Repeat(of(match, `"a"`, noneMatch, `"a"`, modified, at(5)), 1000), true, long(1 << 16), 5},
	}
}

// P1.

func TestNothingPanics(t *testing.T) {
	names := []string{match, noneMatch, modified, unmodified}
	for c := range 256 {
		one := string([]byte{byte(c)})
		for _, n := range []int{0, 1, 2, 29, 100, 1000, 1001, 1 << 14} {
			s := strings.Repeat(one, n)
			for _, name := range names {
				for _, value := range []string{s, `"` + s + `"`, `W/"` + s, s + ",", `"a",` + s} {
					ask(sample{"GET", of(name, value), true, value, 5})
					ask(sample{s, of(name, value, s, s), false, s, -n})
				}
			}
		}
	}
	for _, s := range samples() {
		ask(s)
	}
}

func TestOnlyTheCodesOfTheChapter(t *testing.T) {
	for _, s := range samples() {
		for _, there := range []bool{false, true} {
			for _, method := range methods() {
				n := ask(sample{method, s.l, there, s.tag, s.modified})
				if n != 0 && n != 412 && (n != 304 || !isRead(method)) {
					t.Errorf("%.600s: %d", s.show(), n)
				}
			}
		}
	}
}

// P2.

// borrowed answers a text whose bytes are b's, so that a test sees who writes to it or keeps it.
func borrowed(b []byte) string { return unsafe.String(unsafe.SliceData(b), len(b)) }

// borrow answers the sample in memory that can be spoilt later, and a function that spoils it; its list has room behind it.
func borrow(s sample) (sample, func()) {
	var lent [][]byte
	lend := func(s string) string {
		b := []byte(s)
		lent = append(lent, b)
		return borrowed(b)
	}
	l := make([]api.Field, 0, len(s.l)+5)
	for _, f := range s.l {
		l = append(l, api.Field{Name: lend(f.Name), Value: lend(f.Value)})
	}
	spoil := func() {
		for _, b := range lent {
			for i := range b {
				b[i] = '!'
			}
		}
		clear(l[:cap(l)])
	}
	return sample{lend(s.method), l, s.there, lend(s.tag), s.modified}, spoil
}

func TestWhatIsHandedInStays(t *testing.T) {
	for _, s := range samples() {
		b, _ := borrow(s)
		room := b.l[:cap(b.l)]
		ask(b)
		if b.method != s.method || !slices.Equal(b.l, s.l) || b.tag != s.tag {
			t.Errorf("%.600s was changed", s.show())
		}
		if slices.ContainsFunc(room[len(b.l):], func(f api.Field) bool { return f != api.Field{} }) {
			t.Errorf("%.600s: the room behind the list was changed", s.show())
		}
	}
}

func TestNothingIsKept(t *testing.T) {
	var before []int
	for _, s := range samples() {
		b, spoil := borrow(s)
		before = append(before, ask(b))
		spoil()
	}
	for i, s := range slices.Backward(samples()) {
		if n := ask(s); n != before[i] {
			t.Errorf("%.600s is answered %d later, not %d", s.show(), n, before[i])
		}
	}
}
