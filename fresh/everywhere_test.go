package fresh_test

import (
	"slices"
	"strconv"
	"strings"
	"testing"
	"unsafe"

	"larder/api"
	"larder/fresh"
)

// sample is what the calls are handed.
type sample struct {
	l   []api.Field
	h   api.Held
	now int
}

// answers are what the calls say of a sample.
type answers struct{ life, age, use int }

func ask(s sample) answers {
	return answers{fresh.Life(s.h), fresh.Age(s.h, s.now), fresh.Use(s.l, s.h, s.now)}
}

// samples have answers of each kind, and what can't be read.
func samples() []sample {
	l := []sample{
		{},
		{nil, stored(control, "max-age=20"), 100},
		{asking("no-cache"), stored(control, "max-age=20", "S-Maxage", "5"), 120},
		{asking("only-if-cached"), stored(control, "MAX-AGE=20, must-revalidate"), 120},
		{asking("max-stale=50, max-age=90"), stored(control, `max-age="20"`), 120},
		{asking("min-fresh=5"), stored(expires, at(130), dated, at(120), aged, "3"), 110},
		{asking("max-stale"), stored(modified, at(0), dated, at(90), dated, "x"), 100},
		{asking("\x00"), stored(control, "\xff", expires, "\xff", dated, "\xff", modified, "\xff", aged, "\xff"), -1},
		{asking(long(1 << 16)), stored(control, long(1<<16), expires, long(1<<16), aged, strings.Repeat("9", 1<<16)), 1 << 40},
		{slices.Repeat(asking("no-cache"), 1000), stored(strings.Split(strings.Repeat(control+"\nmax-age=5\n", 1000), "\n")...), 100},
		{slices.Repeat(asking(""), 1000), stored(strings.Split(strings.Repeat(aged+"\n5\n", 1000), "\n")...), 100},
	}
	for _, n := range far() {
		h := times(stored(expires, at(lastTime), aged, strconv.Itoa(n)), n, -n)
		h.Response.Code, h.Mark = n, n
		l = append(l, sample{asking("max-age=" + strconv.Itoa(n)), h, n}, sample{asking("max-stale"), times(stored(modified, at(0)), -n, n), -n})
	}
	return l
}

// P1.

func TestNothingPanics(t *testing.T) {
	names := []string{control, expires, dated, modified, aged}
	directives := []string{"max-age=", "s-maxage=", "max-stale=", "min-fresh="}
	for c := range 256 {
		one := string([]byte{byte(c)})
		for _, n := range []int{0, 1, 2, 29, 990, 1000, 1001, 1 << 12} {
			s := strings.Repeat(one, n)
			for _, name := range names {
				ask(sample{of(name, s), stored(name, s, s, s), n})
			}
			for _, d := range directives {
				ask(sample{of(control, d+s), stored(control, d+s), -n})
				ask(sample{of(control, d+`"`+s+`"`), stored(control, d+`"`+s+`"`), n})
			}
		}
	}
}

func TestAnswersAreWithinTheirBounds(t *testing.T) {
	for _, s := range samples() {
		for _, now := range append(far(), -1, 0, 100, lastTime, lastTime+1) {
			a := ask(sample{s.l, s.h, now})
			if a.life < 0 || a.life > most || a.age < 0 || a.age > most || a.use < api.Serve || a.use > api.Refuse {
				t.Errorf("%.200q, %s, %d: %d", s.l, show(s.h), now, a)
			}
		}
	}
}

// P2.

// borrowed answers a text whose bytes are b's, so that a test sees who writes to it or keeps it.
func borrowed(b []byte) string { return unsafe.String(unsafe.SliceData(b), len(b)) }

// borrow answers the sample in memory that can be spoilt later, and a function that spoils it; its lists have room behind them.
func borrow(s sample) (sample, func()) {
	var texts [][]byte
	var lists [][]api.Field
	lend := func(l []api.Field) []api.Field {
		lent := make([]api.Field, 0, len(l)+5)
		for _, f := range l {
			name, value := []byte(f.Name), []byte(f.Value)
			texts = append(texts, name, value)
			lent = append(lent, api.Field{Name: borrowed(name), Value: borrowed(value)})
		}
		lists = append(lists, lent)
		return lent
	}
	s.l = lend(s.l)
	s.h.Response.Fields = lend(s.h.Response.Fields)
	spoil := func() {
		for _, b := range texts {
			for i := range b {
				b[i] = '!'
			}
		}
		for _, l := range lists {
			clear(l[:cap(l)])
		}
	}
	return s, spoil
}

func TestWhatIsHandedInStays(t *testing.T) {
	for _, s := range samples() {
		b, _ := borrow(s)
		ask(b)
		if !slices.Equal(b.l, s.l) || !slices.Equal(b.h.Response.Fields, s.h.Response.Fields) {
			t.Errorf("%.200q, %s: changed", s.l, show(s.h))
		}
		for _, l := range [][]api.Field{b.l, b.h.Response.Fields} {
			if slices.ContainsFunc(l[len(l):cap(l)], func(f api.Field) bool { return f != api.Field{} }) {
				t.Errorf("%.200q, %s: the room behind a list was changed", s.l, show(s.h))
			}
		}
	}
}

func TestNothingIsKept(t *testing.T) {
	var before []answers
	for _, s := range samples() {
		b, spoil := borrow(s)
		before = append(before, ask(b))
		spoil()
	}
	for i, s := range slices.Backward(samples()) {
		if a := ask(s); a != before[i] {
			t.Errorf("%.200q, %s is answered %d later, not %d", s.l, show(s.h), a, before[i])
		}
	}
}
