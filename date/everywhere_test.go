package date_test

import (
	"slices"
	"strings"
	"testing"
	"unsafe"

	"larder/api"
	"larder/date"
)

// sample is what the calls are handed.
type sample struct {
	n                int
	text             string
	year, month, day int
}

// answers are what the calls say of a sample.
type answers struct {
	printed          string
	parsed, days     int
	year, month, day int
	errs             [4]api.Errno
}

func ask(s sample) answers {
	var a answers
	a.printed, a.errs[0] = date.Print(s.n)
	a.parsed, a.errs[1] = date.Parse(s.text)
	a.days, a.errs[2] = date.Days(s.year, s.month, s.day)
	a.year, a.month, a.day, a.errs[3] = date.Civil(s.n)
	return a
}

// samples have answers of each of the calls, and errors.
func samples() []sample {
	l := []sample{
		{0, "Thu, 01 Jan 1970 00:00:00 GMT", 1970, 1, 1},
		{784111777, "Sun, 06 Nov 1994 08:49:37 GMT", 1994, 11, 6},
		{lastDay, "Mon, 06 Nov 1994 08:49:37 GMT", 2100, 2, 29},
		{lastTime, "Fri, 31 Dec 9999 23:59:59 GMT", 9999, 12, 31},
		{lastTime + 1, "", 10000, 13, 32},
		{-1, strings.Repeat("\xff", 29), 0, 0, 0},
	}
	for _, n := range farInts() {
		l = append(l, sample{n, strings.Repeat("9", 29), n, n, n})
	}
	return l
}

// P1.

func TestNothingPanics(t *testing.T) {
	for _, s := range samples() {
		ask(s)
	}
	for length := range 100 {
		for c := range 256 {
			date.Parse(strings.Repeat(string([]byte{byte(c)}), length))
		}
	}
	months := []string{"Jan", "Feb", "Dec"}
	for c := range 256 {
		// A month that is one, so that the numbers beside it are read, whatever they are.
		number := strings.Repeat(string([]byte{byte(c)}), 4)
		for _, month := range months {
			date.Parse("Sun, " + number[:2] + " " + month + " " + number + " 08:49:37 GMT")
			date.Parse("Sun, 06 " + month + " 1994 " + number[:2] + ":" + number[:2] + ":" + number[:2] + " GMT")
		}
	}
	date.Parse(strings.Repeat("Sun, 06 Nov 1994 08:49:37 GMT", 1<<16))
}

// P2.

// borrowed answers a text whose bytes are b's, so that a test sees who writes to it or keeps it.
func borrowed(b []byte) string { return unsafe.String(unsafe.SliceData(b), len(b)) }

func TestWhatIsHandedInStays(t *testing.T) {
	for _, s := range samples() {
		b := make([]byte, len(s.text), len(s.text)+50)
		copy(b, s.text)
		date.Parse(borrowed(b))
		if string(b) != s.text || slices.ContainsFunc(b[len(b):cap(b)], func(c byte) bool { return c != 0 }) {
			t.Errorf("%q was changed", s.text)
		}
	}
}

func TestNothingIsKept(t *testing.T) {
	var before []answers
	for _, s := range samples() {
		before = append(before, ask(s))
	}
	for i, s := range slices.Backward(samples()) {
		if ask(s) != before[i] {
			t.Errorf("%v is answered otherwise later", s)
		}
	}
}

func TestTextsOfAnswersShareNothing(t *testing.T) {
	for _, n := range []int{0, 784111777, lastTime} {
		first, _ := date.Print(n)
		second, _ := date.Print(n)
		if unsafe.StringData(first) == unsafe.StringData(second) {
			t.Errorf("two answers of Print(%d) share memory", n)
		}
	}
}
