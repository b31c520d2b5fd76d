package policy_test

import (
	"slices"
	"strings"
	"testing"
	"unsafe"

	"larder/api"
	"larder/policy"
)

// sample is what the calls are handed.
type sample struct {
	r        api.Request
	x        api.Response
	old, now []api.Field
}

func (s sample) lists() [][]api.Field {
	return [][]api.Field{s.r.Fields, s.x.Fields, s.old, s.now}
}

// answers are what the calls say of a sample.
type answers struct {
	may, gone          bool
	stripped, bettered []api.Field
}

func ask(s sample) answers {
	return answers{policy.MayStore(s.r, s.x), policy.Invalidates(s.r.Method, s.x.Code), policy.Strip(s.now), policy.Freshen(s.old, s.now)}
}

func (a answers) lists() [][]api.Field { return [][]api.Field{a.stripped, a.bettered} }

func (a answers) equal(b answers) bool {
	return a.may == b.may && a.gone == b.gone && slices.Equal(a.stripped, b.stripped) && slices.Equal(a.bettered, b.bettered)
}

func textsOf(lists ...[]api.Field) []string {
	var l []string
	for _, f := range slices.Concat(lists...) {
		l = append(l, f.Name, f.Value)
	}
	return l
}

// samples have answers of each of the calls.
func samples() []sample {
	put := api.Request{Method: "PUT", Target: "/", Body: "abc"}
	var many []api.Field
	for range 1000 {
		many = append(many, of("Connection", "ab", "ab", "cd", "ef", "gh", "Vary", "x")...)
	}
	return []sample{
		{},
		{get(), ok(), of("ab", "cd"), nil},
		{get(), ok(control, "public"), nil, of("ab", "cd")},
		{put, ok("ETag", "ab"), of("ab", "cd"), of("ab", "ef")},
		{get("Authorization", "ab"), ok(control, "s-maxage=5", "Vary", "aa,bb"), of("ab", "cd", "ef", "gh"), of("Connection", "xx, yy", "yy", "1", "zz", "2", "EF", "3")},
		{get(control, "no-store"), ok("ETag", "ab"), of("Content-Type", "ab", "ef", "gh"), of("content-type", "yy", "te", "1")},
		{get(control, `"`), ok(control, `"`, "ETag", "ab"), of("", "", "\xff", "\x00"), of("Connection", `ab, "`, "\xff", "\x01", "ab", "cd")},
		{get(), ok("Vary", `"`, "ETag", "ab"), of("Te", "ab", "Connection", "te"), of("Connection", strings.Repeat("a,", 21), "a", "bcd")},
		{get(long(1000), long(1<<12)), ok(control, long(1001), "Expires", long(1<<12)), of(long(1000), long(1<<12)), of("Connection", long(1000), long(1000), "x", long(999), "yy")},
		{api.Request{Method: "POST", Fields: many}, api.Response{Code: 303, Fields: many}, many, many},
		{get("ab", "cd"), ok("ab", "cd"), many, of("ab", "cd", "EF", "gh")},
	}
}

// P1.

func TestNothingPanics(t *testing.T) {
	for c := range 256 {
		for _, n := range []int{0, 1, 2, 3, 20, 21, 998, 1000, 1001, 1 << 12} {
			s := strings.Repeat(one(c), n)
			for _, value := range []string{s, "a," + s, s + ",a", `"` + s, `"` + s + `"`, strings.Repeat(one(c)+",", n)} {
				l := of(control, value, "Vary", value, "Connection", value, value, s)
				ask(sample{api.Request{Method: s, Fields: l}, api.Response{Code: c - n, Fields: l}, l, l})
				ask(sample{get(control, value), ok("Vary", value, "ETag", value), of(value, s), l})
			}
		}
	}
	for _, s := range samples() {
		ask(s)
	}
}

// P2.

// borrowed answers a text whose bytes are b's, so that a test sees who writes to it or keeps it.
func borrowed(b []byte) string { return unsafe.String(unsafe.SliceData(b), len(b)) }

// borrow answers the sample in memory that can be spoilt later, and a function that spoils it; its lists have room behind them.
func borrow(s sample) (sample, func()) {
	var texts [][]byte
	var lists [][]api.Field
	lend := func(l []api.Field) []api.Field {
		lent := make([]api.Field, 0, len(l)+5)
		for _, f := range l {
			name, value := []byte(f.Name), []byte(f.Value)
			texts = append(texts, name, value)
			lent = append(lent, api.Field{Name: borrowed(name), Value: borrowed(value)})
		}
		lists = append(lists, lent)
		return lent
	}
	s.r.Fields, s.x.Fields, s.old, s.now = lend(s.r.Fields), lend(s.x.Fields), lend(s.old), lend(s.now)
	method := []byte(s.r.Method)
	texts = append(texts, method)
	s.r.Method = borrowed(method)
	spoil := func() {
		for _, b := range texts {
			for i := range b {
				b[i] = '!'
			}
		}
		for _, l := range lists {
			clear(l[:cap(l)])
		}
	}
	return s, spoil
}

func TestWhatIsHandedInStays(t *testing.T) {
	for _, s := range samples() {
		b, _ := borrow(s)
		ask(b)
		for i, l := range b.lists() {
			if !slices.Equal(l, s.lists()[i]) {
				t.Errorf("%s: changed", show(s.lists()[i]))
			}
			if slices.ContainsFunc(l[len(l):cap(l)], func(f api.Field) bool { return f != api.Field{} }) {
				t.Errorf("%s: the room behind it was changed", show(s.lists()[i]))
			}
		}
	}
}

func TestAnswersShareNothingWithWhatWasHandedIn(t *testing.T) {
	for _, s := range samples() {
		want := ask(s)
		b, spoil := borrow(s)
		got := ask(b)
		spoil()
		if !got.equal(want) {
			t.Errorf("%s, %s: an answer lies in it", show(s.old), show(s.now))
		}
	}
}

// span is where a text lies.
type span struct {
	from, to uintptr
	text     string
	answered bool
}

func spans(texts []string, answered bool) []span {
	var l []span
	for _, s := range texts {
		if s != "" {
			p := uintptr(unsafe.Pointer(unsafe.StringData(s)))
			l = append(l, span{p, p + uintptr(len(s)), s, answered})
		}
	}
	return l
}

func TestTextsOfAnswersShareNothing(t *testing.T) {
	for _, s := range samples() {
		first, second := ask(s), ask(s)
		all := spans(textsOf(s.lists()...), false)
		all = append(all, spans(textsOf(slices.Concat(first.lists(), second.lists())...), true)...)
		slices.SortFunc(all, func(a, b span) int {
			if a.from != b.from {
				return int(a.from) - int(b.from)
			}
			return int(a.to) - int(b.to)
		})
		// What was handed in may share memory among itself.
		var furthest span
		for _, b := range all {
			if b.from < furthest.to && (furthest.answered || b.answered) {
				t.Errorf("%s: %.40q and %.40q share memory", show(s.now), furthest.text, b.text)
			}
			if b.to > furthest.to {
				furthest = b
			}
		}
	}
}

func TestListsOfAnswersAreNew(t *testing.T) {
	for _, s := range samples() {
		want := ask(s)
		for i := range want.lists() {
			first, second := ask(s), ask(s)
			l := first.lists()[i]
			for j := range l[:cap(l)] {
				l[:cap(l)][j] = api.Field{Name: "spoilt", Value: "spoilt"}
			}
			for j, m := range first.lists() {
				if j != i && !slices.Equal(m, want.lists()[j]) {
					t.Errorf("%s: lists %d and %d share memory", show(s.now), i, j)
				}
			}
			if !second.equal(want) || !ask(s).equal(want) {
				t.Errorf("%s: list %d is shared", show(s.now), i)
			}
		}
	}
}

func TestNothingIsKept(t *testing.T) {
	var before []answers
	for _, s := range samples() {
		b, spoil := borrow(s)
		before = append(before, ask(b))
		spoil()
	}
	for i, s := range slices.Backward(samples()) {
		if !ask(s).equal(before[i]) {
			t.Errorf("%s, %s: answered otherwise later", show(s.old), show(s.now))
		}
	}
}
