package vary_test

import (
	"fmt"
	"maps"
	"regexp"
	"slices"
	"strings"
	"testing"

	"larder/api"
	"larder/vary"
)

const tokenBytes = "abcdefghijklmnopqrstuvwxyz0123456789!#$%&'*+-.^_`|~"

// of makes a list of names and values in turn.
func of(texts ...string) []api.Field {
	var l []api.Field
	for i := 0; i+1 < len(texts); i += 2 {
		l = append(l, api.Field{Name: texts[i], Value: texts[i+1]})
	}
	return l
}

// by are the fields of a response that varies by these.
func by(values ...string) []api.Field {
	l := of("Date", "x")
	for _, v := range values {
		l = append(l, api.Field{Name: "Vary", Value: v})
	}
	return append(l, api.Field{Name: "X-Vary", Value: "other"})
}

func long(n int) string { return strings.Repeat("x", n) }

func one(c int) string { return string([]byte{byte(c)}) }

// show answers fields for what a test says.
func show(l []api.Field) string { return fmt.Sprintf("%.300q", l) }

// numbered are so many names, in order.
func numbered(n int) []string {
	var names []string
	for i := range n {
		names = append(names, fmt.Sprintf("n%03d", i))
	}
	return names
}

// P33: Names.

func checkNames(t *testing.T, l []api.Field, want []string, star bool, err api.Errno) {
	t.Helper()
	if names, is, e := vary.Names(l); !slices.Equal(names, want) || is != star || e != err {
		t.Errorf("Names(%s): %.200q %v %d, not %.200q %v %d", show(l), names, is, e, want, star, err)
	}
}

func TestNames(t *testing.T) {
	for value, want := range map[string][]string{
		"":                             nil,
		" \t":                          nil,
		",":                            nil,
		" , \t,":                       nil,
		"accept":                       {"accept"},
		"Accept":                       {"accept"},
		"ACCEPT-Encoding":              {"accept-encoding"},
		" \tAccept\t ":                 {"accept"},
		"b,a":                          {"a", "b"},
		"a, b, c":                      {"a", "b", "c"},
		"c, b, a":                      {"a", "b", "c"},
		",,b,\t,a ,":                   {"a", "b"},
		"a,a":                          {"a"},
		"a,A":                          {"a"},
		"B,a,b,A,B":                    {"a", "b"},
		"ab, a, abc, b, aa":            {"a", "aa", "ab", "abc", "b"},
		"a-b, a_b, a.b, ab, a~b, a0b":  {"a-b", "a.b", "a0b", "a_b", "ab", "a~b"},
		"Z, _, a, ^, A":                {"^", "_", "a", "z"},
		"10, 9, 1":                     {"1", "10", "9"},
		"**, *a, a*":                   {"**", "*a", "a*"},
		tokenBytes + ", " + tokenBytes: {tokenBytes},
	} {
		checkNames(t, by(value), want, false, api.OK)
		checkNames(t, of("VARY", value), want, false, api.OK)
	}
}

func TestNamesOfNoField(t *testing.T) {
	checkNames(t, nil, nil, false, api.OK)
	checkNames(t, of(), nil, false, api.OK)
	checkNames(t, of("Var", "a", "Varyy", "b", "", "c", " Vary", "d", "V\u0430ry", "e", "Accept", "*"), nil, false, api.OK)
}

func TestNamesOfSeveralFields(t *testing.T) {
	checkNames(t, of("Vary", "Accept, x", "vary", "ACCEPT"), []string{"accept", "x"}, false, api.OK)
	checkNames(t, of("vary", "b", "X", "c", "VARY", "a", "vARY", ""), []string{"a", "b"}, false, api.OK)
	checkNames(t, by("b", "*", "a"), []string{"a", "b"}, true, api.OK)
	checkNames(t, by("a", "b c"), nil, false, api.ErrSyntax)
	// The values are one list, also where one of them would be none by itself.
	checkNames(t, by(`"a`, `b"`), nil, false, api.ErrSyntax)
	checkNames(t, by(`a"`, `,"`), nil, false, api.ErrSyntax)
}

func TestStar(t *testing.T) {
	for value, want := range map[string][]string{
		"*":             nil,
		"*,*":           nil,
		" , * ,":        nil,
		"*, a":          {"a"},
		"a, *":          {"a"},
		"!, *, +":       {"!", "+"},
		"b, *, A, *, b": {"a", "b"},
		"*, **":         {"**"},
	} {
		checkNames(t, by(value), want, true, api.OK)
	}
}

func TestNamesWrong(t *testing.T) {
	for _, s := range []string{"a b", "a=b", "a;b", "a:", "a/b", "(a)", "* *", "*=", `"a"`, `"*"`, `""`, `"a,b"`, `a"b"`, `"`, `a"`, `"a`, `"a\"`, `"\`, "a\n", "\r\n", "a\x00", "\x7f", "\u00e4", "\u212a", "a\u00a0", "\xff", "@", "[", "{"} {
		checkNames(t, by(s), nil, false, api.ErrSyntax)
		checkNames(t, by("a, "+s), nil, false, api.ErrSyntax)
		checkNames(t, by(s+",a"), nil, false, api.ErrSyntax)
		checkNames(t, by("*,"+s), nil, false, api.ErrSyntax)
		checkNames(t, by("*", s, "*"), nil, false, api.ErrSyntax)
	}
}

func TestEachByteOfAName(t *testing.T) {
	for c := range 256 {
		for _, s := range []string{"x" + one(c), one(c) + "x", "x" + one(c) + "y"} {
			switch {
			case strings.Contains(tokenBytes, one(c)), c >= 'A' && c <= 'Z':
				checkNames(t, by(s), []string{strings.ToLower(s)}, false, api.OK)
			case c == ',':
				checkNames(t, by(s), strings.FieldsFunc(s, func(r rune) bool { return r == ',' }), false, api.OK)
			case (c == ' ' || c == '\t') && len(s) == 2:
				checkNames(t, by(s), []string{"x"}, false, api.OK)
			default:
				checkNames(t, by(s), nil, false, api.ErrSyntax)
			}
		}
	}
}

func TestNamesLimits(t *testing.T) {
	list := func(n int) string { return strings.Join(numbered(n), ",") }
	checkNames(t, by(list(20)), numbered(20), false, api.OK)
	checkNames(t, by(list(21)), nil, false, api.ErrLarge)
	checkNames(t, by(list(10), list(20)[5*10:]), numbered(20), false, api.OK)
	checkNames(t, by(list(10), list(21)[5*10:]), nil, false, api.ErrLarge)
	// They are counted before they are held against each other.
	checkNames(t, by(strings.Repeat("a,", 20)), []string{"a"}, false, api.OK)
	checkNames(t, by(strings.Repeat("a,", 21)), nil, false, api.ErrLarge)
	checkNames(t, by(strings.Repeat("*,", 20)), nil, true, api.OK)
	checkNames(t, by(strings.Repeat("*,", 21)), nil, false, api.ErrLarge)
	checkNames(t, by(strings.Repeat("*,", 19)+"a"), []string{"a"}, true, api.OK)
	checkNames(t, by(strings.Repeat("*,", 20)+"a"), nil, false, api.ErrLarge)
	checkNames(t, by(long(1000)), []string{long(1000)}, false, api.OK)
	checkNames(t, by(long(1001)), nil, false, api.ErrLarge)
	// Both with what stands between them.
	checkNames(t, by(long(499), long(499)), []string{long(499)}, false, api.OK)
	checkNames(t, by(long(499), long(500)), nil, false, api.ErrLarge)
	checkNames(t, by(strings.Repeat(" ", 999)+"a"), []string{"a"}, false, api.OK)
	checkNames(t, by(strings.Repeat(" ", 1000)+"a"), nil, false, api.ErrLarge)
	checkNames(t, by(strings.Repeat(",", 1000)), nil, false, api.OK)
	checkNames(t, by(long(1<<16)), nil, false, api.ErrLarge)
	checkNames(t, by(slices.Repeat([]string{""}, 501)...), nil, false, api.OK)
	checkNames(t, by(slices.Repeat([]string{""}, 502)...), nil, false, api.ErrLarge)
}

// TestNamesWhichError: what token.Split says goes ahead of a name that is no TOKEN.
func TestNamesWhichError(t *testing.T) {
	many := strings.Repeat("a,", 20)
	checkNames(t, by(many+"a b"), nil, false, api.ErrLarge)
	checkNames(t, by("a b,"+many), nil, false, api.ErrLarge)
	checkNames(t, by(many[2:]+"a b"), nil, false, api.ErrSyntax)
	checkNames(t, by(many+`"`), nil, false, api.ErrSyntax)
	checkNames(t, by("a b"+strings.Repeat(" ", 998)), nil, false, api.ErrLarge)
	checkNames(t, by("a b"+strings.Repeat(" ", 997)), nil, false, api.ErrSyntax)
	checkNames(t, by(`"`+long(1000)), nil, false, api.ErrLarge)
	checkNames(t, by(`"`+long(999)), nil, false, api.ErrSyntax)
}

var listOfNames = regexp.MustCompile("\\A[ \t,]*(?:[!#-'*+\\-.0-9A-Z^-z|~]+(?:[ \t]*,[ \t,]*[!#-'*+\\-.0-9A-Z^-z|~]+)*[ \t,]*)?\\z")

// checkByForm asks of a value and holds the answer against what the form of a list says.
func checkByForm(t *testing.T, s string) {
	t.Helper()
	if !listOfNames.MatchString(s) {
		checkNames(t, by(s), nil, false, api.ErrSyntax)
		return
	}
	found := make(map[string]bool)
	for _, name := range strings.FieldsFunc(s, func(r rune) bool { return strings.ContainsRune(" \t,", r) }) {
		found[strings.ToLower(name)] = true
	}
	star := found["*"]
	delete(found, "*")
	checkNames(t, by(s), slices.Sorted(maps.Keys(found)), star, api.OK)
}

func TestShortTexts(t *testing.T) {
	for s := range texts("aB*, \"\\", 6) {
		checkByForm(t, s)
	}
	for s := range texts("aAb,*", 7) {
		checkByForm(t, s)
	}
}

func TestOneByteOtherwise(t *testing.T) {
	for _, base := range []string{"Accept, X-Name", "b,*,A-b", "a\t, a"} {
		for i := range len(base) {
			checkByForm(t, base[:i])
			checkByForm(t, base[:i]+base[i+1:])
			for c := range 256 {
				checkByForm(t, base[:i]+one(c)+base[i+1:])
				checkByForm(t, base[:i]+one(c)+base[i:])
			}
		}
	}
}

// P33: Match.

// checkMatch asks both ways round: which of the two came first is nothing that counts.
func checkMatch(t *testing.T, l, a, b []api.Field, want bool, err api.Errno) {
	t.Helper()
	if is, e := vary.Match(l, a, b); is != want || e != err {
		t.Errorf("Match(%s, %s, %s): %v %d, not %v %d", show(l), show(a), show(b), is, e, want, err)
	}
	if is, e := vary.Match(l, b, a); is != want || e != err {
		t.Errorf("Match(%s, %s, %s): %v %d, not %v %d", show(l), show(b), show(a), is, e, want, err)
	}
}

func TestMatchOfNoNames(t *testing.T) {
	for _, l := range [][]api.Field{nil, of("Accept", "*"), by(), by(""), by(" , ")} {
		for _, a := range [][]api.Field{nil, of("Accept", "1"), of("Vary", "*")} {
			for _, b := range [][]api.Field{nil, of("Accept", "2"), of("x", "")} {
				checkMatch(t, l, a, b, true, api.OK)
			}
		}
	}
}

func TestMatchOfOneName(t *testing.T) {
	for _, c := range []struct {
		a, b []api.Field
		want bool
	}{
		{nil, nil, true},
		{nil, of("Accept", "1"), false},
		{nil, of("Accept", ""), false},
		{nil, of("Other", "1"), true},
		{of("Accept", ""), of("Accept", ""), true},
		{of("Accept", ""), of("Accept", "1"), false},
		{of("Accept", "1"), of("Accept", "1"), true},
		{of("Accept", "1"), of("ACCEPT", "1"), true},
		{of("Accept", "1"), of("Accept", "2"), false},
		{of("Accept", "1"), of("Accepts", "1"), false},
		{of("Accept", "1"), of("Accept", "1", "Other", "2"), true},
		{of("Other", "1", "Accept", "1"), of("Accept", "1", "Other", "2"), true},
		// Values are held against each other as they are.
		{of("Accept", "a"), of("Accept", "A"), false},
		{of("Accept", "a,b"), of("Accept", "a, b"), false},
		{of("Accept", "a, b"), of("Accept", "b, a"), false},
		{of("Accept", "a"), of("Accept", "a "), false},
		{of("Accept", "\x00\xff"), of("Accept", "\x00\xff"), true},
		{of("Accept", "\x00\xff"), of("Accept", "\x00\xfe"), false},
		{of("Accept", long(1<<16)), of("Accept", long(1<<16)), true},
		{of("Accept", long(1<<16)), of("Accept", long(1<<16)+"y"), false},
		// Those of several fields are one.
		{of("Accept", "a", "accept", "b"), of("Accept", "a, b"), true},
		{of("Accept", "a", "accept", "b"), of("Accept", "a", "X", "1", "ACCEPT", "b"), true},
		{of("Accept", "a", "accept", "b"), of("Accept", "b", "accept", "a"), false},
		{of("Accept", "a", "accept", "b"), of("Accept", "a"), false},
		{of("Accept", "a", "accept", "a"), of("Accept", "a"), false},
		{of("Accept", "", "accept", ""), of("Accept", ", "), true},
		{of("Accept", "", "accept", ""), of("Accept", ""), false},
	} {
		for _, l := range [][]api.Field{by("Accept"), by("accept, ACCEPT"), of("VARY", "ACCEPT"), by("", "accept")} {
			checkMatch(t, l, c.a, c.b, c.want, api.OK)
		}
	}
}

// TestMatchOfSeveralNames: of all values that two fields and no field may have, those are told that are the same.
func TestMatchOfSeveralNames(t *testing.T) {
	states := []string{"-", "", "1", "2"}
	request := func(names []string, values ...string) []api.Field {
		var l []api.Field
		for i, v := range values {
			if v != "-" {
				l = append(l, api.Field{Name: names[i], Value: v})
			}
		}
		return l
	}
	names, spelt := []string{"a", "b", "c"}, []string{"A", "B", "C"}
	for _, a1 := range states {
		for _, b1 := range states {
			for _, a2 := range states {
				for _, b2 := range states {
					first := request(names, a1, b1, "1")
					second := request(spelt, a2, b2, "2")
					checkMatch(t, by("a, b"), first, second, a1 == a2 && b1 == b2, api.OK)
					checkMatch(t, by("b", "A"), first, second, a1 == a2 && b1 == b2, api.OK)
					checkMatch(t, by("a"), first, second, a1 == a2, api.OK)
					checkMatch(t, by("B"), first, second, b1 == b2, api.OK)
					checkMatch(t, by("d"), first, second, true, api.OK)
					checkMatch(t, by("a, c"), first, second, false, api.OK)
					checkMatch(t, by("a, *"), first, second, false, api.OK)
				}
			}
		}
	}
}

func TestMatchOfEachOfManyNames(t *testing.T) {
	names := numbered(20)
	l := by(strings.Join(names, ", "))
	var a []api.Field
	for _, name := range names {
		a = append(a, api.Field{Name: name, Value: "1"})
	}
	checkMatch(t, l, a, a, true, api.OK)
	for i := range names {
		b := slices.Clone(a)
		b[i].Value = "2"
		checkMatch(t, l, a, b, false, api.OK)
		checkMatch(t, l, a, slices.Delete(slices.Clone(a), i, i+1), false, api.OK)
		checkMatch(t, l, a, slices.Concat(a[i:], a[:i]), true, api.OK)
	}
}

func TestMatchOfStar(t *testing.T) {
	same := of("Accept", "1", "*", "1")
	for _, l := range [][]api.Field{by("*"), by("accept, *"), by("*", "accept"), of("vary", ",*")} {
		checkMatch(t, l, nil, nil, false, api.OK)
		checkMatch(t, l, same, same, false, api.OK)
		checkMatch(t, l, same, nil, false, api.OK)
	}
	// No name but that one.
	checkMatch(t, by("**"), same, same, true, api.OK)
	checkMatch(t, of("Accept", "*"), same, nil, true, api.OK)
}

// TestMatchOfTheResponse: what the fields of the requests say of Vary is nothing that counts, unless the response varies by that.
func TestMatchOfTheResponse(t *testing.T) {
	checkMatch(t, nil, of("Vary", "*"), of("Vary", "a b"), true, api.OK)
	checkMatch(t, by("a"), of("Vary", "*"), of("Vary", "a b"), true, api.OK)
	checkMatch(t, by("vary"), of("Vary", "*"), of("Vary", "a b"), false, api.OK)
	checkMatch(t, by("vary"), of("Vary", "*"), of("VARY", "*"), true, api.OK)
}

func TestMatchWrong(t *testing.T) {
	for value, err := range map[string]api.Errno{
		"a b":                    api.ErrSyntax,
		`"`:                      api.ErrSyntax,
		`"*"`:                    api.ErrSyntax,
		"*, a b":                 api.ErrSyntax,
		long(1001):               api.ErrLarge,
		"*," + long(999):         api.ErrLarge,
		strings.Repeat("*,", 21): api.ErrLarge,
	} {
		checkMatch(t, by(value), nil, nil, false, err)
		checkMatch(t, by(value), of("a", "1"), of("a", "2"), false, err)
		checkMatch(t, by(value), of("a", "1"), of("a", "1"), false, err)
	}
}
