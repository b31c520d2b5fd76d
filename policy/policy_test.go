package policy_test

import (
	"fmt"
	"math"
	"slices"
	"strings"
	"testing"

	"larder/api"
	"larder/policy"
)

const control = "Cache-Control"

// of makes a list of names and values in turn.
func of(texts ...string) []api.Field {
	var l []api.Field
	for i := 0; i+1 < len(texts); i += 2 {
		l = append(l, api.Field{Name: texts[i], Value: texts[i+1]})
	}
	return l
}

func long(n int) string { return strings.Repeat("x", n) }

func one(c int) string { return string([]byte{byte(c)}) }

// show answers fields for what a test says.
func show(l []api.Field) string { return fmt.Sprintf("%.300q", l) }

// get is a request with these fields.
func get(texts ...string) api.Request {
	return api.Request{Method: "GET", Target: "/", Fields: of(texts...)}
}

// ok is a response with these fields.
func ok(texts ...string) api.Response { return api.Response{Code: 200, Fields: of(texts...)} }

// P34.

func checkStore(t *testing.T, r api.Request, x api.Response, want bool) {
	t.Helper()
	if is := policy.MayStore(r, x); is != want {
		t.Errorf("MayStore(%q %s, %d %s): %v, not %v", r.Method, show(r.Fields), x.Code, show(x.Fields), is, want)
	}
}

// checkSaid asks of a response that says this of itself, however its field's name is spelt.
func checkSaid(t *testing.T, s string, want bool) {
	t.Helper()
	checkStore(t, get(), ok(control, s), want)
	checkStore(t, get("Accept", "x"), ok("Date", "x", "cache-CONTROL", s), want)
}

func TestWhatSaysThatItIsOfUse(t *testing.T) {
	for s, want := range map[string]bool{
		"":                                     false,
		"public":                               true,
		"PUBLIC":                               true,
		"public=x":                             true,
		"max-age=5":                            true,
		"Max-Age=5":                            true,
		"max-age=0":                            true,
		"max-age":                              true,
		"max-age=x":                            true,
		"s-maxage=5":                           true,
		"s-maxage":                             true,
		"no-cache, public":                     true,
		"no-cache":                             false,
		"must-revalidate":                      false,
		"proxy-revalidate":                     false,
		"max-stale=5":                          false,
		"min-fresh=5":                          false,
		"maxage=5":                             false,
		"max-age2=5":                           false,
		"smaxage=5":                            false,
		"publics":                              false,
		`x="public"`:                           false,
		"immutable, must-understand":           false,
		"public a":                             false,
		"max-age=5, a b":                       false,
		`max-age=5, a="`:                       false,
		strings.Repeat("a,", 20):               false,
		"max-age=5,, public, x=y, z,":          true,
		strings.Repeat("a,", 19) + "max-age=5": true,
		strings.Repeat("a,", 20) + "max-age=5": false,
		"public" + strings.Repeat(" ", 994):    true,
		"public" + strings.Repeat(" ", 995):    false,
		"public,\x00":                          false,
		"\xff":                                 false,
	} {
		checkSaid(t, s, want)
	}
}

func TestWhatHasAFieldThatIsOfUse(t *testing.T) {
	for _, name := range []string{"Expires", "expires", "EXPIRES", "Last-Modified", "LAST-modified", "ETag", "etag", "ETAG"} {
		for _, value := range []string{"", "0", `"a"`, "Sun, 06 Nov 1994 08:49:37 GMT", "\xff", long(1 << 12)} {
			checkStore(t, get(), ok(name, value), true)
			checkStore(t, get(), ok("Date", "x", name, value, name, value), true)
			checkStore(t, get(), ok(name, value, control, "no-cache"), true)
			// What can't be read has no directives.
			checkStore(t, get(), ok(name, value, control, "no-store, a b"), true)
			checkStore(t, get(), ok(name, value, control, "no-store"), false)
		}
		checkStore(t, get(name, "x"), ok(), false)
	}
	for _, name := range []string{"", "Date", "Age", "Expire", "Expires2", "E-Tag", "Tag", "LastModified", "Last_Modified", " ETag", "Pragma", "Content-Length", "\u0395Tag"} {
		checkStore(t, get(), ok(name, "x"), false)
	}
	checkStore(t, get(), ok(), false)
}

func TestStoreByMethod(t *testing.T) {
	for _, m := range []string{"", "get", "Get", "GE", "GETT", " GET", "GET ", "HEAD", "POST", "PUT", "DELETE", "PATCH", "OPTIONS", "TRACE", "CONNECT", "*", "\x00", "G\u0395T", long(1 << 12)} {
		r := get()
		r.Method = m
		checkStore(t, r, ok(control, "public, max-age=5", "ETag", `"a"`), false)
	}
}

// far are numbers that are no codes, and at which a sum would wrap round.
func far() []int {
	return []int{math.MinInt, math.MinInt + 200, math.MinInt32, math.MaxInt32, 1<<32 + 200, math.MaxInt - 200, math.MaxInt}
}

// codes are all that count, and others.
func codes() []int {
	l := far()
	for n := range 1300 {
		l = append(l, n-200)
	}
	return l
}

func TestStoreByCode(t *testing.T) {
	stored := []int{200, 203, 204, 300, 301, 308, 404, 405, 410, 414, 501}
	for _, code := range codes() {
		x := ok(control, "public, max-age=5", "ETag", `"a"`)
		x.Code = code
		checkStore(t, get(), x, slices.Contains(stored, code))
		x.Fields = of("Expires", "x")
		checkStore(t, get(), x, slices.Contains(stored, code))
	}
}

func TestNoStore(t *testing.T) {
	for s, want := range map[string]bool{
		"no-store":                            false,
		"NO-Store":                            false,
		"no-store=x":                          false,
		`no-store=""`:                         false,
		"max-age=5, no-store":                 false,
		"a,, no-store ,b":                     false,
		"":                                    true,
		"no-cache":                            true,
		"nostore":                             true,
		"no-stores":                           true,
		`a="no-store"`:                        true,
		"no-store a":                          true,
		"no-store, a b":                       true,
		`no-store, a="`:                       true,
		"no-store" + long(993):                true,
		"only-if-cached, max-stale=5":         true,
		strings.Repeat("a,", 19) + "no-store": false,
		strings.Repeat("a,", 20) + "no-store": true,
	} {
		checkStore(t, get(control, s), ok(control, "max-age=5"), want)
		checkStore(t, get("cache-CONTROL", s), ok("ETag", "x"), want)
		checkStore(t, get(), ok("ETag", "x", control, s), want)
		checkStore(t, get(), ok("CACHE-control", s, "Expires", "x"), want)
	}
	checkStore(t, get(control, "a", control, "no-store"), ok("ETag", "x"), false)
	checkStore(t, get(), ok("ETag", "x", control, "a", "cache-control", "no-store"), false)
	checkStore(t, get(control, `a="`, control, `no-store"`), ok("ETag", "x"), true)
}

func TestPrivate(t *testing.T) {
	for s, want := range map[string]bool{
		"private":             false,
		"Private":             false,
		`private="set-x"`:     false,
		"public, private":     false,
		"private, s-maxage":   false,
		"private, a b":        true,
		"privates":            true,
		`a="private"`:         true,
		"proxy-revalidate":    true,
		"private" + long(994): true,
	} {
		checkStore(t, get(), ok("ETag", "x", control, s), want)
		// Of the request it says nothing.
		checkStore(t, get(control, s), ok("ETag", "x"), true)
	}
}

func TestAuthorization(t *testing.T) {
	for s, want := range map[string]bool{
		"":                     false,
		"max-age=5":            false,
		"no-cache":             false,
		"proxy-revalidate":     false,
		"must-understand":      false,
		"must-revalidate":      true,
		"Must-Revalidate":      true,
		"must-revalidate=x":    true,
		"public":               true,
		"s-maxage=5":           true,
		"s-maxage":             true,
		"max-age=5, s-maxage":  true,
		"public, a b":          false,
		"public, private":      false,
		"s-maxage=5, no-store": false,
		`a="public"`:           false,
	} {
		for _, name := range []string{"Authorization", "authorization", "AUTHORIZATION"} {
			for _, value := range []string{"", "x", "\xff"} {
				checkStore(t, get("Accept", "y", name, value), ok("ETag", "x", control, s), want)
			}
		}
		// Of the response it says nothing; and what the request says of itself is none of the response's.
		without := want || !strings.Contains(s, "private") && !strings.Contains(s, "no-store")
		checkStore(t, get("Authorizations", "x", "Proxy-Authorization", "x"), ok("ETag", "x", control, s, "Authorization", "x"), without)
		checkStore(t, get("Authorization", "x", control, "public, s-maxage=5"), ok("ETag", "x"), false)
	}
	checkStore(t, get("Authorization", "x"), ok(control, "must-revalidate"), false)
}

func TestStoreByVary(t *testing.T) {
	for s, want := range map[string]bool{
		"":                             true,
		" , ":                          true,
		"accept":                       true,
		"Accept, X, accept":            true,
		"**":                           true,
		"*":                            false,
		"accept, *":                    false,
		"*, accept":                    false,
		"a b":                          false,
		`"a"`:                          false,
		`"`:                            false,
		"\xff":                         false,
		long(1000):                     true,
		long(1001):                     false,
		strings.Repeat("a,", 20):       true,
		strings.Repeat("a,", 21):       false,
		strings.Repeat("a,", 20) + "*": false,
	} {
		checkStore(t, get(), ok("ETag", "x", "Vary", s), want)
		checkStore(t, get("Accept", "y"), ok("VARY", s, control, "public"), want)
		checkStore(t, get("Vary", s), ok("ETag", "x", "Varies", s), true)
	}
	checkStore(t, get(), ok("ETag", "x", "Vary", "a", "vary", "*"), false)
}

// TestStoreOfAllThatHangsTogether holds MayStore against what the words of the promise say of each way in which all parts may stand.
func TestStoreOfAllThatHangsTogether(t *testing.T) {
	said := []string{"no-store", "private", "must-revalidate", "public", "s-maxage=5", "max-age=5"}
	fields := []string{"Expires", "Last-Modified", "ETag", "Vary"}
	for bits := range 1 << (len(said) + len(fields) + 4) {
		next := func() bool {
			is := bits&1 == 1
			bits >>= 1
			return is
		}
		has := make(map[string]bool)
		var directives, texts []string
		for _, s := range said {
			if has[s] = next(); has[s] {
				directives = append(directives, s)
			}
		}
		for _, name := range fields {
			if has[name] = next(); has[name] {
				texts = append(texts, name, "*")
			}
		}
		r, x := get(), ok(append(texts, control, strings.Join(directives, ", "))...)
		authorized, unstored, post, failed := next(), next(), next(), next()
		if authorized {
			r.Fields = append(r.Fields, of("Authorization", "x")...)
		}
		if unstored {
			r.Fields = append(r.Fields, of(control, "no-store")...)
		}
		if post {
			r.Method = "POST"
		}
		if failed {
			x.Code = 500
		}
		shared := !authorized || has["must-revalidate"] || has["public"] || has["s-maxage=5"]
		useful := has["Expires"] || has["public"] || has["max-age=5"] || has["s-maxage=5"] || has["Last-Modified"] || has["ETag"]
		want := !post && !failed && !unstored && !has["no-store"] && !has["private"] && shared && !has["Vary"] && useful
		checkStore(t, r, x, want)
	}
}

// P35: Strip.

func checkStrip(t *testing.T, l, want []api.Field) {
	t.Helper()
	if got := policy.Strip(l); !slices.Equal(got, want) {
		t.Errorf("Strip(%s): %s, not %s", show(l), show(got), show(want))
	}
}

func TestStripOfNamesThatNeverPass(t *testing.T) {
	for _, name := range []string{"connection", "keep-alive", "proxy-connection", "te", "trailer", "transfer-encoding", "upgrade"} {
		for _, spelt := range []string{name, strings.ToUpper(name), strings.ToUpper(name[:1]) + name[1:], name[:1] + strings.ToUpper(name[1:])} {
			for _, value := range []string{"", "x-none", "\xff", `"`} {
				checkStrip(t, of(spelt, value), nil)
				checkStrip(t, of("a", "1", spelt, value, "b", "2", spelt, value), of("a", "1", "b", "2"))
			}
		}
		for _, other := range []string{name + "s", "x" + name, name[1:], name[:len(name)-1], " " + name, name + " ", strings.ReplaceAll(name, "e", "\u0435") + "\u0435"} {
			checkStrip(t, of(other, "x"), of(other, "x"))
		}
	}
	rest := of("Proxy-Authenticate", "1", "Proxy-Authorization", "2", "Trailers", "3", "Host", "4", "Cache-Control", "no-store", "Content-Length", "5", "", "6", "\xff", "\x00", "a", "7", "A", "7")
	checkStrip(t, rest, rest)
	checkStrip(t, nil, nil)
	checkStrip(t, of(), nil)
}

func TestStripOfNamesThatAreListed(t *testing.T) {
	all := of("a", "1", "B", "2", "c", "3", "b", "4", "close", "5", "a b", "6", `"a"`, "7", "", "8", "*", "9", "TE", "x")
	left := func(names ...string) []api.Field {
		return slices.DeleteFunc(slices.Clone(all), func(f api.Field) bool { return f.Name == "TE" || slices.Contains(names, f.Name) })
	}
	for s, want := range map[string][]api.Field{
		"":                             left(),
		"a":                            left("a"),
		"A":                            left("a"),
		"b":                            left("B", "b"),
		"B":                            left("B", "b"),
		"a, c":                         left("a", "c"),
		" ,a,,\tc ,A":                  left("a", "c"),
		"close, a":                     left("close", "a"),
		"te":                           left(),
		"x, y":                         left(),
		"a=b, c;d":                     left(),
		"*":                            left("*"),
		"a b":                          left("a b"),
		`"a"`:                          left(`"a"`),
		`"a,c"`:                        left(),
		`a, "`:                         left(),
		`a", "b`:                       left(),
		"\xff":                         left(),
		"a," + long(998):               left("a"),
		"a," + long(999):               left(),
		"a" + strings.Repeat(",x", 19): left("a"),
		"a" + strings.Repeat(",x", 20): left(),
		"connection":                   left(),
	} {
		for _, name := range []string{"Connection", "connection", "CONNECTION"} {
			checkStrip(t, append(of(name, s), all...), want)
			checkStrip(t, append(slices.Clone(all), of(name, s)...), want)
		}
		// Another field lists nothing.
		checkStrip(t, append(of("Proxy-Connection", s, "Keep-Alive", s, "Upgrade", s, "TE", s), all...), left())
	}
}

func TestStripOfSeveralConnectionFields(t *testing.T) {
	rest := of("a", "1", "b", "2", "c", "3")
	list := func(values ...string) []api.Field {
		l := slices.Clone(rest)
		for _, v := range values {
			l = append(l, api.Field{Name: "Connection", Value: v})
		}
		return l
	}
	checkStrip(t, list("a", "c"), of("b", "2"))
	checkStrip(t, list("a", "", "B"), of("c", "3"))
	// They are one list, and what is wrong with one is so with all.
	checkStrip(t, list("a", `"`), rest)
	checkStrip(t, list(`"a`, `b"`), rest)
	checkStrip(t, list("a", strings.Repeat("x,", 19)), of("b", "2", "c", "3"))
	checkStrip(t, list("a", strings.Repeat("x,", 20)), rest)
	checkStrip(t, list("a", long(997)), of("b", "2", "c", "3"))
	checkStrip(t, list("a", long(998)), rest)
}

func TestStripOfEachOfManyNames(t *testing.T) {
	var names []string
	var l []api.Field
	for i := range 20 {
		names = append(names, fmt.Sprintf("N%02d", i))
		l = append(l, api.Field{Name: fmt.Sprintf("n%02d", i), Value: "x"})
	}
	checkStrip(t, append(of("connection", strings.Join(names, ",")), l...), nil)
	for i := range names {
		others := slices.Delete(slices.Clone(names), i, i+1)
		checkStrip(t, append(of("connection", strings.Join(others, ",")), l...), l[i:i+1])
	}
}

// TestStripOfEachByteOfAName: letters A to Z alone are the same as others.
func TestStripOfEachByteOfAName(t *testing.T) {
	for c := range 256 {
		for d := range 256 {
			want := of("x"+one(d), "1")
			same := c == d || strings.ToLower(one(c)) == strings.ToLower(one(d)) && c < 128 && d < 128
			if same && !strings.Contains(" \t,\"", one(c)) {
				want = nil
			}
			checkStrip(t, of("Connection", "x"+one(c), "x"+one(d), "1"), want)
		}
	}
}

// P35: Freshen.

func checkFreshen(t *testing.T, old, now, want []api.Field) {
	t.Helper()
	if got := policy.Freshen(old, now); !slices.Equal(got, want) {
		t.Errorf("Freshen(%s, %s): %s, not %s", show(old), show(now), show(got), show(want))
	}
}

func TestFreshen(t *testing.T) {
	for _, c := range []struct{ old, now, want []api.Field }{
		{nil, nil, nil},
		{of("a", "1"), nil, of("a", "1")},
		{nil, of("a", "1"), of("a", "1")},
		{of("a", "1"), of("b", "2"), of("a", "1", "b", "2")},
		{of("a", "1"), of("a", "2"), of("a", "2")},
		{of("a", "1"), of("A", "2"), of("A", "2")},
		{of("A", "1"), of("a", ""), of("a", "")},
		{of("a", "1", "b", "2", "c", "3"), of("b", "4"), of("a", "1", "c", "3", "b", "4")},
		{of("a", "1", "b", "2", "A", "3"), of("a", "4"), of("b", "2", "a", "4")},
		{of("a", "1", "b", "2", "A", "3"), of("c", "4"), of("a", "1", "b", "2", "A", "3", "c", "4")},
		{of("a", "1"), of("a", "2", "b", "3", "A", "4"), of("a", "2", "b", "3", "A", "4")},
		{of("a", "1", "a", "1"), of("b", "2", "b", "2"), of("a", "1", "a", "1", "b", "2", "b", "2")},
		{of("", "1", "\xff", "2", " a", "3"), of("", "4", "\xff", "5", "a", "6"), of(" a", "3", "", "4", "\xff", "5", "a", "6")},
		{of("Warning", "1", "Age", "5"), of("Date", "x"), of("Warning", "1", "Age", "5", "Date", "x")},
		{of("\u00e4", "1"), of("\u00c4", "2"), of("\u00e4", "1", "\u00c4", "2")},
	} {
		checkFreshen(t, c.old, c.now, c.want)
	}
}

func TestFreshenLeavesWhatTellsOfTheBody(t *testing.T) {
	for _, name := range []string{"Content-Length", "Content-Range", "Content-Encoding", "Content-Type"} {
		upper, lower := strings.ToUpper(name), strings.ToLower(name)
		checkFreshen(t, of(name, "1"), of(name, "2"), of(name, "1"))
		checkFreshen(t, of(lower, "1"), of(upper, "2"), of(lower, "1"))
		checkFreshen(t, of(upper, "1"), of(lower, "2", upper, "3"), of(upper, "1"))
		checkFreshen(t, nil, of(name, "2", lower, "3"), nil)
		checkFreshen(t, of(name, "1", lower, "2"), nil, of(name, "1", lower, "2"))
		checkFreshen(t, of("a", "1", name, "2", "b", "3", upper, "4"), of("b", "5", name, "6", "c", "7"), of("a", "1", name, "2", upper, "4", "b", "5", "c", "7"))
		// A name that is listed as one that isn't passed on is no other one in old.
		checkFreshen(t, of(name, "1"), of("Connection", lower, name, "2"), of(name, "1"))
	}
	for _, name := range []string{"Content-Location", "Content-Language", "Content", "Content-Length2", "X-Content-Type", "Content-MD5", "ContentType"} {
		checkFreshen(t, of(name, "1"), of(name, "2"), of(name, "2"))
	}
}

func TestFreshenPassesOnWhatStripLeaves(t *testing.T) {
	for _, name := range []string{"Connection", "Keep-Alive", "Proxy-Connection", "TE", "Trailer", "Transfer-Encoding", "Upgrade"} {
		lower := strings.ToLower(name)
		checkFreshen(t, of("a", "1"), of(name, "x", "b", "2"), of("a", "1", "b", "2"))
		// A name that now has is none of old, though it isn't passed on.
		checkFreshen(t, of("a", "1", name, "x"), of(lower, "y"), of("a", "1"))
		// What was stored is not gone over.
		checkFreshen(t, of(name, "a", "a", "1"), of("b", "2"), of(name, "a", "a", "1", "b", "2"))
	}
	checkFreshen(t, of("a", "1", "b", "2"), of("Connection", "A, c", "a", "3", "c", "4", "d", "5"), of("b", "2", "d", "5"))
	checkFreshen(t, of("a", "1", "b", "2"), of("Connection", "a"), of("a", "1", "b", "2"))
	checkFreshen(t, of("a", "1"), of("c", "4", "Connection", `c, "`), of("a", "1", "c", "4"))
	checkFreshen(t, of("a", "1"), of("c", "4", "Connection", "x", "connection", "C"), of("a", "1"))
}

// TestFreshenOfShortLists holds Freshen against what its words say, for lists of few fields of few names.
func TestFreshenOfShortLists(t *testing.T) {
	names := []string{"a", "A", "TE", "Content-Type", "Connection"}
	body := func(f api.Field) bool { return f.Name == "Content-Type" }
	hop := func(f api.Field) bool { return f.Name == "TE" || f.Name == "Connection" }
	var lists [][]api.Field
	for i := range 156 {
		var l []api.Field
		for ; i > 0; i = (i - 1) / len(names) {
			l = append(l, api.Field{Name: names[(i-1)%len(names)], Value: fmt.Sprint("v", len(l))})
		}
		lists = append(lists, l)
	}
	for _, old := range lists {
		for _, now := range lists {
			var want []api.Field
			for _, f := range old {
				is := func(g api.Field) bool { return strings.EqualFold(f.Name, g.Name) }
				if body(f) || !slices.ContainsFunc(now, is) {
					want = append(want, f)
				}
			}
			for _, f := range now {
				if !body(f) && !hop(f) {
					want = append(want, f)
				}
			}
			checkFreshen(t, old, now, want)
		}
	}
}

// P35: Invalidates.

func TestInvalidates(t *testing.T) {
	for _, method := range []string{"PUT", "POST", "DELETE", "PATCH"} {
		for _, code := range codes() {
			if is := policy.Invalidates(method, code); is != (code >= 200 && code < 400) {
				t.Errorf("Invalidates(%q, %d): %v", method, code, is)
			}
		}
	}
	for _, method := range []string{"", "GET", "HEAD", "OPTIONS", "TRACE", "CONNECT", "put", "Put", "PUTS", "PU", " PUT", "PUT ", "post", "Delete", "patch", "PUTPOST", "*", "\x00", "\xff", long(1 << 12)} {
		for _, code := range codes() {
			if policy.Invalidates(method, code) {
				t.Errorf("Invalidates(%q, %d)", method, code)
			}
		}
	}
}
