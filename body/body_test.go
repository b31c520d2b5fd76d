package body_test

import (
	"math"
	"slices"
	"strconv"
	"strings"
	"testing"

	"larder/api"
	"larder/body"
)

func long(n int) string { return strings.Repeat("x", n) }

// fields answers a list of fields of these names and values, one behind the other.
func fields(texts ...string) []api.Field {
	var l []api.Field
	for pair := range slices.Chunk(texts, 2) {
		l = append(l, api.Field{Name: pair[0], Value: pair[1]})
	}
	return l
}

// lengths answers a list of fields that say these lengths.
func lengths(values ...string) []api.Field {
	var l []api.Field
	for _, v := range values {
		l = append(l, api.Field{Name: "Content-Length", Value: v})
	}
	return l
}

// P13.

type kind struct {
	kind, n int
	err     api.Errno
}

func checkKind(t *testing.T, request bool, method string, code int, l []api.Field, want kind) {
	t.Helper()
	var got kind
	got.kind, got.n, got.err = body.Kind(request, method, code, l)
	if got != want {
		t.Errorf("Kind(%v, %q, %d, %.60q): %v, not %v", request, method, code, l, got, want)
	}
}

// checkKinds asks of a request and of a response that may have a body.
func checkKinds(t *testing.T, want kind, lists ...[]api.Field) {
	t.Helper()
	for _, l := range lists {
		checkKind(t, true, "POST", 0, l, want)
		checkKind(t, false, "POST", 200, l, want)
	}
}

func TestKindWithoutFields(t *testing.T) {
	for _, l := range [][]api.Field{nil, {}, fields("Host", "a", "Length", "5"), fields("Content-Length ", "5"), fields("ContentLength", "5", "Transfer_Encoding", "chunked")} {
		checkKind(t, true, "GET", 0, l, kind{api.NoBody, 0, api.OK})
		checkKind(t, true, "HEAD", 200, l, kind{api.NoBody, 0, api.OK})
		checkKind(t, false, "GET", 200, l, kind{api.ToEnd, 0, api.OK})
		checkKind(t, false, "HEAD", 200, l, kind{api.NoBody, 0, api.OK})
	}
}

// kindCase is what Kind says of fields: of a request, and of a response that may have a body.
type kindCase struct {
	l                     []api.Field
	ofRequest, ofResponse kind
}

// kindCases have answers of each kind, and errors.
func kindCases() []kindCase {
	both := func(l []api.Field, k kind) kindCase { return kindCase{l, k, k} }
	return []kindCase{
		{nil, kind{api.NoBody, 0, api.OK}, kind{api.ToEnd, 0, api.OK}},
		both(lengths("5"), kind{api.Length, 5, api.OK}),
		both(lengths("5001"), kind{err: api.ErrLarge}),
		both(lengths("x"), kind{err: api.ErrForm}),
		both(fields("Transfer-Encoding", "chunked"), kind{api.Chunked, 0, api.OK}),
		both(fields("Transfer-Encoding", "gzip"), kind{err: api.ErrForm}),
		both(fields("Transfer-Encoding", "chunked", "Content-Length", "5"), kind{err: api.ErrForm}),
	}
}

func TestKindOfEachCode(t *testing.T) {
	for _, c := range kindCases() {
		for code := -10; code < 1100; code++ {
			want := c.ofResponse
			if code < 200 || code == 204 || code == 304 {
				want = kind{api.NoBody, 0, api.OK}
			}
			checkKind(t, false, "GET", code, c.l, want)
			checkKind(t, true, "GET", code, c.l, c.ofRequest)
		}
		checkKind(t, false, "GET", math.MinInt, c.l, kind{api.NoBody, 0, api.OK})
		checkKind(t, false, "GET", math.MaxInt, c.l, c.ofResponse)
		checkKind(t, false, "GET", 1<<32+204, c.l, c.ofResponse)
		checkKind(t, false, "GET", 1<<32, c.l, c.ofResponse)
	}
}

func TestKindOfEachMethod(t *testing.T) {
	for _, c := range kindCases() {
		checkKind(t, false, "HEAD", 200, c.l, kind{api.NoBody, 0, api.OK})
		checkKind(t, false, "HEAD", 599, c.l, kind{api.NoBody, 0, api.OK})
		checkKind(t, true, "HEAD", 200, c.l, c.ofRequest)
		for _, method := range []string{"", "GET", "head", "Head", "HEAD ", " HEAD", "HEADS", "HEA", "\x00", "POST", "CONNECT", "DELETE"} {
			checkKind(t, false, method, 200, c.l, c.ofResponse)
			checkKind(t, true, method, 200, c.l, c.ofRequest)
		}
	}
}

func TestKindOfCodings(t *testing.T) {
	for _, name := range []string{"Transfer-Encoding", "transfer-encoding", "TRANSFER-ENCODING"} {
		for _, value := range []string{"chunked", "Chunked", "CHUNKED", "chunkeD"} {
			checkKinds(t, kind{api.Chunked, 0, api.OK}, fields(name, value), fields("a", "b", name, value, "Content", "5"))
		}
		for _, value := range []string{
			"", " ", "chunked ", " chunked", "\tchunked", "chunked,", ",chunked", "chunked, chunked", "gzip, chunked", "chunked, gzip", "gzip", "identity",
			"chunke", "chunkedd", "xchunked", "chunked;a=b", `"chunked"`, "chun\u212aed", "chunked\x00", "5", long(2000),
		} {
			checkKinds(t, kind{err: api.ErrForm}, fields(name, value))
		}
	}
	// Several fields of that name are one list.
	checkKinds(t, kind{err: api.ErrForm},
		fields("Transfer-Encoding", "chunked", "transfer-encoding", "chunked"),
		fields("Transfer-Encoding", "gzip", "Transfer-Encoding", "chunked"),
		fields("Transfer-Encoding", "chunked", "Transfer-Encoding", ""))
}

func TestKindOfCodingAndLength(t *testing.T) {
	for _, coding := range []string{"chunked", "Chunked", "gzip", ""} {
		for _, length := range []string{"", "0", "5", "5001", "x", "5,6"} {
			checkKinds(t, kind{err: api.ErrForm},
				fields("Transfer-Encoding", coding, "Content-Length", length),
				fields("content-length", length, "TRANSFER-ENCODING", coding))
		}
	}
}

func TestKindOfEachLength(t *testing.T) {
	for n := range 12000 {
		text := strconv.Itoa(n)
		want := kind{api.Length, n, api.OK}
		switch {
		case n > 9999:
			want = kind{err: api.ErrForm}
		case n > 5000:
			want = kind{err: api.ErrLarge}
		}
		checkKinds(t, want, lengths(text), lengths(text, text), lengths(" "+text+"\t,,"+text))
		for _, other := range []string{"0" + text, "00" + text, "+" + text, "-" + text, text + ".", text + "_", "0x" + text, text + "a", text + ";", text + " " + text, `"` + text + `"`} {
			checkKinds(t, kind{err: api.ErrForm}, lengths(other))
		}
	}
}

func TestKindOfWrongLengths(t *testing.T) {
	for _, value := range []string{
		"", " ", ",", " , ,", "a", "5 5", "5;6", "5.0", "1e3", "0x5", "1_0", "-1", "-0", "+0", "00", "0000", "00000", "05", "10000", "99999",
		"9223372036854775808", "18446744073709551621", "4294967301", strings.Repeat("9", 999), "5\x00", "\x005", "5\r\n", "\u0665", "\uff15", "/", ":",
		`"`, `5,"`, `"5"`, `"5,5"`, "5,6", "6,5", "5,5,6", "5,05", "5,x", "x,x", "5001,5", "5,5001", "0,00", "5, 5 5",
	} {
		checkKinds(t, kind{err: api.ErrForm}, lengths(value), fields("a", "b", "CONTENT-length", value))
	}
	checkKinds(t, kind{err: api.ErrForm}, lengths("5", "6"), lengths("5", "5", "6"), lengths("5", "x"), lengths("", ""), lengths("5001", "5002"))
}

func TestKindOfRightLengths(t *testing.T) {
	checkKinds(t, kind{api.Length, 5, api.OK},
		lengths("5"), lengths(" 5"), lengths("5\t"), lengths("5,5"), lengths("5, 5 ,\t5"), lengths(",5,"), lengths("5", "5"), lengths("5", ""), lengths("", "5"), lengths("5,5", "5"),
		fields("content-LENGTH", "5"), fields("a", "b", "content-length", "5", "c", "6", "Content-Length", "5"))
	checkKinds(t, kind{api.Length, 0, api.OK}, lengths("0"), lengths("0,0"))
	checkKinds(t, kind{api.Length, 5000, api.OK}, lengths("5000"), lengths("5000,5000"))
	checkKinds(t, kind{err: api.ErrLarge}, lengths("5001"), lengths("5001,5001"), lengths("9999"), lengths("9999", "9999"))
}

func TestKindLimitsOfLists(t *testing.T) {
	checkKinds(t, kind{api.Length, 5, api.OK}, lengths(strings.Repeat("5,", 20)), lengths(slices.Repeat([]string{"5"}, 20)...), lengths("5"+strings.Repeat(" ", 999)))
	checkKinds(t, kind{err: api.ErrForm}, lengths(strings.Repeat("5,", 21)), lengths(slices.Repeat([]string{"5"}, 21)...), lengths("5"+strings.Repeat(" ", 1000)), lengths(strings.Repeat("5001,", 21)))
}

// P14.

type encodeCase struct {
	s    string
	size int
	text string
	err  api.Errno
}

func checkEncode(t *testing.T, cases []encodeCase) {
	t.Helper()
	for _, c := range cases {
		if s, e := body.Encode(c.s, c.size); s != c.text || e != c.err {
			t.Errorf("Encode(%.40q, %d): %.60q %d, not %.60q %d", c.s, c.size, s, e, c.text, c.err)
		}
	}
}

func TestEncode(t *testing.T) {
	checkEncode(t, []encodeCase{
		{"hello", 3, "3\r\nhel\r\n2\r\nlo\r\n0\r\n\r\n", api.OK},
		{"hello", 1, "1\r\nh\r\n1\r\ne\r\n1\r\nl\r\n1\r\nl\r\n1\r\no\r\n0\r\n\r\n", api.OK},
		{"hello", 4, "4\r\nhell\r\n1\r\no\r\n0\r\n\r\n", api.OK},
		{"hello", 5, "5\r\nhello\r\n0\r\n\r\n", api.OK},
		{"hello", 6, "5\r\nhello\r\n0\r\n\r\n", api.OK},
		{"hello", math.MaxInt, "5\r\nhello\r\n0\r\n\r\n", api.OK},
		{"hell", 2, "2\r\nhe\r\n2\r\nll\r\n0\r\n\r\n", api.OK},
		{"", 1, "0\r\n\r\n", api.OK},
		{"", math.MaxInt, "0\r\n\r\n", api.OK},
		{"\r\n0\r\n\r\n", 4, "4\r\n\r\n0\r\r\n3\r\n\n\r\n\r\n0\r\n\r\n", api.OK},
		{"\x00\xff\x80", 2, "2\r\n\x00\xff\r\n1\r\n\x80\r\n0\r\n\r\n", api.OK},
	})
}

func TestEncodeNumbers(t *testing.T) {
	for n, text := range map[int]string{9: "9", 10: "a", 11: "b", 12: "c", 13: "d", 14: "e", 15: "f", 16: "10", 31: "1f", 171: "ab", 255: "ff", 256: "100", 2748: "abc", 3567: "def", 4096: "1000", 5000: "1388"} {
		checkEncode(t, []encodeCase{
			{long(n), n, text + "\r\n" + long(n) + "\r\n0\r\n\r\n", api.OK},
			{long(n), 6000, text + "\r\n" + long(n) + "\r\n0\r\n\r\n", api.OK},
		})
	}
}

func TestEncodeLimits(t *testing.T) {
	checkEncode(t, []encodeCase{
		{long(5000), 5000, "1388\r\n" + long(5000) + "\r\n0\r\n\r\n", api.OK},
		{long(5000), 4999, "1387\r\n" + long(4999) + "\r\n1\r\nx\r\n0\r\n\r\n", api.OK},
		{long(5000), 1, strings.Repeat("1\r\nx\r\n", 5000) + "0\r\n\r\n", api.OK},
		{long(5001), 5000, "", api.ErrLarge},
		{long(5001), 1, "", api.ErrLarge},
		{long(100000), math.MaxInt, "", api.ErrLarge},
		{"a", 0, "", api.ErrArg},
		{"", 0, "", api.ErrArg},
		{"a", -1, "", api.ErrArg},
		{"", math.MinInt, "", api.ErrArg},
		{long(5001), 0, "", api.ErrArg},
		{long(5001), -1, "", api.ErrArg},
	})
}

// inChunks answers s in chunks, by other means than the program.
func inChunks(s string, size int) string {
	text := ""
	for piece := range slices.Chunk([]byte(s), size) {
		text += strconv.FormatUint(uint64(len(piece)), 16) + "\r\n" + string(piece) + "\r\n"
	}
	return text + "0\r\n\r\n"
}

func TestEncodeOfEachSize(t *testing.T) {
	for n := range 70 {
		s := strings.Repeat("ab\r\nc0", 20)[:n]
		for size := 1; size < 75; size++ {
			text := inChunks(s, size)
			checkEncode(t, []encodeCase{{s, size, text, api.OK}})
			checkDecode(t, text, decoded{s, len(text), api.OK})
			checkDecode(t, text+s, decoded{s, len(text), api.OK})
		}
	}
}
